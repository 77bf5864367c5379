/-
  The program's greatestWait; WaitsOf of both.
  Conditions: lists of at most 1048576 elements.
-/
import Derived.Test.YtgndbifcncklgaaWaitsS
namespace Go.Proofs.Ytgndbifcncklgaa
open Go.RowKit Go.Shelf
attribute [local go_sem] Oper.semAt_some

theorem waitsL_length (zs : List Int) (i : Int) : (waitsL zs i).length = (slotsL zs i).length := by
  unfold waitsL; split
  · simp; omega
  · simp [diffs_length]; omega
theorem waitsL_le (zs : List Int) (i : Int) : (waitsL zs i).length ≤ zs.length := by rw [waitsL_length]; exact slotsL_length zs i
theorem maxTo_vals {zs : List Int} (pre : List (Fin zs.length)) (x : Fin zs.length) : maxTo (vals zs (pre ++ [x])) = max (maxTo (vals zs pre)) (nth zs x.1) := by rw [vals_snoc, maxTo_snoc]

/-! ### WaitsOf -/
def waitsC (ts : List Int) (i : Int) : Int := if turnsOk ts 8 && inB i 0 7 then 0 else 2
def waitsR (ts : List Int) (i : Int) : List Int := if turnsOk ts 8 && inB i 0 7 then waitsL ts i else []
theorem waitsR_len (ts : List Int) (i : Int) : (waitsR ts i).length * 8 ≤ 140737488351232 := by
  unfold waitsR; split
  · rename_i h
    simp at h
    have := turnsOk_len h.1
    have := waitsL_le ts i
    omega
  · simp

end Go.Proofs.Ytgndbifcncklgaa
