/-
  GreatestWaits: slices.Max, GreatestWaits of both.
  Conditions: lists of at most 1048576 elements.
-/
import Derived.Test.YtieobjoijalijaaServe
namespace Go.Proofs.Ytieobjoijalijaa
open Go.RowKit Go.Shelf

def mostTo (ts : List Int) (k : Nat) : Int := (ts.take k).foldl max (-1)
theorem mostTo_succ {ts : List Int} {k : Nat} (h : k < ts.length) : mostTo ts (k + 1) = max (mostTo ts k) (nth ts k) := by
  unfold mostTo; rw [take_snoc h]; simp
def most (ts : List Int) : Int := mostTo ts ts.length
theorem mostTo_bd {ts : List Int} (h : turnsOk ts 8 = true) {k : Nat} (hk : k ≤ ts.length) : -1 ≤ mostTo ts k ∧ mostTo ts k ≤ 7 := by
  induction k with
  | zero => simp [mostTo]
  | succ k ih =>
    have h1 := ih (by omega)
    have h2 := turnsOk_nth h (show k < ts.length by omega)
    rw [mostTo_succ (by omega)]; omega
/-- the greatest waits of the tasks below n -/
def greatL (ts : List Int) (n : Nat) : List Int := (List.range n).map fun (j : Nat) => greatW ts (j : Int)
theorem greatL_zero (ts : List Int) : greatL ts 0 = [] := rfl
theorem greatL_succ (ts : List Int) (n : Nat) : greatL ts (n + 1) = greatL ts n ++ [greatW ts (n : Int)] := by simp [greatL, List.range_succ]
theorem greatL_length (ts : List Int) (n : Nat) : (greatL ts n).length = n := by simp [greatL]

def greatR (ts : List Int) : List Int := if turnsOk ts 8 then greatL ts (most ts + 1).toNat else []
def greatC (ts : List Int) : Int := if turnsOk ts 8 then 0 else 2
theorem most_bd {ts : List Int} (h : turnsOk ts 8 = true) : -1 ≤ most ts ∧ most ts ≤ 7 := mostTo_bd h (Nat.le_refl _)
theorem greatR_len (ts : List Int) : (greatR ts).length * 8 ≤ 140737488351232 := by
  unfold greatR; split
  · rename_i h; have := most_bd h; rw [greatL_length]; omega
  · simp

end Go.Proofs.Ytieobjoijalijaa
