/-
  GreatestWaits: slices.Max, GreatestWaits of both.
  Conditions: lists of at most 1048576 elements.
-/
import Derived.Test.YtgndbifcncklgaaServe
namespace Go.Proofs.Ytgndbifcncklgaa
open Go.RowKit Go.Shelf

def mostTo (ts : List Int) (k : Nat) : Int := (ts.take k).foldl max (-1)
theorem mostTo_succ {ts : List Int} {k : Nat} (h : k < ts.length) : mostTo ts (k + 1) = max (mostTo ts k) (nth ts k) := by
  unfold mostTo; rw [take_snoc h]; simp
def most (ts : List Int) : Int := mostTo ts ts.length
theorem mostTo_bd {ts : List Int} (h : turnsOk ts 8 = true) {k : Nat} (hk : k ≤ ts.length) : -1 ≤ mostTo ts k ∧ mostTo ts k ≤ 7 := by
  induction k with
  | zero => simp [mostTo]
  | succ k ih =>
    have h1 := ih (by omega)
    have h2 := turnsOk_nth h (show k < ts.length by omega)
    rw [mostTo_succ (by omega)]; omega
/-- the greatest waits of the tasks below n -/
def greatL (ts : List Int) (n : Nat) : List Int := (List.range n).map fun (j : Nat) => greatW ts (j : Int)
theorem greatL_zero (ts : List Int) : greatL ts 0 = [] := rfl
theorem greatL_succ (ts : List Int) (n : Nat) : greatL ts (n + 1) = greatL ts n ++ [greatW ts (n : Int)] := by simp [greatL, List.range_succ]
theorem greatL_length (ts : List Int) (n : Nat) : (greatL ts n).length = n := by simp [greatL]

set_option maxRecDepth 100000 in
set_option maxHeartbeats 8000000 in
theorem max_c (sv : Value) (ts : List Int) (w : World) (hI : Ints w.heap.size w sv ts) (hl : turnsOk ts 8 = true) :
    Calls Try.prog 115 #[sv] w fun e w' => e = .returned (.int .i64 (most ts)) ∧ w = w' := by
  obtain ⟨a, cap, rfl⟩ := hI.shape
  have hb := turnsOk_len hl
  obtain ⟨b, off, rfl, hbb, hc⟩ := hI.at_ (show 0 < ts.length by omega)
  have h0 : w.cell? ⟨b, off, none⟩ = some (.int .i64 (nth ts 0)) := by simpa using hc 0 (by omega)
  have e1 : mostTo ts 1 = nth ts 0 := by
    have := turnsOk_nth hl (show 0 < ts.length by omega)
    rw [mostTo_succ (by omega)]; simp [mostTo]; omega
  have hn0 := turnsOk_nth hl (show 0 < ts.length by omega)
  go_enter Try.func115, Try.ntmps115
  clear hc
  go_wp2
  rw [← e1]
  clear e1 h0
  go_loop [4, 3] (fun i m => ∃ k : Nat, 1 ≤ k ∧ k ≤ ts.length ∧ i = .int .i64 k ∧ m = .int .i64 (mostTo ts k)) (fun i _ => ts.length - (intOf i).toNat)
  case atStart => exact ⟨1, Nat.le_refl _, hb.1, rfl, rfl⟩
  case round =>
    obtain ⟨k, hk1, hk, rfl, rfl⟩ := hrel
    by_cases hlt : k < ts.length
    · obtain ⟨b2, off2, hs, hb2, hc⟩ := hI.at_ hlt
      cases hs
      have hcx := hc k hlt
      have hs := mostTo_succ hlt
      have Hs := Lib.hid hs
      clear hc hs
      go_wp2
      exact ⟨⟨k + 1, by omega, by omega, by simp, by rw [Hs.out]; congr 1; omega⟩, by simp [intOf]; omega⟩
    · obtain rfl : k = ts.length := by omega
      go_wp2
      go_ret
      exact ⟨ret_int rfl, rfl⟩

def greatR (ts : List Int) : List Int := if turnsOk ts 8 then greatL ts (most ts + 1).toNat else []
def greatC (ts : List Int) : Int := if turnsOk ts 8 then 0 else 2
theorem most_bd {ts : List Int} (h : turnsOk ts 8 = true) : -1 ≤ most ts ∧ most ts ≤ 7 := mostTo_bd h (Nat.le_refl _)
theorem greatR_len (ts : List Int) : (greatR ts).length * 8 ≤ 140737488351232 := by
  unfold greatR; split
  · rename_i h; have := most_bd h; rw [greatL_length]; omega
  · simp

end Go.Proofs.Ytgndbifcncklgaa
