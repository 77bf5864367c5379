/-
  GapsServed of both.
  Conditions: lists of at most 1048576 elements.
-/
import Derived.Test.YtahleajedgehlaaDoor
import Derived.Test.YtahleajedgehlaaLog
import Derived.Test.YtahleajedgehlaaRen
namespace Go.Proofs.Ytahleajedgehlaa
open Go.RowKit Go.Shelf
attribute [local go_sem] Oper.semAt_some

/-! ### the mathematics -/
def gasOk (ts : List Int) (k : Int) : Bool := inB k 1 8 && turnsOk ts k
def noWait (ts : List Int) (n : Nat) : Bool := (List.range n).any fun (j : Nat) => greatW ts (j : Int) == 0
def gasC (ts : List Int) (k : Int) : Int := if gasOk ts k then (if noWait ts k.toNat then 4 else if tasksOk (greatL ts k.toNat) then 0 else 3) else 2
def gasR (ts : List Int) (k : Int) : List Int := if gasC ts k = 0 then greatL ts k.toNat else []
theorem nth_greatL {ts : List Int} {n j : Nat} (h : j < n) : nth (greatL ts n) j = greatW ts (j : Int) := by simp [nth, greatL, h]
theorem noWait_at {ts : List Int} {n j : Nat} (h : j < n) (h0 : greatW ts (j : Int) = 0) : noWait ts n = true := by
  unfold noWait; rw [List.any_eq_true]; exact ⟨j, by simpa using h, by simp [h0]⟩
theorem noWait_no {ts : List Int} {n : Nat} (h : ∀ j, j < n → greatW ts (j : Int) ≠ 0) : noWait ts n = false := by
  unfold noWait; rw [List.any_eq_false]; intro j hj; simp at hj; simpa using h j hj
theorem noWait_least {ts : List Int} {n : Nat} (h0 : 0 < n) : noWait ts n = decide (leastL (greatL ts n) ≤ 0) := by
  obtain ⟨j, hj, e⟩ := leastL_mem (zs := greatL ts n) (by rw [greatL_length]; exact h0)
  rw [greatL_length] at hj
  rw [nth_greatL hj] at e
  by_cases h : leastL (greatL ts n) ≤ 0
  · rw [decide_eq_true h]
    have := greatW_bd ts (j : Int)
    exact noWait_at hj (by omega)
  · rw [decide_eq_false h]
    refine noWait_no fun i hi e2 => ?_
    have := leastL_le (zs := greatL ts n) (j := i) (by rw [greatL_length]; exact hi)
    rw [nth_greatL hi, e2] at this
    omega
theorem mostTo_ge {zs : List Int} {k j : Nat} (hk : k ≤ zs.length) (h : j < k) : nth zs j ≤ mostTo zs k := by
  induction k with
  | zero => omega
  | succ k ih =>
    rw [mostTo_succ (by omega)]
    by_cases e : j = k
    · subst e; omega
    · have := ih (by omega) (by omega); omega
theorem mostTo_le {zs : List Int} {k : Nat} {m : Int} (hk : k ≤ zs.length) (hm : -1 ≤ m) (h : ∀ j, j < k → nth zs j ≤ m) : mostTo zs k ≤ m := by
  induction k with
  | zero => simp [mostTo]; exact hm
  | succ k ih =>
    rw [mostTo_succ (by omega)]
    have := ih (by omega) (fun j hj => h j (by omega))
    have := h k (by omega)
    omega
theorem tasksOk_most {ts : List Int} {n : Nat} (h0 : 0 < n) (h8 : n ≤ 8) (hw : noWait ts n = false) : tasksOk (greatL ts n) = decide (most (greatL ts n) ≤ 40) := by
  have hpos : ∀ j, j < n → 1 ≤ greatW ts (j : Int) := fun j hj => by
    have := greatW_bd ts (j : Int)
    by_cases e : greatW ts (j : Int) = 0
    · rw [noWait_at hj e] at hw; cases hw
    · omega
  by_cases h : most (greatL ts n) ≤ 40
  · rw [decide_eq_true h]
    unfold tasksOk
    rw [Bool.and_eq_true, List.all_eq_true]
    refine ⟨fun z hz => ?_, by rw [greatL_length]; exact inB_true.2 ⟨by omega, by omega⟩⟩
    unfold greatL at hz
    obtain ⟨j, hj, rfl⟩ := List.mem_map.1 hz
    simp at hj
    have h1 := hpos j hj
    have h2 := mostTo_ge (zs := greatL ts n) (k := (greatL ts n).length) (j := j) (Nat.le_refl _) (by rw [greatL_length]; exact hj)
    rw [nth_greatL hj] at h2
    unfold most at h
    exact inB_true.2 ⟨h1, by omega⟩
  · rw [decide_eq_false h]
    cases e : tasksOk (greatL ts n)
    · rfl
    · exfalso; apply h
      unfold most
      refine mostTo_le (Nat.le_refl _) (by omega) fun j hj => ?_
      exact (tasksOk_nth e hj).2
theorem gasR_len (ts : List Int) (k : Int) : (gasR ts k).length * 8 ≤ 140737488351232 := by
  unfold gasR
  split
  · rename_i h
    have hk : gasOk ts k = true := by
      cases e : gasOk ts k
      · unfold gasC at h; rw [e] at h; simp at h
      · rfl
    unfold gasOk at hk
    rw [Bool.and_eq_true] at hk
    have := inB_true.1 hk.1
    rw [greatL_length]; omega
  · simp

set_option maxRecDepth 100000 in
set_option maxHeartbeats 8000000 in
theorem maxG_c (sv : Value) (ts : List Int) (w : World) (hI : Ints w.heap.size w sv ts) (hp : 0 < ts.length) (h1 : ∀ k, k < ts.length → -1 ≤ nth ts k) (hl : ts.length ≤ 1048576) :
    Calls Try.prog 24 #[sv] w fun e w' => e = .returned (.int .i64 (most ts)) ∧ w = w' := by
  obtain ⟨a, cap, rfl⟩ := hI.shape
  obtain ⟨b, off, rfl, hbb, hc⟩ := hI.at_ hp
  have h0 : w.cell? ⟨b, off, none⟩ = some (.int .i64 (nth ts 0)) := by simpa using hc 0 (by omega)
  have e1 : mostTo ts 1 = nth ts 0 := by
    have := h1 0 hp
    rw [mostTo_succ (by omega)]; simp [mostTo]; omega
  clear h1
  go_enter Try.func24, Try.ntmps24
  clear hc
  go_wp2
  rw [← e1]
  clear e1 h0
  go_loop [4, 3] (fun i m => ∃ k : Nat, 1 ≤ k ∧ k ≤ ts.length ∧ i = .int .i64 k ∧ m = .int .i64 (mostTo ts k)) (fun i _ => ts.length - (intOf i).toNat)
  case atStart => exact ⟨1, Nat.le_refl _, hp, rfl, rfl⟩
  case round =>
    obtain ⟨k, hk1, hk, rfl, rfl⟩ := hrel
    by_cases hlt : k < ts.length
    · obtain ⟨b2, off2, hs, hb2, hc⟩ := hI.at_ hlt
      cases hs
      have hcx := hc k hlt
      have hs := mostTo_succ hlt
      have Hs := Lib.hid hs
      clear hc hs
      go_wp2
      exact ⟨⟨k + 1, by omega, by omega, by simp, by rw [Hs.out]; congr 1; omega⟩, by simp [intOf]; omega⟩
    · obtain rfl : k = ts.length := by omega
      go_wp2
      go_ret
      exact ⟨ret_int rfl, rfl⟩

theorem ownI_ne_box3 {B b : Nat} {W : World} {v u : Value} {zs : List Int} (h : OwnI B W v zs) (hb : Boxed W b 24 u) : v.ownBlock ≠ some b := by
  intro e
  obtain ⟨_, h2⟩ := h
  rcases h2 with ⟨rfl, _⟩ | ⟨g, cap, cur, rfl, _, hh, _⟩
  · simp [Value.ownBlock] at e
  · obtain rfl : g = b := by simpa [Value.ownBlock] using e
    have := hh.symm.trans hb
    simp at this

theorem demand_y (b : Bool) (c : Int) (w : World) (hb : b = true) : Calls Try.prog 35 #[.bool b, .int .i64 c] w fun e w' => e = .returned (.tuple #[]) ∧ w = w' := by subst hb; exact demand_yes c w

theorem demand_n (b : Bool) (c : Int) (w : World) (hb : b = false) : Calls Try.prog 35 #[.bool b, .int .i64 c] w fun e w' => e = .panicked (refused c) ∧ w = w' := by subst hb; exact demand_no c w

end Go.Proofs.Ytahleajedgehlaa
