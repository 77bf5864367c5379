/-
  Turns with shares: slices.Contains, haveShares and checkShared of the program; l07Shares and l07Given of the model; shares: areShares, unitsOf, l07Sum.
  Conditions: lists of at most 1048576 elements.
-/
import Derived.Test.YtgndbifcncklgaaClone
import Derived.Test.YtgndbifcncklgaaLvm
namespace Go.Proofs.Ytgndbifcncklgaa
open Go.RowKit Go.Shelf
attribute [local go_sem] Oper.semAt_some

theorem contains_no {xs : List Int} {v : Int} (h : ∀ j, j < xs.length → nth xs j ≠ v) : xs.contains v = false := by
  rw [Bool.eq_false_iff]
  intro hc
  have hm : v ∈ xs := by simpa using hc
  obtain ⟨j, hj, rfl⟩ := List.getElem_of_mem hm
  exact h j hj (nth_lt hj)
theorem contains_yes {xs : List Int} {k : Nat} (h : k < xs.length) : xs.contains (nth xs k) = true := by
  rw [List.contains_iff_mem]; exact nth_mem h

set_option maxRecDepth 100000 in
set_option maxHeartbeats 4000000 in
theorem sIndex_c (sv : Value) (xs : List Int) (v : Int) (w : World) (hI : Ints w.heap.size w sv xs) (hl : xs.length ≤ 1048576) :
    Calls Try.prog 105 #[sv, .int .i64 v] w fun e w' => (∃ r : Int, e = .returned (.int .i64 r) ∧ -1 ≤ r ∧ r ≤ 1048576 ∧ decide (0 ≤ r) = xs.contains v) ∧ w = w' := by
  obtain ⟨a, cap, rfl⟩ := hI.shape
  go_enter Try.func105, Try.ntmps105
  go_wp2_with fail
  go_loop [8] (fun i => ∃ k : Nat, k ≤ xs.length ∧ i = .int .i64 k ∧ ∀ j, j < k → nth xs j ≠ v) (fun i => xs.length - (intOf i).toNat)
  case atStart => exact ⟨0, Nat.zero_le _, rfl, by simp⟩
  case round =>
    obtain ⟨k, hk, rfl, hall⟩ := hrel
    have Hall := Lib.hid hall
    clear hall
    by_cases hlt : k < xs.length
    · obtain ⟨b, off, rfl, hb, hc⟩ := hI.at_ hlt
      have hcx := hc k hlt
      clear hc
      by_cases he : v = nth xs k
      · have hq : (v == nth xs k) = true := by rw [beq_iff_eq]; exact he
        have He := Lib.hid he
        clear he
        go_wp2
        go_ret
        exact ⟨⟨(k : Int), rfl, by omega, by omega, by have h1 := contains_yes hlt; rw [← He.out] at h1; first | (rw [h1]; simp; done) | (rw [List.contains_iff_mem] at h1; exact ⟨fun _ => h1, fun _ => by omega⟩)⟩, rfl⟩
      · have hq : (v == nth xs k) = false := by rw [beq_eq_false_iff_ne]; exact he
        have He := Lib.hid he
        clear he
        go_wp2
        go_round
        case rel => exact ⟨k + 1, by omega, by simp, fun j hj => by by_cases e : j = k; exact e ▸ fun e' => He.out e'.symm; exact Hall.out j (by omega)⟩
        case measure => simp [intOf]; omega
    · obtain rfl : k = xs.length := by omega
      go_wp2
      go_ret
      exact ⟨⟨-1, rfl, by omega, by omega, by have h1 := contains_no Hall.out; first | (rw [h1]; simp; done) | (exact ⟨fun h => absurd h (by omega), fun h => absurd (List.contains_iff_mem.2 h) (by rw [h1]; simp)⟩)⟩, rfl⟩

theorem sContains_c (sv : Value) (xs : List Int) (v : Int) (w : World) (hI : Ints w.heap.size w sv xs) (hl : xs.length ≤ 1048576) :
    Calls Try.prog 78 #[sv, .int .i64 v] w fun e w' => e = .returned (.bool (xs.contains v)) ∧ w = w' := by
  obtain ⟨a, cap, rfl⟩ := hI.shape
  go_enter Try.func78, Try.ntmps78
  go_wp2_with fail
  refine (sIndex_c _ xs v _ hI hl).mono ?_
  rintro e w' ⟨⟨r, rfl, h1, h2, h3⟩, rfl⟩
  have H3 := Lib.hid h3
  clear h3
  go_wp2
  go_ret
  exact ⟨ret_bool H3.out, rfl⟩

/-! ### turns with shares -/
/-- no idle slots, a turn for each task up to the greatest one, at most 60 slots -/
def sharedB (ts : List Int) : Bool := decide (ts.length ≤ 60) && (!(ts.contains (-1)) && (List.range (most ts).toNat).all fun (i : Nat) => ts.contains (i : Int))
def levC (ts : List Int) : Int := if turnsOk ts 8 then (if sharedB ts then 0 else 5) else 2
theorem mostTo_ge {ts : List Int} {k j : Nat} (hk : k ≤ ts.length) (hj : j < k) : nth ts j ≤ mostTo ts k := by
  induction k with
  | zero => omega
  | succ k ih =>
    rw [mostTo_succ (by omega)]
    by_cases e : j = k
    · subst e; omega
    · have := ih (by omega) (by omega); omega
theorem most_ge {ts : List Int} {j : Nat} (hj : j < ts.length) : nth ts j ≤ most ts := mostTo_ge (Nat.le_refl _) hj
theorem mostTo_mem (ts : List Int) {k : Nat} (hk : k ≤ ts.length) : mostTo ts k = -1 ∨ ∃ j, j < k ∧ nth ts j = mostTo ts k := by
  induction k with
  | zero => left; simp [mostTo]
  | succ k ih =>
    rw [mostTo_succ (by omega)]
    by_cases e : mostTo ts k ≤ nth ts k
    · right; exact ⟨k, by omega, by omega⟩
    · rcases ih (by omega) with h | ⟨j, hj, h⟩
      · left; omega
      · right; exact ⟨j, by omega, by omega⟩
theorem most_mem {ts : List Int} (h : 0 ≤ most ts) : ∃ j, j < ts.length ∧ nth ts j = most ts := by
  rcases mostTo_mem ts (Nat.le_refl _) with h1 | h1
  · unfold most at h; omega
  · exact h1
structure Shd (ts : List Int) : Prop where
  len : ts.length ≤ 60
  pos : 1 ≤ ts.length
  el : ∀ k, k < ts.length → 0 ≤ nth ts k ∧ nth ts k ≤ most ts
  top : 0 ≤ most ts ∧ most ts ≤ 7
  has : ∀ i : Nat, (i : Int) ≤ most ts → ts.contains (i : Int) = true
theorem most_nn {ts : List Int} (ht : turnsOk ts 8 = true) (hc : ts.contains (-1) = false) : 0 ≤ most ts := by
  have hl := turnsOk_len ht
  have h1 := turnsOk_nth ht (show 0 < ts.length by omega)
  have h2 := most_ge (show 0 < ts.length by omega)
  have h3 : nth ts 0 ≠ -1 := fun e => by have := contains_yes (show 0 < ts.length by omega); rw [e, hc] at this; cases this
  omega
theorem shd {ts : List Int} (ht : turnsOk ts 8 = true) (hs : sharedB ts = true) : Shd ts := by
  unfold sharedB at hs
  simp only [Bool.and_eq_true, decide_eq_true_eq, Bool.not_eq_true', List.all_eq_true, List.mem_range] at hs
  obtain ⟨h1, h2, h3⟩ := hs
  have h0 := most_nn ht h2
  have hb := most_bd ht
  have hl := turnsOk_len ht
  refine ⟨h1, hl.1, fun k hk => ?_, ⟨h0, hb.2⟩, fun i hi => ?_⟩
  · have a1 := turnsOk_nth ht hk
    have a2 := most_ge hk
    have a3 : nth ts k ≠ -1 := fun e => by have := contains_yes hk; rw [e, h2] at this; cases this
    omega
  · by_cases e : (i : Int) = most ts
    · obtain ⟨j, hj, hm⟩ := most_mem h0
      rw [e, ← hm]; exact contains_yes hj
    · exact h3 i (by omega)
theorem shd_back {ts : List Int} (h1 : ts.length ≤ 60) (h2 : ∀ k, k < ts.length → 0 ≤ nth ts k) (h3 : ∀ i : Nat, (i : Int) ≤ most ts → ts.contains (i : Int) = true) : sharedB ts = true := by
  unfold sharedB
  simp only [Bool.and_eq_true, decide_eq_true_eq, Bool.not_eq_true', List.all_eq_true, List.mem_range]
  refine ⟨h1, contains_no fun j hj e => ?_, fun i hi => h3 i (by omega)⟩
  have := h2 j hj; omega
theorem levC_bad {ts : List Int} (ht : turnsOk ts 8 = false) : levC ts = 2 := by unfold levC; rw [ht]; rfl
theorem levC_five {ts : List Int} (ht : turnsOk ts 8 = true) (hs : sharedB ts = false) : levC ts = 5 := by unfold levC; rw [ht, hs]; rfl
theorem levC_zero {ts : List Int} (ht : turnsOk ts 8 = true) (hs : sharedB ts = true) : levC ts = 0 := by unfold levC; rw [ht, hs]; rfl
theorem levC_cases (ts : List Int) : (turnsOk ts 8 = false ∧ levC ts = 2) ∨ (turnsOk ts 8 = true ∧ sharedB ts = false ∧ levC ts = 5) ∨ (turnsOk ts 8 = true ∧ sharedB ts = true ∧ levC ts = 0) := by
  cases ht : turnsOk ts 8
  · exact .inl ⟨rfl, levC_bad ht⟩
  · cases hs : sharedB ts
    · exact .inr (.inl ⟨rfl, rfl, levC_five ht hs⟩)
    · exact .inr (.inr ⟨rfl, rfl, levC_zero ht hs⟩)

end Go.Proofs.Ytgndbifcncklgaa
