/-
  States of the model: what is a state, steps, numbers of states; StepState of the model.
  Conditions: lists of at most 1048576 elements; where a step or a number is asked, a state of tasks.
-/
import Derived.Test.YtgndbifcncklgaaCount
namespace Go.Proofs.Ytgndbifcncklgaa
open Go.RowKit Go.Shelf
attribute [local go_sem] Oper.semAt_some

def stOk (zs st : List Int) : Bool := decide (st.length = zs.length) && (List.range zs.length).all fun i => inB (nth st i) 1 (nth zs i)
theorem stOk_iff {zs st : List Int} : stOk zs st = true ↔ IsSt zs st := by
  unfold stOk IsSt
  simp only [Bool.and_eq_true, decide_eq_true_eq, List.all_eq_true, List.mem_range, inB_true]
theorem stOk_no {zs st : List Int} {k : Nat} (hk : k < zs.length) (h : inB (nth st k) 1 (nth zs k) = false) : stOk zs st = false := by
  cases hs : stOk zs st
  · rfl
  · have := (stOk_iff.1 hs).2 k hk
    rw [inB_false] at h; omega
theorem stOk_yes {zs st : List Int} (hl : st.length = zs.length) (h : ∀ k, k < zs.length → inB (nth st k) 1 (nth zs k) = true) : stOk zs st = true :=
  stOk_iff.2 ⟨hl, fun k hk => inB_true.1 (h k hk)⟩
/-- the code of tasks and a state -/
def stCode (zs st : List Int) : Int := if tasksOk zs then if stOk zs st then 0 else 2 else 1

theorem l01In_q (d : Bool) (z a b : Int) (w : World) (hd : inB z a b = d) :
    Calls Try.prog 76 #[.int .i64 z, .int .i64 a, .int .i64 b] w fun e w' => e = .returned (.bool d) ∧ w' = w :=
  (l01In_d d z a b w hd).mono fun _ _ h => ⟨h.1, h.2.symm⟩

/-! ### steps -/
theorem stepL_take {gs st : List Int} {c : Int} {k : Nat} (h : k < st.length) : (stepL gs st c).take (k + 1) = (stepL gs st c).take k ++ [if (k : Int) = c then nth gs k else nth st k - 1] := by
  rw [take_snoc (by rwa [stepL_length]), nth_stepL h]
theorem stepL_all (gs st : List Int) (c : Int) : (stepL gs st c).take st.length = stepL gs st c := by
  rw [← stepL_length gs st c, List.take_length]
instance (st : List Int) (c : Int) : Decidable (Opn st c) := inferInstanceAs (Decidable (∀ i : Nat, i < st.length → (i : Int) ≠ c → nth st i ≠ 1))
theorem ownI_empty2 {B : Nat} (w : World) (h : B ≤ w.heap.size) : OwnI B (w.alloc (.cells #[] 2)) (.slice (some ⟨w.heap.size, 0, none⟩) 0 0) [] := World.ownsRow_made w #[] 0 h (by unfold maxLen; omega) rfl
/-- what the step function of the model hands back -/
def StepPost (w : World) (zs st : List Int) (c : Int) (e : Ending) (w' : World) : Prop :=
  (Opn st c ∧ ∃ v, e = .returned (.tuple #[v, .bool true]) ∧ OwnI w.heap.size w' v (stepL zs st c) ∧ Below w.heap.size w w') ∨
  (¬ Opn st c ∧ e = .returned (.tuple #[.slice none 0 0, .bool false]) ∧ Below w.heap.size w w')

/-! ### StepState -/
def stepC (zs st : List Int) (c : Int) : Int := if stCode zs st = 0 then (if inB c (-1) (zs.length - 1) then (if Opn st c then 0 else 4) else 2) else stCode zs st
def stepR (zs st : List Int) (c : Int) : List Int := if stepC zs st c = 0 then stepL zs st c else []
theorem stCode_zero {zs st : List Int} (h : stCode zs st = 0) : tasksOk zs = true ∧ IsSt zs st := by
  unfold stCode at h
  cases h1 : tasksOk zs
  · rw [h1] at h; simp at h
  · cases h2 : stOk zs st
    · rw [h1, h2] at h; simp at h
    · exact ⟨rfl, stOk_iff.1 h2⟩
theorem stCode_bd (zs st : List Int) : 0 ≤ stCode zs st ∧ stCode zs st ≤ 2 := by unfold stCode; split <;> (try split) <;> omega
theorem stepR_len (zs st : List Int) (c : Int) : (stepR zs st c).length * 8 ≤ 140737488351232 := by
  unfold stepR
  split
  · rename_i h
    have h0 : stCode zs st = 0 := by
      by_cases h0 : stCode zs st = 0
      · exact h0
      · unfold stepC at h; rw [if_neg h0] at h; exact h
    obtain ⟨h1, h2⟩ := stCode_zero h0
    have := tasksOk_len h1
    rw [stepL_length, h2.1]; omega
  · simp

end Go.Proofs.Ytgndbifcncklgaa
