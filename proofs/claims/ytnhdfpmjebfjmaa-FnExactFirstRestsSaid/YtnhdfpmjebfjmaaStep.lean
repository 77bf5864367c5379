/-
  The program's outlook of tasks, and its step.
  Conditions: states of tasks.
-/
import Derived.Test.YtnhdfpmjebfjmaaArr
namespace Go.Proofs.Ytnhdfpmjebfjmaa
open Go.RowKit Go.Shelf
attribute [local go_sem] Oper.semAt_some

/-- the state while a step is made: the numbers of the first k tasks are done -/
def stepK (gs st : List Int) (c : Int) (k : Nat) : List Int := (List.range st.length).map fun (i : Nat) => if i < k then (if (i : Int) = c then nth gs i else nth st i - 1) else nth st i
theorem nth_stepK {gs st : List Int} {c : Int} {k i : Nat} : nth (stepK gs st c k) i = if i < st.length then (if i < k then (if (i : Int) = c then nth gs i else nth st i - 1) else nth st i) else 0 := by
  by_cases h : i < st.length
  · simp [nth, stepK, h]
  · simp [nth, stepK, h]
theorem stepK_zero (gs st : List Int) (c : Int) (i : Nat) : nth (stepK gs st c 0) i = nth st i := by
  rw [nth_stepK]
  by_cases h : i < st.length
  · rw [if_pos h, if_neg (by omega)]
  · rw [if_neg h]; unfold nth; rw [List.getElem?_eq_none (by omega)]; rfl
theorem stepK_all (gs st : List Int) (c : Int) : stepK gs st c st.length = stepL gs st c := by
  refine ext_nth (by simp [stepK, stepL]) fun i hi => ?_
  have hi' : i < st.length := by simpa [stepK] using hi
  rw [nth_stepK, if_pos hi', if_pos hi', nth_stepL hi']
theorem stepK_succ {gs st : List Int} {c : Int} {k : Nat} (hk : k < st.length) (j : Nat) : nth (stepK gs st c (k + 1)) j = if j = k then (if (k : Int) = c then nth gs k else nth st k - 1) else nth (stepK gs st c k) j := by
  rw [nth_stepK, nth_stepK]
  by_cases e : j = k
  · subst e; rw [if_pos hk, if_pos (by omega), if_pos rfl]
  · rw [if_neg e]
    by_cases h : j < st.length
    · rw [if_pos h, if_pos h]
      by_cases h2 : j < k
      · rw [if_pos (by omega), if_pos h2]
      · rw [if_neg (by omega), if_neg h2]
    · rw [if_neg h, if_neg h]
theorem stepK_at {gs st : List Int} {c : Int} {k : Nat} (hk : k < st.length) : nth (stepK gs st c k) k = nth st k := by
  rw [nth_stepK, if_pos hk, if_neg (by omega)]

end Go.Proofs.Ytnhdfpmjebfjmaa
