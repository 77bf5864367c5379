/-
  States of the program, as arrays: what is a state, a choice; the array of a list and the list of an array; steps; StepState of the program.
  Conditions: lists of at most 1048576 elements; where an array is made, numbers from 0 to 255.
-/
import Derived.Test.YtnhdfpmjebfjmaaStS
namespace Go.Proofs.Ytnhdfpmjebfjmaa
open Go.RowKit Go.Shelf
attribute [local go_sem] Oper.semAt_some

theorem nth_take_u8 {zs : List Int} {k : Nat} (hk : k < zs.length) (j : Nat) : nth (zs.take (k + 1)) j = if j = k then nth zs k else nth (zs.take k) j := by
  unfold nth
  by_cases h : j = k
  · subst h; rw [if_pos rfl, List.getElem?_take_of_lt (by omega)]
  · rw [if_neg h]
    by_cases hj : j < k
    · rw [List.getElem?_take_of_lt (by omega), List.getElem?_take_of_lt hj]
    · rw [List.getElem?_eq_none (by simp; omega), List.getElem?_eq_none (by simp; omega)]

end Go.Proofs.Ytnhdfpmjebfjmaa
