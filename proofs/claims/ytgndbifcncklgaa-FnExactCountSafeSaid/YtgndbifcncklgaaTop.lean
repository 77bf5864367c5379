/-
  IsLasting and CanServe of the program.
  Conditions: lists of at most 1048576 elements.
-/
import Derived.Test.YtgndbifcncklgaaLastC
namespace Go.Proofs.Ytgndbifcncklgaa
open Go.RowKit Go.Shelf Go.Maps
attribute [local go_sem] Oper.semAt_some

theorem allSt_length {gs : List Int} : (allSt gs).length = cntN gs := by
  induction gs with
  | nil => rfl
  | cons g gs ih =>
    simp only [allSt, cntN, List.length_flatMap, List.length_map, ih]
    rw [List.map_const', List.sum_replicate_nat]
    simp
theorem unk_bd {gs : List Int} (ht : tasksOk gs = true) (K : Known) : 2 * unk gs K ≤ 1000000000000000 := by
  have h1 : unk gs K ≤ cntN gs := by unfold unk; rw [← allSt_length]; exact List.countP_le_length
  have h2 := cntL_cntN (pos_of ht)
  have h3 := (cntP_top ht (Nat.le_refl gs.length)).2
  unfold cntL at h2
  omega
theorem kgood_none (gs : List Int) : KGood gs (fun _ => none) := ⟨⟨fun x h => absurd rfl h, fun x h => by cases h⟩, fun x h => by cases h⟩
/-- few states -/
def fewC (zs : List Int) : Int := if tasksOk zs then (if 4000 < cntL zs then 3 else 0) else 1
def givenC (zs st : List Int) : Int := if stCode zs st = 0 then fewC zs else stCode zs st
theorem fewC_ok {zs : List Int} (h : fewC zs = 0) : tasksOk zs = true ∧ cntL zs ≤ 4000 := by
  unfold fewC at h
  cases ht : tasksOk zs
  · rw [ht] at h; simp at h
  · rw [ht] at h
    by_cases h4 : 4000 < cntL zs
    · rw [if_pos rfl, if_pos h4] at h; simp at h
    · exact ⟨rfl, by omega⟩
theorem fewC_bd (zs : List Int) : 0 ≤ fewC zs ∧ fewC zs ≤ 3 := by unfold fewC; split <;> (try split) <;> omega
theorem givenC_ok {zs st : List Int} (h : givenC zs st = 0) : stCode zs st = 0 ∧ fewC zs = 0 := by
  unfold givenC at h
  by_cases h0 : stCode zs st = 0
  · rw [if_pos h0] at h; exact ⟨h0, h⟩
  · rw [if_neg h0] at h; exact absurd h h0

end Go.Proofs.Ytgndbifcncklgaa
