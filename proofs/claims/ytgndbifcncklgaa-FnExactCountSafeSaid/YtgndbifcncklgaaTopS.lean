/-
  IsLasting and CanServe of the model.
  Conditions: lists of at most 1048576 elements.
-/
import Derived.Test.YtgndbifcncklgaaLasS
import Derived.Test.YtgndbifcncklgaaTopI
namespace Go.Proofs.Ytgndbifcncklgaa
open Go.RowKit Go.Shelf
attribute [local go_sem] Oper.semAt_some

open Classical in
theorem bAt_last {zs st : List Int} (hp : Pos zs) (hs : IsSt zs st) : bAt (lastB zs) (numL zs st) = decide (Lasting zs st) := by
  obtain ⟨m, h1, h2, h3⟩ := num_nat hp hs
  unfold bAt lastB
  rw [h1, Int.toNat_natCast, List.getElem?_map, List.getElem?_range h2]
  simp only [Option.map_some, Option.getD_some, h3]
theorem lastB_length (zs : List Int) : (lastB zs).length = cntN zs := by simp [lastB]
theorem givenC_bd (zs st : List Int) : 0 ≤ givenC zs st ∧ givenC zs st ≤ 3 := by
  have h1 := stCode_bd zs st
  have h2 := fewC_bd zs
  unfold givenC; split <;> omega

end Go.Proofs.Ytgndbifcncklgaa
