/-
  IsLasting and CanServe of the model.
  Conditions: lists of at most 1048576 elements.
-/
import Derived.Test.YtieobjoijalijaaLasS
import Derived.Test.YtieobjoijalijaaTopI
namespace Go.Proofs.Ytieobjoijalijaa
open Go.RowKit Go.Shelf
attribute [local go_sem] Oper.semAt_some

set_option maxRecDepth 100000 in
set_option maxHeartbeats 8000000 in
theorem l02Few_c (c0 : Value) (zs : List Int) (w : World) (hI : Ints w.heap.size w c0 zs) (hm : zs.length ≤ 1048576) :
    Calls Try.prog 65 #[.agg #[c0]] w fun e w' => e = .returned (.int .i64 (fewC zs)) ∧ Below w.heap.size w w' := by
  obtain ⟨a, cap, rfl⟩ := hI.shape
  have hB0 : Below w.heap.size w (w.alloc (.cells #[.slice a zs.length cap] 28)) := (Below.refl _ w).alloc (Nat.le_refl _) _
  cases ht : tasksOk zs
  · have Hf := Lib.hid (show fewC zs = 1 by unfold fewC; rw [ht]; rfl)
    have Ht := Lib.hid ht
    clear ht
    go_enter Try.func65, Try.ntmps65
    go_wp2_with fail
    refine (l01Is_c _ zs _ (hI.later hB0) (by omega)).mono ?_
    rintro e w1 ⟨he, hb⟩
    rw [Ht.out] at he
    subst he
    go_wp2
    go_ret
    exact ⟨ret_int Hf.out.symm, hB0.trans (hb.mono (by simp))⟩
  · have Ht := Lib.hid ht
    by_cases h4 : 4000 < cntL zs
    · have Hf := Lib.hid (show fewC zs = 3 by unfold fewC; rw [ht, if_pos rfl, if_pos h4])
      clear ht
      go_enter Try.func65, Try.ntmps65
      go_wp2_with fail
      refine (l01Is_c _ zs _ (hI.later hB0) (by omega)).mono ?_
      rintro e w1 ⟨he, hb⟩
      rw [Ht.out] at he
      subst he
      have b1 : Boxed w1 w.heap.size 28 (.slice a zs.length cap) := boxed_later (Boxed.new _ _ _) hb
      have k1 := b1.cell
      have hB1 := hB0.trans (hb.mono (by simp))
      go_wp2_with fail
      refine (l02Count_c _ zs _ (hI.later hB1) Ht.out).mono ?_
      rintro e w2 ⟨rfl, hb2⟩
      go_wp2
      go_ret
      exact ⟨ret_int Hf.out.symm, hB1.trans (hb2.mono hB1.size)⟩
    · have Hf := Lib.hid (show fewC zs = 0 by unfold fewC; rw [ht, if_pos rfl, if_neg h4])
      clear ht
      go_enter Try.func65, Try.ntmps65
      go_wp2_with fail
      refine (l01Is_c _ zs _ (hI.later hB0) (by omega)).mono ?_
      rintro e w1 ⟨he, hb⟩
      rw [Ht.out] at he
      subst he
      have b1 : Boxed w1 w.heap.size 28 (.slice a zs.length cap) := boxed_later (Boxed.new _ _ _) hb
      have k1 := b1.cell
      have hB1 := hB0.trans (hb.mono (by simp))
      go_wp2_with fail
      refine (l02Count_c _ zs _ (hI.later hB1) Ht.out).mono ?_
      rintro e w2 ⟨rfl, hb2⟩
      go_wp2
      go_ret
      exact ⟨ret_int Hf.out.symm, hB1.trans (hb2.mono hB1.size)⟩

open Classical in
theorem bAt_last {zs st : List Int} (hp : Pos zs) (hs : IsSt zs st) : bAt (lastB zs) (numL zs st) = decide (Lasting zs st) := by
  obtain ⟨m, h1, h2, h3⟩ := num_nat hp hs
  unfold bAt lastB
  rw [h1, Int.toNat_natCast, List.getElem?_map, List.getElem?_range h2]
  simp only [Option.map_some, Option.getD_some, h3]
theorem lastB_length (zs : List Int) : (lastB zs).length = cntN zs := by simp [lastB]
theorem givenC_bd (zs st : List Int) : 0 ≤ givenC zs st ∧ givenC zs st ≤ 3 := by
  have h1 := stCode_bd zs st
  have h2 := fewC_bd zs
  unfold givenC; split <;> omega

end Go.Proofs.Ytieobjoijalijaa
