/-
  IsLasting and CanServe of the model.
  Conditions: lists of at most 1048576 elements.
-/
import Derived.Test.YtlgjnceedjbakaaLasS
import Derived.Test.YtlgjnceedjbakaaTopI
namespace Go.Proofs.Ytlgjnceedjbakaa
open Go.RowKit Go.Shelf
attribute [local go_sem] Oper.semAt_some

set_option maxRecDepth 100000 in
set_option maxHeartbeats 8000000 in
theorem l02Few_c (c0 : Value) (zs : List Int) (w : World) (hI : Ints w.heap.size w c0 zs) (hm : zs.length ≤ 1048576) :
    Calls Try.prog 104 #[.agg #[c0]] w fun e w' => e = .returned (.int .i64 (fewC zs)) ∧ Below w.heap.size w w' := by
  obtain ⟨a, cap, rfl⟩ := hI.shape
  have hB0 : Below w.heap.size w (w.alloc (.cells #[.slice a zs.length cap] 42)) := (Below.refl _ w).alloc (Nat.le_refl _) _
  cases ht : tasksOk zs
  · have Hf := Lib.hid (show fewC zs = 1 by unfold fewC; rw [ht]; rfl)
    have Ht := Lib.hid ht
    clear ht
    go_enter Try.func104, Try.ntmps104
    go_wp2_with fail
    refine (l01Is_c _ zs _ (hI.later hB0) (by omega)).mono ?_
    rintro e w1 ⟨he, hb⟩
    rw [Ht.out] at he
    subst he
    go_wp2
    go_ret
    exact ⟨ret_int Hf.out.symm, hB0.trans (hb.mono (by simp))⟩
  · have Ht := Lib.hid ht
    by_cases h4 : 4000 < cntL zs
    · have Hf := Lib.hid (show fewC zs = 3 by unfold fewC; rw [ht, if_pos rfl, if_pos h4])
      clear ht
      go_enter Try.func104, Try.ntmps104
      go_wp2_with fail
      refine (l01Is_c _ zs _ (hI.later hB0) (by omega)).mono ?_
      rintro e w1 ⟨he, hb⟩
      rw [Ht.out] at he
      subst he
      have b1 : Boxed w1 w.heap.size 42 (.slice a zs.length cap) := boxed_later (Boxed.new _ _ _) hb
      have k1 := b1.cell
      have hB1 := hB0.trans (hb.mono (by simp))
      go_wp2_with fail
      refine (l02Count_c _ zs _ (hI.later hB1) Ht.out).mono ?_
      rintro e w2 ⟨rfl, hb2⟩
      go_wp2
      go_ret
      exact ⟨ret_int Hf.out.symm, hB1.trans (hb2.mono hB1.size)⟩
    · have Hf := Lib.hid (show fewC zs = 0 by unfold fewC; rw [ht, if_pos rfl, if_neg h4])
      clear ht
      go_enter Try.func104, Try.ntmps104
      go_wp2_with fail
      refine (l01Is_c _ zs _ (hI.later hB0) (by omega)).mono ?_
      rintro e w1 ⟨he, hb⟩
      rw [Ht.out] at he
      subst he
      have b1 : Boxed w1 w.heap.size 42 (.slice a zs.length cap) := boxed_later (Boxed.new _ _ _) hb
      have k1 := b1.cell
      have hB1 := hB0.trans (hb.mono (by simp))
      go_wp2_with fail
      refine (l02Count_c _ zs _ (hI.later hB1) Ht.out).mono ?_
      rintro e w2 ⟨rfl, hb2⟩
      go_wp2
      go_ret
      exact ⟨ret_int Hf.out.symm, hB1.trans (hb2.mono hB1.size)⟩

open Classical in
theorem bAt_last {zs st : List Int} (hp : Pos zs) (hs : IsSt zs st) : bAt (lastB zs) (numL zs st) = decide (Lasting zs st) := by
  obtain ⟨m, h1, h2, h3⟩ := num_nat hp hs
  unfold bAt lastB
  rw [h1, Int.toNat_natCast, List.getElem?_map, List.getElem?_range h2]
  simp only [Option.map_some, Option.getD_some, h3]
theorem lastB_length (zs : List Int) : (lastB zs).length = cntN zs := by simp [lastB]
theorem givenC_bd (zs st : List Int) : 0 ≤ givenC zs st ∧ givenC zs st ≤ 3 := by
  have h1 := stCode_bd zs st
  have h2 := fewC_bd zs
  unfold givenC; split <;> omega

set_option maxRecDepth 100000 in
set_option maxHeartbeats 8000000 in
open Classical in
theorem l02Can_c (c0 : Value) (zs : List Int) (w : World) (hI : Ints w.heap.size w c0 zs) (ht : tasksOk zs = true) (h4 : cntL zs ≤ 4000) :
    Calls Try.prog 129 #[.agg #[c0]] w fun e w' => e = .returned (.bool (decide (CanL zs))) ∧ Below w.heap.size w w' := by
  obtain ⟨a, cap, rfl⟩ := hI.shape
  have hB0 : Below w.heap.size w (w.alloc (.cells #[.slice a zs.length cap] 42)) := (Below.refl _ w).alloc (Nat.le_refl _) _
  have hp := pos_of ht
  obtain ⟨mm, hm1', hm2, hm3⟩ := num_nat hp (isSt_full hp)
  rw [numL_full] at hm1'
  have hv : decide (CanL zs) = bAt (lastB zs) (mm : Int) := by rw [← hm1', ← numL_full, bAt_last hp (isSt_full hp)]; rfl
  have Hv := Lib.hid hv
  have hc1 : 1 ≤ cntL zs := cntP_pos hp (Nat.le_refl _)
  have Hm := Lib.hid hm1'
  clear hv hm1' hm3
  go_enter Try.func129, Try.ntmps129
  have hfw : Try.prog.follows Departure.mixedOrders = true := by kernel_rfl
  obtain ⟨N, hN⟩ : ∃ N, cntN zs = N := ⟨_, rfl⟩
  have HN := Lib.hid hN
  have hlb : (lastB zs).length = N := by rw [lastB_length, hN]
  have Hlb := Lib.hid hlb
  rw [hN] at hm2
  have b1 : Boxed (w.alloc (.cells #[.slice a zs.length cap] 42)) w.heap.size 42 (.slice a zs.length cap) := Boxed.new _ _ _
  clear hN hlb
  go_wp2_with fail
  refine wp_region_noPanic (wp_region_held_drew (S := fun w' => Boxed w' w.heap.size 42 (.slice a zs.length cap) ∧ Below w.heap.size w w') hfw ⟨b1, hB0.drew⟩ ?_)
  intro hS0
  refine wpAnyH_take (i := 0) (v := ?v0) rfl (by kernel_rfl) (by kernel_rfl) (by kernel_rfl) (fun _ _ _ h => h) (.inl ⟨by rfl, ?y0⟩) hS0 ?_
  case y0 =>
    intro w' hS
    (have k1 := hS.1.cell; clear hS)
    go_simp
    try with_reducible rfl
  refine wpAnyH_take (i := 2) (v := ?v2) rfl (by kernel_rfl) (by kernel_rfl) (by kernel_rfl) (fun _ _ _ h => h) (.inl ⟨by rfl, ?y2⟩) hS0 ?_
  case y2 =>
    intro w' hS
    (have k1 := hS.1.cell; clear hS)
    go_simp
    try with_reducible rfl
  refine wpAnyH_ready (rs := [1]) (by kernel_rfl) (by simp) ?_
  refine AllReadyH.cons rfl (fun K' hK' => ?_) AllReadyH.nil
  rw [if_pos (by rfl)]
  go_simp
  refine (l02Lasting_c _ zs _ (hI.later hS0.2) ht h4).mono ?_
  rintro e w2 ⟨g, rfl, ho, hb2⟩
  have hB2 := hS0.2.trans (hb2.mono hS0.2.size)
  refine hK'.out _ _ ⟨boxed_later hS0.1 hb2, hB2⟩ fun hS2 => ?_
  try simp only [id]
  refine wpAnyH_ready (rs := [3]) (by kernel_rfl) (by simp) ?_
  refine AllReadyH.cons rfl (fun K' hK' => ?_) AllReadyH.nil
  rw [if_pos (by rfl)]
  go_simp
  refine (l02Count_c _ zs _ (hI.later hB2) ht).mono ?_
  rintro e w3 ⟨rfl, hb3⟩
  have ho3 := ho.below hb3
  rw [HN.out] at ho3
  have hcm := ho_cell ho3 Hlb.out hm2
  have hB3 := hB2.trans (hb3.mono hB2.size)
  have hcc : cntL zs = (mm : Int) + 1 := by have := Hm.out; omega
  have hw : IntKind.i64.wrap ((mm : Int) + 1 - 1) = (mm : Int) := by rw [IntKind.wrap_i64]; omega
  have hw2 : IntKind.i64.wrap (mm : Int) = (mm : Int) := by rw [IntKind.wrap_i64]; omega
  have hmN : (mm : Int) < (N : Int) := by omega
  rw [hcc, HN.out]
  refine hK'.out _ _ ⟨boxed_later hS2.1 hb3, hB3⟩ fun hS3 => ?_
  clear ho ho3 hcc hc1
  refine wpAnyH_take (i := 4) (v := ?vz4) rfl (by kernel_rfl) (by kernel_rfl) (by kernel_rfl) (fun _ _ _ h => h) (.inl ⟨by rfl, ?yz4⟩) hS3 ?_
  case yz4 =>
    intro w' hS
    (clear hS)
    go_simp
    try with_reducible rfl
  refine wpAnyH_take (i := 5) (v := ?vz5) rfl (by kernel_rfl) (by kernel_rfl) (by kernel_rfl) (fun _ _ _ h => h) (.inl ⟨by rfl, ?yz5⟩) hS3 ?_
  case yz5 =>
    intro w' hS
    (clear hS)
    go_simp
    try with_reducible rfl
  refine wpAnyH_ready (rs := [6]) (by kernel_rfl) (by simp) ?_
  refine AllReadyH.cons rfl (fun K' hK' => ?_) AllReadyH.nil
  rw [if_pos (by rfl)]
  go_simp
  refine hK'.out _ _ hS3 fun hS4 => ?_
  refine wpAnyH_take (i := 7) (v := ?vz7) rfl (by kernel_rfl) (by kernel_rfl) (by kernel_rfl) (fun _ _ _ h => h) (.inl ⟨by rfl, ?yz7⟩) hS4 ?_
  case yz7 =>
    intro w' hS
    (clear hS)
    go_simp
    try with_reducible rfl
  refine wpAnyH_done (by kernel_rfl) (NoPanic.normal ?_) _
  go_wp2
  go_ret
  exact ⟨ret_bool Hv.out.symm, hB3⟩

end Go.Proofs.Ytlgjnceedjbakaa
