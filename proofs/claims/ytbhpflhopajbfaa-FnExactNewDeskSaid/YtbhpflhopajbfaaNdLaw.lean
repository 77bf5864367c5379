/-
  The law on NewDesk: the function answers as its model, and its answer owns its memory.
  Conditions: none but the row's own.
-/
import Derived.Test.YtbhpflhopajbfaaNd
namespace Go.Proofs.Ytbhpflhopajbfaa
open Go.RowKit Go.Shelf

set_option maxRecDepth 100000 in
set_option maxHeartbeats 8000000 in
theorem lawNewDesk_c (w : World) : Calls Try.prog 13 #[] w fun e w' => e = .returned (.bool true) ∧ Below w.heap.size w w' := by
  have l1 : nd1.length * 8 ≤ 140737488351232 := by decide
  have l2 : nd2.length * 8 ≤ 140737488351232 := by decide
  have l3 : nd3.length * 8 ≤ 140737488351232 := by decide
  have b1 : nd1.length ≤ 4 := by decide
  have b2 : nd2.length ≤ 4 := by decide
  have b3 : nd3.length ≤ 4 := by decide
  obtain ⟨m, em⟩ : ∃ m : Int, 1 + (nd1.length : Int) + (nd2.length : Int) + (nd3.length : Int) = m := ⟨_, rfl⟩
  have hm0 : ¬ m < 0 := by omega
  have Em := Lib.hid em
  clear em
  have hB := Below.refl w.heap.size w
  go_enter Try.func13, Try.ntmps13
  go_wp2_with fail
  refine (s_NewDesk _).mono ?_
  rintro e W1 ⟨uw, vw, xw, pw, qw, rfl, gw1, gw2, gw3, iw1, iw2, iw3, hb⟩
  have sW1 := hb.size
  obtain ⟨aw1, cw1, rfl⟩ := gw1.ints.shape
  obtain ⟨aw2, cw2, rfl⟩ := gw2.ints.shape
  obtain ⟨aw3, cw3, rfl⟩ := gw3.ints.shape
  replace hB := hB.trans (hb.mono (by omega))
  clear hb
  go_wp2_with fail
  obtain ⟨W2, hWn⟩ : ∃ W2, W1.alloc (.cells #[.slice aw1 nd1.length cw1, .slice aw2 nd2.length cw2, .slice aw3 nd3.length cw3] 76) = W2 := ⟨_, rfl⟩
  have hb : Below W1.heap.size W1 W2 := by rw [← hWn]; exact (Below.refl _ _).alloc (Nat.le_refl _) _
  have bw : Box3 W2 W1.heap.size 76 (.slice aw1 nd1.length cw1) (.slice aw2 nd2.length cw2) (.slice aw3 nd3.length cw3) := by rw [← hWn]; exact Box3.new _ _ _ _ _
  have sW2 : W1.heap.size + 1 ≤ W2.heap.size := by rw [← hWn]; simp
  rw [hWn]
  clear hWn
  replace gw1 := gw1.below hb
  replace gw2 := gw2.below hb
  replace gw3 := gw3.below hb
  replace hB := hB.trans (hb.mono (by omega))
  clear hb
  refine (i_NewDesk _).mono ?_
  rintro e W3 ⟨ug, vg, xg, pg, qg, rfl, gg1, gg2, gg3, ig1, ig2, ig3, hb⟩
  have sW3 := hb.size
  obtain ⟨ag1, cg1, rfl⟩ := gg1.ints.shape
  obtain ⟨ag2, cg2, rfl⟩ := gg2.ints.shape
  obtain ⟨ag3, cg3, rfl⟩ := gg3.ints.shape
  replace gw1 := gw1.below hb
  replace gw2 := gw2.below hb
  replace gw3 := gw3.below hb
  replace bw := bw.later hb
  replace hB := hB.trans (hb.mono (by omega))
  clear hb
  have kbw0 := (bw.alloc (.cells #[.slice ag1 nd1.length cg1, .slice ag2 nd2.length cg2, .slice ag3 nd3.length cg3] 76)).c0
  have kbw1 := (bw.alloc (.cells #[.slice ag1 nd1.length cg1, .slice ag2 nd2.length cg2, .slice ag3 nd3.length cg3] 76)).c1
  have kbw2 := (bw.alloc (.cells #[.slice ag1 nd1.length cg1, .slice ag2 nd2.length cg2, .slice ag3 nd3.length cg3] 76)).c2
  go_wp2_with fail
  clear kbw0 kbw1 kbw2
  obtain ⟨W4, hWn⟩ : ∃ W4, W3.alloc (.cells #[.slice ag1 nd1.length cg1, .slice ag2 nd2.length cg2, .slice ag3 nd3.length cg3] 76) = W4 := ⟨_, rfl⟩
  have hb : Below W3.heap.size W3 W4 := by rw [← hWn]; exact (Below.refl _ _).alloc (Nat.le_refl _) _
  have bg : Box3 W4 W3.heap.size 76 (.slice ag1 nd1.length cg1) (.slice ag2 nd2.length cg2) (.slice ag3 nd3.length cg3) := by rw [← hWn]; exact Box3.new _ _ _ _ _
  have sW4 : W3.heap.size + 1 ≤ W4.heap.size := by rw [← hWn]; simp
  rw [hWn]
  clear hWn
  replace gw1 := gw1.below hb
  replace gw2 := gw2.below hb
  replace gw3 := gw3.below hb
  replace gg1 := gg1.below hb
  replace gg2 := gg2.below hb
  replace gg3 := gg3.below hb
  replace bw := bw.later hb
  replace hB := hB.trans (hb.mono (by omega))
  clear hb
  refine (eqDesk_t _ _ _ _ _ _ nd1 nd2 nd3 _ ⟨gg1.ints, gg2.ints, gg3.ints⟩ ⟨gw1.ints, gw2.ints, gw3.ints⟩ l1 l2 l3).mono ?_
  rintro e W5 ⟨rfl, hb⟩
  have sW5 := hb.size
  replace gw1 := gw1.below hb
  replace gw2 := gw2.below hb
  replace gw3 := gw3.below hb
  replace gg1 := gg1.below hb
  replace gg2 := gg2.below hb
  replace gg3 := gg3.below hb
  replace bw := bw.later hb
  replace bg := bg.later hb
  replace hB := hB.trans (hb.mono (by omega))
  clear hb
  have kbw0 := bw.c0
  have kbw1 := bw.c1
  have kbw2 := bw.c2
  have kbg0 := bg.c0
  have kbg1 := bg.c1
  have kbg2 := bg.c2
  go_wp2_with fail
  clear kbw0 kbw1 kbw2
  clear kbg0 kbg1 kbg2
  refine (markDesk_c W2.heap.size pg qg W3.heap.size _ _ _ nd1 nd2 nd3 1 _ gg1 gg2 gg3 ig1 ig2 ig3 l1 l2 l3 (by omega) (by omega)).mono ?_
  rintro e W6 ⟨rfl, o1, o2, o3, ho⟩
  rw [Em.out]
  have sW6 := ho.size
  replace hB := ho.below hB (by omega)
  replace gw1 := gw1.outside ho (.inl (by omega))
  replace gw2 := gw2.outside ho (.inl (by omega))
  replace gw3 := gw3.outside ho (.inl (by omega))
  replace bw := bw.outside ho (.inl (by omega))
  replace bg := bg.outside ho (.inr (by omega))
  clear gg1 gg2 gg3 ho
  have gg1 := o1
  have gg2 := o2
  have gg3 := o3
  clear o1 o2 o3
  have kbw0 := bw.c0
  have kbw1 := bw.c1
  have kbw2 := bw.c2
  have kbg0 := bg.c0
  have kbg1 := bg.c1
  have kbg2 := bg.c2
  go_wp2_with fail
  clear kbw0 kbw1 kbw2
  clear kbg0 kbg1 kbg2
  refine (heldDesk_c _ _ _ nd1.length nd2.length nd3.length 1 _ ⟨gg1.ints, gg2.ints, gg3.ints⟩ l1 l2 l3 (by omega) (by omega)).mono ?_
  rintro e W7 ⟨rfl, hb⟩
  rw [Em.out]
  have sW7 := hb.size
  replace gw1 := gw1.below hb
  replace gw2 := gw2.below hb
  replace gw3 := gw3.below hb
  replace gg1 := gg1.below hb
  replace gg2 := gg2.below hb
  replace gg3 := gg3.below hb
  replace bw := bw.later hb
  replace bg := bg.later hb
  replace hB := hB.trans (hb.mono (by omega))
  clear hb
  have kbw0 := bw.c0
  have kbw1 := bw.c1
  have kbw2 := bw.c2
  have kbg0 := bg.c0
  have kbg1 := bg.c1
  have kbg2 := bg.c2
  go_wp2_with fail
  clear kbw0 kbw1 kbw2
  clear kbg0 kbg1 kbg2
  refine (i_NewDesk _).mono ?_
  rintro e W8 ⟨uh, vh, xh, ph, qh, rfl, gh1, gh2, gh3, ih1, ih2, ih3, hb⟩
  have sW8 := hb.size
  obtain ⟨ah1, ch1, rfl⟩ := gh1.ints.shape
  obtain ⟨ah2, ch2, rfl⟩ := gh2.ints.shape
  obtain ⟨ah3, ch3, rfl⟩ := gh3.ints.shape
  replace gw1 := gw1.below hb
  replace gw2 := gw2.below hb
  replace gw3 := gw3.below hb
  replace gg1 := gg1.below hb
  replace gg2 := gg2.below hb
  replace gg3 := gg3.below hb
  replace bw := bw.later hb
  replace bg := bg.later hb
  replace hB := hB.trans (hb.mono (by omega))
  clear hb
  have kbw0 := (bw.alloc (.cells #[.slice ah1 nd1.length ch1, .slice ah2 nd2.length ch2, .slice ah3 nd3.length ch3] 76)).c0
  have kbw1 := (bw.alloc (.cells #[.slice ah1 nd1.length ch1, .slice ah2 nd2.length ch2, .slice ah3 nd3.length ch3] 76)).c1
  have kbw2 := (bw.alloc (.cells #[.slice ah1 nd1.length ch1, .slice ah2 nd2.length ch2, .slice ah3 nd3.length ch3] 76)).c2
  have kbg0 := (bg.alloc (.cells #[.slice ah1 nd1.length ch1, .slice ah2 nd2.length ch2, .slice ah3 nd3.length ch3] 76)).c0
  have kbg1 := (bg.alloc (.cells #[.slice ah1 nd1.length ch1, .slice ah2 nd2.length ch2, .slice ah3 nd3.length ch3] 76)).c1
  have kbg2 := (bg.alloc (.cells #[.slice ah1 nd1.length ch1, .slice ah2 nd2.length ch2, .slice ah3 nd3.length ch3] 76)).c2
  go_wp2_with fail
  clear kbw0 kbw1 kbw2
  clear kbg0 kbg1 kbg2
  obtain ⟨W9, hWn⟩ : ∃ W9, W8.alloc (.cells #[.slice ah1 nd1.length ch1, .slice ah2 nd2.length ch2, .slice ah3 nd3.length ch3] 76) = W9 := ⟨_, rfl⟩
  have hb : Below W8.heap.size W8 W9 := by rw [← hWn]; exact (Below.refl _ _).alloc (Nat.le_refl _) _
  have bh : Box3 W9 W8.heap.size 76 (.slice ah1 nd1.length ch1) (.slice ah2 nd2.length ch2) (.slice ah3 nd3.length ch3) := by rw [← hWn]; exact Box3.new _ _ _ _ _
  have sW9 : W8.heap.size + 1 ≤ W9.heap.size := by rw [← hWn]; simp
  rw [hWn]
  clear hWn
  replace gw1 := gw1.below hb
  replace gw2 := gw2.below hb
  replace gw3 := gw3.below hb
  replace gg1 := gg1.below hb
  replace gg2 := gg2.below hb
  replace gg3 := gg3.below hb
  replace gh1 := gh1.below hb
  replace gh2 := gh2.below hb
  replace gh3 := gh3.below hb
  replace bw := bw.later hb
  replace bg := bg.later hb
  replace hB := hB.trans (hb.mono (by omega))
  clear hb
  refine (eqDesk_t _ _ _ _ _ _ nd1 nd2 nd3 _ ⟨gh1.ints, gh2.ints, gh3.ints⟩ ⟨gw1.ints, gw2.ints, gw3.ints⟩ l1 l2 l3).mono ?_
  rintro e W10 ⟨rfl, hb⟩
  have sW10 := hb.size
  replace gw1 := gw1.below hb
  replace gw2 := gw2.below hb
  replace gw3 := gw3.below hb
  replace gg1 := gg1.below hb
  replace gg2 := gg2.below hb
  replace gg3 := gg3.below hb
  replace gh1 := gh1.below hb
  replace gh2 := gh2.below hb
  replace gh3 := gh3.below hb
  replace bw := bw.later hb
  replace bg := bg.later hb
  replace bh := bh.later hb
  replace hB := hB.trans (hb.mono (by omega))
  clear hb
  have kbw0 := bw.c0
  have kbw1 := bw.c1
  have kbw2 := bw.c2
  have kbg0 := bg.c0
  have kbg1 := bg.c1
  have kbg2 := bg.c2
  have kbh0 := bh.c0
  have kbh1 := bh.c1
  have kbh2 := bh.c2
  go_wp2_with fail
  clear kbw0 kbw1 kbw2
  clear kbg0 kbg1 kbg2
  clear kbh0 kbh1 kbh2
  refine (heldDesk_c _ _ _ nd1.length nd2.length nd3.length 1 _ ⟨gg1.ints, gg2.ints, gg3.ints⟩ l1 l2 l3 (by omega) (by omega)).mono ?_
  rintro e W11 ⟨rfl, hb⟩
  rw [Em.out]
  have sW11 := hb.size
  replace hB := hB.trans (hb.mono (by omega))
  clear hb
  go_wp2_with fail
  go_ret
  exact ⟨rfl, hB⟩

open Go.ChangeShapes Go.WideShapes Go.ChangeAt Go.Joins Go.ChangeMaps

set_option maxRecDepth 100000 in
theorem newDesk_lifted (os : Os) (started : os.Started) (H : Type) (enc : TypeId × Value → H) :
    ReturnsInHanded {} Try.checked os 13 .any (Rows.fnExactNewDeskSpec.pre6 enc Try.prog Try.f13 Rows.fnExactNewDeskRow.domain false) (Rows.fnExactNewDeskSpec.post enc Try.prog Try.f13 false true false false) := by
  refine returnsInHanded_of_change (C := Try.checked) ownT started (by kernel_rfl) Try.func13
    (ChangeSpec.witness6 (enc := enc) (C := Try.checked) false ⟨#[], #[], []⟩ 8 (by kernel_rfl) (by kernel_rfl) (by kernel_rfl) (by kernel_rfl)) ?_
  intro W base args ds gs before hval0 hW hcnd _
  have hval : ∀ (j : Nat) t v, Try.f13.params[j]? = some t → args[j]? = some v → Value.okWide Try.prog W .any base t v := hval0
  have hW' := hW
  obtain ⟨p, q, hA0, hV, rfl, hfz, hnd⟩ := hW
  have hA : DataW.TrodAll enc Try.prog W 0 (fun _ => true) true Try.f13.params.toList args.toList ds p := hA0
  rw [Try.params13] at hA hval
  obtain ⟨hal, rfl, rfl⟩ := trodAll_nil hA
  obtain rfl : args = #[] := by cases args; simp_all
  refine (lawNewDesk_c W ).mono fun e W' ⟨he, hb⟩ => ?_
  subst he
  exact ⟨_, rfl, law_post rfl laidT (by kernel_rfl) (by kernel_rfl) Try.underlying4 hW' rfl hb⟩

set_option maxHeartbeats 20000000 in
theorem newDesk_closed : joinedFacts Try.prog 13 Try.f13 Rows.fnExactNewDeskSpec Rows.fnExactNewDeskRow = true := by
  unfold joinedFacts
  exact (and_mk (and_mk (and_mk (and_mk (and_mk (and_mk (and_mk (and_mk (and_mk (and_mk (and_mk (and_mk (and_mk (and_mk (and_mk (and_mk (and_mk (and_mk (and_mk (and_mk (and_mk (and_mk (and_mk (and_mk (and_mk (and_mk (and_mk (and_mk (and_mk (and_mk (and_mk (by as_aux_lemma => kernel_rfl) laidT) (by as_aux_lemma => kernel_rfl)) (by as_aux_lemma => kernel_rfl)) (by as_aux_lemma => kernel_rfl)) (by as_aux_lemma => kernel_rfl)) (by as_aux_lemma => kernel_rfl)) (by as_aux_lemma => kernel_rfl)) (by as_aux_lemma => kernel_rfl)) (by as_aux_lemma => kernel_rfl)) (by as_aux_lemma => kernel_rfl)) (by as_aux_lemma => kernel_rfl)) (by as_aux_lemma => kernel_rfl)) (by as_aux_lemma => kernel_rfl)) (by as_aux_lemma => kernel_rfl)) (by as_aux_lemma => kernel_rfl)) (by as_aux_lemma => kernel_rfl)) (by as_aux_lemma => kernel_rfl)) (by as_aux_lemma => kernel_rfl)) (by as_aux_lemma => kernel_rfl)) (by as_aux_lemma => kernel_rfl)) (by as_aux_lemma => kernel_rfl)) (by as_aux_lemma => kernel_rfl)) (by as_aux_lemma => kernel_rfl)) (by as_aux_lemma => kernel_rfl)) mayEnterT) (by rw [liftsFinalT]; rfl)) (by rw [makeT]; rfl)) (by as_aux_lemma => kernel_rfl)) (by as_aux_lemma => kernel_rfl)) (by as_aux_lemma => kernel_rfl)) (by as_aux_lemma => kernel_rfl))

set_option maxHeartbeats 20000000 in
theorem newDesk_holds : Rows.FnExactNewDeskSaid :=
  OpenClaim.holds_of_wide 13 Try.f13 rfl rfl rfl rfl rfl rfl rfl ⟨rfl, rfl, rfl, rfl, rfl⟩ rfl rfl rfl rfl rfl (by as_aux_lemma => kernel_rfl) Try.func13 newDesk_closed
    (of_decide_eq_true (by as_aux_lemma => kernel_rfl)) (by unfold Func.isWrapper; rw [if_neg (of_decide_eq_false (by as_aux_lemma => kernel_rfl))]; exact ⟨rfl, rfl⟩)
    (fun os started H enc _ => newDesk_lifted os started H enc)

end Go.Proofs.Ytbhpflhopajbfaa
