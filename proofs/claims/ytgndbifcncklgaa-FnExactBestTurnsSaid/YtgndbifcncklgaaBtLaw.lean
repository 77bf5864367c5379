/-
  The law on BestTurns: at every argument the function answers as its model, writes into no argument, and its answer owns its memory.
  Conditions: none but the row's own.
-/
import Derived.Test.YtgndbifcncklgaaBtn
import Derived.Test.YtgndbifcncklgaaLaw
namespace Go.Proofs.Ytgndbifcncklgaa
open Go.RowKit Go.Shelf

set_option maxRecDepth 100000 in
set_option maxHeartbeats 8000000 in
theorem lawBestTurns_c (c0 : Value) (zs0 : List Int) (x1 : Int) (w : World) (hI0 : Ints w.heap.size w c0 zs0) (hN0 : I64s zs0) (hL0 : zs0.length ≤ 9223372036854775807) (hx1 : I64 x1) :
    Calls Try.prog 12 #[c0, .int .i64 x1] w fun e w' => e = .returned (.bool true) ∧ Below w.heap.size w w' := by
  obtain ⟨a0, cap0, rfl⟩ := hI0.shape
  have hB0 : Below w.heap.size w w := (Below.refl _ w)
  by_cases hs0 : 1048576 < zs0.length
  · skip
    go_enter Try.func12, Try.ntmps12
    go_wp2
    go_ret
    exact ⟨rfl, hB0⟩
  have hk0 : zs0.length * 8 ≤ 140737488351232 := by omega
  have hm0 : zs0.length ≤ 1048576 := by omega
  have hres0 : (btR zs0 x1).length * 8 ≤ 140737488351232 := btR_len _ _
  go_enter Try.func12, Try.ntmps12
  go_wp2_with fail
  obtain ⟨W0, hW0⟩ : ∃ W0, w = W0 := ⟨_, rfl⟩
  have hBW : Below w.heap.size w W0 := by rw [← hW0]; exact hB0
  have s0 : w.heap.size + 0 ≤ W0.heap.size := by rw [← hW0]; simp
  clear hB0
  subst hW0
  refine (toInt64S_c _ zs0 _ (hI0.later hBW) hm0).mono ?_
  rintro e W1 ⟨v_t1, rfl, ho, hb⟩
  have s1 := hb.size
  replace hBW := hBW.trans (hb.mono (by omega))
  have g_t1 := Seg.new ho
  clear ho hb
  go_wp2_with fail
  refine (s_BestTurns _ zs0 x1 _ g_t1.ints hN0 hm0 hx1).mono ?_
  rintro e W2 ⟨v_w0, rfl, ho, hb⟩
  have s2 := hb.size
  replace g_t1 := g_t1.below hb
  replace hBW := hBW.trans (hb.mono (by omega))
  have g_w0 := Seg.new ho
  clear ho hb
  clear g_t1
  go_wp2_with fail
  refine (toInt64S_c _ zs0 _ (hI0.later hBW) hm0).mono ?_
  rintro e W3 ⟨v_x0, rfl, ho, hb⟩
  have s3 := hb.size
  replace g_w0 := g_w0.below hb
  replace hBW := hBW.trans (hb.mono (by omega))
  have g_x0 := Seg.new ho
  clear ho hb
  go_wp2_with fail
  refine (i_BestTurns _ zs0 x1 _ g_x0.ints hN0 hm0 hx1).mono ?_
  rintro e W4 ⟨v_g0, rfl, ho, hb⟩
  have s4 := hb.size
  replace g_w0 := g_w0.below hb
  replace g_x0 := g_x0.below hb
  replace hBW := hBW.trans (hb.mono (by omega))
  have g_g0 := Seg.new ho
  clear ho hb
  go_wp2_with fail
  refine (eqInt64S_d true _ _ _ _ _ g_g0.ints g_w0.ints hres0 (by simp)).mono ?_
  rintro e W5 ⟨rfl, hb⟩
  have s5 := hb.size
  replace g_w0 := g_w0.below hb
  replace g_x0 := g_x0.below hb
  replace g_g0 := g_g0.below hb
  replace hBW := hBW.trans (hb.mono (by omega))
  clear hb
  go_wp2_with fail
  refine (toInt64S_c _ zs0 _ (hI0.later hBW) hm0).mono ?_
  rintro e W6 ⟨v_t2, rfl, ho, hb⟩
  have s6 := hb.size
  replace g_w0 := g_w0.below hb
  replace g_x0 := g_x0.below hb
  replace g_g0 := g_g0.below hb
  replace hBW := hBW.trans (hb.mono (by omega))
  have g_t2 := Seg.new ho
  clear ho hb
  go_wp2_with fail
  refine (eqInt64S_d true _ _ _ _ _ g_x0.ints g_t2.ints hk0 (by simp)).mono ?_
  rintro e W7 ⟨rfl, hb⟩
  have s7 := hb.size
  replace g_w0 := g_w0.below hb
  replace g_x0 := g_x0.below hb
  replace g_g0 := g_g0.below hb
  replace g_t2 := g_t2.below hb
  replace hBW := hBW.trans (hb.mono (by omega))
  clear hb
  clear g_t2
  go_wp2_with fail
  refine (markInt64S_c _ _ _ (1 : Int) _ g_x0.own hk0 (by omega) (by omega)).mono ?_
  rintro e W8 ⟨rfl, ho, hg⟩
  have s8 := hg.size
  replace hBW := below_marked hBW g_x0 hg (by omega)
  replace g_w0 := g_w0.kept hg (g_x0.apart (by omega))
  replace g_g0 := g_g0.kept hg (g_x0.apart (by omega))
  replace g_x0 := g_x0.marked ho hg
  clear ho hg
  go_wp2_with fail
  refine (eqInt64S_d true _ _ _ _ _ g_g0.ints g_w0.ints hres0 (by simp)).mono ?_
  rintro e W9 ⟨rfl, hb⟩
  have s9 := hb.size
  replace g_w0 := g_w0.below hb
  replace g_x0 := g_x0.below hb
  replace g_g0 := g_g0.below hb
  replace hBW := hBW.trans (hb.mono (by omega))
  clear hb
  go_wp2_with fail
  refine (markInt64S_c _ _ _ (1 : Int) _ g_g0.own hres0 (by omega) (by omega)).mono ?_
  rintro e W10 ⟨rfl, ho, hg⟩
  have s10 := hg.size
  replace hBW := below_marked hBW g_g0 hg (by omega)
  replace g_w0 := g_w0.kept hg (g_g0.apart (by omega))
  replace g_x0 := g_x0.kept hg (g_g0.apart (by omega))
  replace g_g0 := g_g0.marked ho hg
  clear ho hg
  go_wp2_with fail
  refine (heldInt64S_c _ _ (1 : Int) _ g_g0.ints hres0 (by omega) (by omega)).mono ?_
  rintro e _ ⟨rfl, rfl⟩
  go_wp2_with fail
  refine (toInt64S_c _ zs0 _ (hI0.later hBW) hm0).mono ?_
  rintro e W11 ⟨v_t3, rfl, ho, hb⟩
  have s11 := hb.size
  replace g_w0 := g_w0.below hb
  replace g_x0 := g_x0.below hb
  replace g_g0 := g_g0.below hb
  replace hBW := hBW.trans (hb.mono (by omega))
  have g_t3 := Seg.new ho
  clear ho hb
  go_wp2_with fail
  refine (i_BestTurns _ zs0 x1 _ g_t3.ints hN0 hm0 hx1).mono ?_
  rintro e W12 ⟨v_h0, rfl, ho, hb⟩
  have s12 := hb.size
  replace g_w0 := g_w0.below hb
  replace g_x0 := g_x0.below hb
  replace g_g0 := g_g0.below hb
  replace g_t3 := g_t3.below hb
  replace hBW := hBW.trans (hb.mono (by omega))
  have g_h0 := Seg.new ho
  clear ho hb
  clear g_t3
  go_wp2_with fail
  refine (eqInt64S_d true _ _ _ _ _ g_h0.ints g_w0.ints hres0 (by simp)).mono ?_
  rintro e W13 ⟨rfl, hb⟩
  have s13 := hb.size
  replace g_w0 := g_w0.below hb
  replace g_x0 := g_x0.below hb
  replace g_g0 := g_g0.below hb
  replace g_h0 := g_h0.below hb
  replace hBW := hBW.trans (hb.mono (by omega))
  clear hb
  go_wp2_with fail
  refine (heldInt64S_c _ _ (1 : Int) _ g_g0.ints hres0 (by omega) (by omega)).mono ?_
  rintro e _ ⟨rfl, rfl⟩
  go_wp2_with fail
  go_ret
  exact ⟨rfl, hBW⟩

open Go.ChangeShapes Go.WideShapes Go.ChangeAt Go.Joins Go.ChangeMaps

set_option maxRecDepth 100000 in
theorem bestTurns_lifted (os : Os) (started : os.Started) (H : Type) (enc : TypeId × Value → H) :
    ReturnsInHanded {} Try.checked os 12 .any (Rows.fnExactBestTurnsSpec.pre6 enc Try.prog Try.f12 Rows.fnExactBestTurnsRow.domain false) (Rows.fnExactBestTurnsSpec.post enc Try.prog Try.f12 false true false false) := by
  refine returnsInHanded_of_change (C := Try.checked) ownT started (by kernel_rfl) Try.func12
    (ChangeSpec.witness6 (enc := enc) (C := Try.checked) false ⟨#[], #[(.slice none 0 0), (.int .i64 0)], []⟩ 8 (by kernel_rfl) (by kernel_rfl) (by kernel_rfl) (by kernel_rfl)) ?_
  intro W base args ds gs before hval0 hW hcnd _
  have hval : ∀ (j : Nat) t v, Try.f12.params[j]? = some t → args[j]? = some v → Value.okWide Try.prog W .any base t v := hval0
  have hW' := hW
  obtain ⟨p, q, hA0, hV, rfl, hfz, hnd⟩ := hW
  have hA : DataW.TrodAll enc Try.prog W 0 (fun _ => true) true Try.f12.params.toList args.toList ds p := hA0
  rw [Try.params12] at hA hval
  obtain ⟨v0, vs0, d0, ds0, p0, q0, hargs, rfl, rfl, h0, r0⟩ := trodAll_cons hA
  obtain ⟨v1, vs1, d1, ds1, p1, q1, rfl, rfl, rfl, h1, r1⟩ := trodAll_cons r0
  obtain ⟨rfl, rfl, rfl⟩ := trodAll_nil r1
  obtain rfl : args = #[v0, v1] := by cases args; simp_all
  obtain ⟨zs0, hI0, hN0, hl0⟩ := ints_of_Trod Try.underlying24 Try.underlying2 (by kernel_rfl) (hval 0 24 v0 rfl rfl) h0
  obtain ⟨x1, rfl, rfl, rfl, wx1⟩ := open_int Try.underlying2 (hval 1 2 v1 rfl rfl) h1
  refine (lawBestTurns_c v0 zs0 x1 W hI0 hN0 hl0 (i64_of_wf wx1)).mono fun e W' ⟨he, hb⟩ => ?_
  subst he
  exact ⟨_, rfl, law_post rfl laidT (by kernel_rfl) (by kernel_rfl) Try.underlying4 hW' rfl hb⟩

set_option maxHeartbeats 20000000 in
theorem bestTurns_closed : joinedFacts Try.prog 12 Try.f12 Rows.fnExactBestTurnsSpec Rows.fnExactBestTurnsRow = true := by
  unfold joinedFacts
  exact (and_mk (and_mk (and_mk (and_mk (and_mk (and_mk (and_mk (and_mk (and_mk (and_mk (and_mk (and_mk (and_mk (and_mk (and_mk (and_mk (and_mk (and_mk (and_mk (and_mk (and_mk (and_mk (and_mk (and_mk (and_mk (and_mk (and_mk (and_mk (and_mk (and_mk (and_mk (by as_aux_lemma => kernel_rfl) laidT) (by as_aux_lemma => kernel_rfl)) (by as_aux_lemma => kernel_rfl)) (by as_aux_lemma => kernel_rfl)) (by as_aux_lemma => kernel_rfl)) (by as_aux_lemma => kernel_rfl)) (by as_aux_lemma => kernel_rfl)) (by as_aux_lemma => kernel_rfl)) (by as_aux_lemma => kernel_rfl)) (by as_aux_lemma => kernel_rfl)) (by as_aux_lemma => kernel_rfl)) (by as_aux_lemma => kernel_rfl)) (by as_aux_lemma => kernel_rfl)) (by as_aux_lemma => kernel_rfl)) (by as_aux_lemma => kernel_rfl)) (by as_aux_lemma => kernel_rfl)) (by as_aux_lemma => kernel_rfl)) (by as_aux_lemma => kernel_rfl)) (by as_aux_lemma => kernel_rfl)) (by as_aux_lemma => kernel_rfl)) (by as_aux_lemma => kernel_rfl)) (by as_aux_lemma => kernel_rfl)) (by as_aux_lemma => kernel_rfl)) (by as_aux_lemma => kernel_rfl)) mayEnterT) (by rw [liftsFinalT]; rfl)) (by rw [makeT]; rfl)) (by as_aux_lemma => kernel_rfl)) (by as_aux_lemma => kernel_rfl)) (by as_aux_lemma => kernel_rfl)) (by as_aux_lemma => kernel_rfl))

set_option maxHeartbeats 20000000 in
theorem bestTurns_holds : Rows.FnExactBestTurnsSaid :=
  OpenClaim.holds_of_wide 12 Try.f12 rfl rfl rfl rfl rfl rfl rfl ⟨rfl, rfl, rfl, rfl, rfl⟩ rfl rfl rfl rfl rfl (by as_aux_lemma => kernel_rfl) Try.func12 bestTurns_closed
    (of_decide_eq_true (by as_aux_lemma => kernel_rfl)) (by unfold Func.isWrapper; rw [if_neg (of_decide_eq_false (by as_aux_lemma => kernel_rfl))]; exact ⟨rfl, rfl⟩)
    (fun os started H enc _ => bestTurns_lifted os started H enc)

end Go.Proofs.Ytgndbifcncklgaa
