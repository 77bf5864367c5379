/-
  The law on IsRoute: at every argument the function answers as its model, writes into no argument, and its answer owns its memory.
  Conditions: none but the row's own.
-/
import Derived.Test.YtieobjoijalijaaGnR
import Derived.Test.YtieobjoijalijaaGnh
import Derived.Test.YtieobjoijalijaaLaw
namespace Go.Proofs.Ytieobjoijalijaa
open Go.RowKit Go.Shelf

set_option maxRecDepth 100000 in
set_option maxHeartbeats 8000000 in
theorem lawIsRoute_c (p0 r0 : Int) (c1 : Value) (zs1 : List Int) (w : World) (hp0 : I64 p0) (hr0 : I64 r0) (hI1 : Ints w.heap.size w c1 zs1) (hN1 : I64s zs1) (hL1 : zs1.length ≤ 9223372036854775807) :
    Calls Try.prog 13 #[.agg #[.int .i64 p0, .int .i64 r0], c1] w fun e w' => e = .returned (.bool true) ∧ Below w.heap.size w w' := by
  obtain ⟨a1, cap1, rfl⟩ := hI1.shape
  have hB0 : Below w.heap.size w (w.alloc (.cells #[.int .i64 p0, .int .i64 r0] 54)) := ((Below.refl _ w).alloc (Nat.le_refl _) _)
  by_cases hs1 : 1048576 < zs1.length
  · skip
    go_enter Try.func13, Try.ntmps13
    go_wp2
    go_ret
    exact ⟨rfl, hB0⟩
  have hk1 : zs1.length * 8 ≤ 140737488351232 := by omega
  have hm1 : zs1.length ≤ 1048576 := by omega
  go_enter Try.func13, Try.ntmps13
  go_wp2_with fail
  obtain ⟨W0, hW0⟩ : ∃ W0, (w.alloc (.cells #[.int .i64 p0, .int .i64 r0] 54)) = W0 := ⟨_, rfl⟩
  have ba0 : Box2 W0 (w.heap.size) 54 (.int .i64 p0) (.int .i64 r0) := by rw [← hW0]; simpa using Box2.new w 54 (.int .i64 p0) (.int .i64 r0)
  have hBW : Below w.heap.size w W0 := by rw [← hW0]; exact hB0
  have s0 : w.heap.size + 1 ≤ W0.heap.size := by rw [← hW0]; simp
  clear hB0
  rw [hW0]
  clear hW0
  refine (toGround_c p0 r0 _).mono ?_
  rintro e W1 ⟨rfl, hb⟩
  have s1 := hb.size
  replace ba0 := ba0.later hb
  replace hBW := hBW.trans (hb.mono (by omega))
  clear hb
  have k_ba0 := ba0.c0
  have k2_ba0 := ba0.c1
  go_wp2_with fail
  clear k_ba0
  clear k2_ba0
  refine (toInt64S_c _ zs1 _ (hI1.later hBW) hm1).mono ?_
  rintro e W2 ⟨v_t1, rfl, ho, hb⟩
  have s2 := hb.size
  replace ba0 := ba0.later hb
  replace hBW := hBW.trans (hb.mono (by omega))
  have g_t1 := Seg.new ho
  clear ho hb
  have k_ba0 := ba0.c0
  have k2_ba0 := ba0.c1
  go_wp2_with fail
  clear k_ba0
  clear k2_ba0
  refine (s_IsRoute p0 r0 _ zs1 _ hp0 hr0 g_t1.ints hN1 hm1).mono ?_
  rintro e W3 ⟨rfl, hb⟩
  have s3 := hb.size
  replace g_t1 := g_t1.below hb
  replace ba0 := ba0.later hb
  replace hBW := hBW.trans (hb.mono (by omega))
  clear hb
  clear g_t1
  have k_ba0 := ba0.c0
  have k2_ba0 := ba0.c1
  go_wp2_with fail
  clear k_ba0
  clear k2_ba0
  refine (toInt64S_c _ zs1 _ (hI1.later hBW) hm1).mono ?_
  rintro e W4 ⟨v_x1, rfl, ho, hb⟩
  have s4 := hb.size
  replace ba0 := ba0.later hb
  replace hBW := hBW.trans (hb.mono (by omega))
  have g_x1 := Seg.new ho
  clear ho hb
  have k_ba0 := ba0.c0
  have k2_ba0 := ba0.c1
  go_wp2_with fail
  clear k_ba0
  clear k2_ba0
  refine (toGround_c p0 r0 _).mono ?_
  rintro e W5 ⟨rfl, hb⟩
  have s5 := hb.size
  replace g_x1 := g_x1.below hb
  replace ba0 := ba0.later hb
  replace hBW := hBW.trans (hb.mono (by omega))
  clear hb
  have k_ba0 := ba0.c0
  have k2_ba0 := ba0.c1
  go_wp2_with fail
  clear k_ba0
  clear k2_ba0
  refine (i_IsRoute p0 r0 _ zs1 _ hp0 hr0 g_x1.ints hN1 hm1).mono ?_
  rintro e W6 ⟨rfl, hb⟩
  have s6 := hb.size
  replace g_x1 := g_x1.below hb
  replace ba0 := ba0.later hb
  replace hBW := hBW.trans (hb.mono (by omega))
  clear hb
  have k_ba0 := ba0.c0
  have k2_ba0 := ba0.c1
  go_wp2_with fail
  clear k_ba0
  clear k2_ba0
  refine (toInt64S_c _ zs1 _ (hI1.later hBW) hm1).mono ?_
  rintro e W7 ⟨v_t2, rfl, ho, hb⟩
  have s7 := hb.size
  replace g_x1 := g_x1.below hb
  replace ba0 := ba0.later hb
  replace hBW := hBW.trans (hb.mono (by omega))
  have g_t2 := Seg.new ho
  clear ho hb
  have k_ba0 := ba0.c0
  have k2_ba0 := ba0.c1
  go_wp2_with fail
  clear k_ba0
  clear k2_ba0
  refine (eqInt64S_d true _ _ _ _ _ g_x1.ints g_t2.ints hk1 (by simp)).mono ?_
  rintro e W8 ⟨rfl, hb⟩
  have s8 := hb.size
  replace g_x1 := g_x1.below hb
  replace g_t2 := g_t2.below hb
  replace ba0 := ba0.later hb
  replace hBW := hBW.trans (hb.mono (by omega))
  clear hb
  clear g_t2
  have k_ba0 := ba0.c0
  have k2_ba0 := ba0.c1
  go_wp2_with fail
  clear k_ba0
  clear k2_ba0
  go_ret
  exact ⟨rfl, hBW⟩

open Go.ChangeShapes Go.WideShapes Go.ChangeAt Go.Joins Go.ChangeMaps

set_option maxRecDepth 100000 in
theorem isRoute_lifted (os : Os) (started : os.Started) (H : Type) (enc : TypeId × Value → H) :
    ReturnsInHanded {} Try.checked os 13 .any (Rows.fnExactIsRouteSpec.pre6 enc Try.prog Try.f13 Rows.fnExactIsRouteRow.domain false) (Rows.fnExactIsRouteSpec.post enc Try.prog Try.f13 false true false false) := by
  refine returnsInHanded_of_change (C := Try.checked) ownT started (by kernel_rfl) Try.func13
    (ChangeSpec.witness6 (enc := enc) (C := Try.checked) false ⟨#[], #[(.agg #[.int .i64 0, .int .i64 0]), (.slice none 0 0)], []⟩ 8 (by kernel_rfl) (by kernel_rfl) (by kernel_rfl) (by kernel_rfl)) ?_
  intro W base args ds gs before hval0 hW hcnd _
  have hval : ∀ (j : Nat) t v, Try.f13.params[j]? = some t → args[j]? = some v → Value.okWide Try.prog W .any base t v := hval0
  have hW' := hW
  obtain ⟨p, q, hA0, hV, rfl, hfz, hnd⟩ := hW
  have hA : DataW.TrodAll enc Try.prog W 0 (fun _ => true) true Try.f13.params.toList args.toList ds p := hA0
  rw [Try.params13] at hA hval
  obtain ⟨v0, vs0, d0, ds0, p0, q0, hargs, rfl, rfl, h0, r0⟩ := trodAll_cons hA
  obtain ⟨v1, vs1, d1, ds1, p1, q1, rfl, rfl, rfl, h1, r1⟩ := trodAll_cons r0
  obtain ⟨rfl, rfl, rfl⟩ := trodAll_nil r1
  obtain rfl : args = #[v0, v1] := by cases args; simp_all
  obtain ⟨x0, y0, rfl, _, rfl, hx0, hy0⟩ := open_ground Try.underlying54 rfl rfl rfl rfl Try.underlying2 (by kernel_rfl) (by kernel_rfl) (hval 0 54 v0 rfl rfl) h0
  obtain ⟨zs1, hI1, hN1, hl1⟩ := ints_of_Trod Try.underlying22 Try.underlying2 (by kernel_rfl) (hval 1 22 v1 rfl rfl) h1
  refine (lawIsRoute_c x0 y0 v1 zs1 W hx0 hy0 hI1 hN1 hl1).mono fun e W' ⟨he, hb⟩ => ?_
  subst he
  exact ⟨_, rfl, law_post rfl laidT (by kernel_rfl) (by kernel_rfl) Try.underlying4 hW' rfl hb⟩

set_option maxHeartbeats 20000000 in
theorem isRoute_closed : joinedFacts Try.prog 13 Try.f13 Rows.fnExactIsRouteSpec Rows.fnExactIsRouteRow = true := by
  unfold joinedFacts
  exact (and_mk (and_mk (and_mk (and_mk (and_mk (and_mk (and_mk (and_mk (and_mk (and_mk (and_mk (and_mk (and_mk (and_mk (and_mk (and_mk (and_mk (and_mk (and_mk (and_mk (and_mk (and_mk (and_mk (and_mk (and_mk (and_mk (and_mk (and_mk (and_mk (and_mk (and_mk (by as_aux_lemma => kernel_rfl) laidT) (by as_aux_lemma => kernel_rfl)) (by as_aux_lemma => kernel_rfl)) (by as_aux_lemma => kernel_rfl)) (by as_aux_lemma => kernel_rfl)) (by as_aux_lemma => kernel_rfl)) (by as_aux_lemma => kernel_rfl)) (by as_aux_lemma => kernel_rfl)) (by as_aux_lemma => kernel_rfl)) (by as_aux_lemma => kernel_rfl)) (by as_aux_lemma => kernel_rfl)) (by as_aux_lemma => kernel_rfl)) (by as_aux_lemma => kernel_rfl)) (by as_aux_lemma => kernel_rfl)) (by as_aux_lemma => kernel_rfl)) (by as_aux_lemma => kernel_rfl)) (by as_aux_lemma => kernel_rfl)) (by as_aux_lemma => kernel_rfl)) (by as_aux_lemma => kernel_rfl)) (by as_aux_lemma => kernel_rfl)) (by as_aux_lemma => kernel_rfl)) (by as_aux_lemma => kernel_rfl)) (by as_aux_lemma => kernel_rfl)) (by as_aux_lemma => kernel_rfl)) mayEnterT) (by rw [liftsFinalT]; rfl)) (by rw [makeT]; rfl)) (by as_aux_lemma => kernel_rfl)) (by as_aux_lemma => kernel_rfl)) (by as_aux_lemma => kernel_rfl)) (by as_aux_lemma => kernel_rfl))

set_option maxHeartbeats 20000000 in
theorem isRoute_holds : Rows.FnExactIsRouteSaid :=
  OpenClaim.holds_of_wide 13 Try.f13 rfl rfl rfl rfl rfl rfl rfl ⟨rfl, rfl, rfl, rfl, rfl⟩ rfl rfl rfl rfl rfl (by as_aux_lemma => kernel_rfl) Try.func13 isRoute_closed
    (of_decide_eq_true (by as_aux_lemma => kernel_rfl)) (by unfold Func.isWrapper; rw [if_neg (of_decide_eq_false (by as_aux_lemma => kernel_rfl))]; exact ⟨rfl, rfl⟩)
    (fun os started H enc _ => isRoute_lifted os started H enc)

end Go.Proofs.Ytieobjoijalijaa
