/-
  The law on DistancesFrom: at every argument the function answers as its model, writes into no argument, and its answer owns its memory.
  Conditions: none but the row's own.
-/
import Derived.Test.YtieobjoijalijaaGnF
import Derived.Test.YtieobjoijalijaaGnh
import Derived.Test.YtieobjoijalijaaLaw
namespace Go.Proofs.Ytieobjoijalijaa
open Go.RowKit Go.Shelf

set_option maxRecDepth 100000 in
set_option maxHeartbeats 8000000 in
theorem lawDistancesFrom_c (p0 r0 : Int) (x1 : Int) (w : World) (hp0 : I64 p0) (hr0 : I64 r0) (hx1 : I64 x1) :
    Calls Try.prog 12 #[.agg #[.int .i64 p0, .int .i64 r0], .int .i64 x1] w fun e w' => e = .returned (.bool true) ∧ Below w.heap.size w w' := by
  have hB0 : Below w.heap.size w (w.alloc (.cells #[.int .i64 p0, .int .i64 r0] 54)) := ((Below.refl _ w).alloc (Nat.le_refl _) _)
  have hres0 : (drR p0 r0 x1).length * 8 ≤ 140737488351232 := drR_len _ _ _
  go_enter Try.func12, Try.ntmps12
  go_wp2_with fail
  obtain ⟨W0, hW0⟩ : ∃ W0, (w.alloc (.cells #[.int .i64 p0, .int .i64 r0] 54)) = W0 := ⟨_, rfl⟩
  have ba0 : Box2 W0 (w.heap.size) 54 (.int .i64 p0) (.int .i64 r0) := by rw [← hW0]; simpa using Box2.new w 54 (.int .i64 p0) (.int .i64 r0)
  have hBW : Below w.heap.size w W0 := by rw [← hW0]; exact hB0
  have s0 : w.heap.size + 1 ≤ W0.heap.size := by rw [← hW0]; simp
  clear hB0
  rw [hW0]
  clear hW0
  refine (toGround_c p0 r0 _).mono ?_
  rintro e W1 ⟨rfl, hb⟩
  have s1 := hb.size
  replace ba0 := ba0.later hb
  replace hBW := hBW.trans (hb.mono (by omega))
  clear hb
  have k_ba0 := ba0.c0
  have k2_ba0 := ba0.c1
  go_wp2_with fail
  clear k_ba0
  clear k2_ba0
  refine (s_DistancesFrom p0 r0 x1 _ hp0 hr0 hx1).mono ?_
  rintro e W2 ⟨v_w0, rfl, ho, hb⟩
  have s2 := hb.size
  replace ba0 := ba0.later hb
  replace hBW := hBW.trans (hb.mono (by omega))
  have g_w0 := Seg.new ho
  clear ho hb
  have k_ba0 := ba0.c0
  have k2_ba0 := ba0.c1
  go_wp2_with fail
  clear k_ba0
  clear k2_ba0
  refine (toGround_c p0 r0 _).mono ?_
  rintro e W3 ⟨rfl, hb⟩
  have s3 := hb.size
  replace g_w0 := g_w0.below hb
  replace ba0 := ba0.later hb
  replace hBW := hBW.trans (hb.mono (by omega))
  clear hb
  have k_ba0 := ba0.c0
  have k2_ba0 := ba0.c1
  go_wp2_with fail
  clear k_ba0
  clear k2_ba0
  refine (i_DistancesFrom p0 r0 x1 _ hp0 hr0 hx1).mono ?_
  rintro e W4 ⟨v_g0, rfl, ho, hb⟩
  have s4 := hb.size
  replace g_w0 := g_w0.below hb
  replace ba0 := ba0.later hb
  replace hBW := hBW.trans (hb.mono (by omega))
  have g_g0 := Seg.new ho
  clear ho hb
  have k_ba0 := ba0.c0
  have k2_ba0 := ba0.c1
  go_wp2_with fail
  clear k_ba0
  clear k2_ba0
  refine (eqInt64S_d true _ _ _ _ _ g_g0.ints g_w0.ints hres0 (by simp)).mono ?_
  rintro e W5 ⟨rfl, hb⟩
  have s5 := hb.size
  replace g_w0 := g_w0.below hb
  replace g_g0 := g_g0.below hb
  replace ba0 := ba0.later hb
  replace hBW := hBW.trans (hb.mono (by omega))
  clear hb
  have k_ba0 := ba0.c0
  have k2_ba0 := ba0.c1
  go_wp2_with fail
  clear k_ba0
  clear k2_ba0
  refine (markInt64S_c _ _ _ (1 : Int) _ g_g0.own hres0 (by omega) (by omega)).mono ?_
  rintro e W6 ⟨rfl, ho, hg⟩
  have s6 := hg.size
  replace hBW := below_marked hBW g_g0 hg (by omega)
  replace g_w0 := g_w0.kept hg (g_g0.apart (by omega))
  replace ba0 := box2_marked ba0 g_g0 hg (by omega)
  replace g_g0 := g_g0.marked ho hg
  clear ho hg
  have k_ba0 := ba0.c0
  have k2_ba0 := ba0.c1
  go_wp2_with fail
  clear k_ba0
  clear k2_ba0
  refine (heldInt64S_c _ _ (1 : Int) _ g_g0.ints hres0 (by omega) (by omega)).mono ?_
  rintro e _ ⟨rfl, rfl⟩
  have k_ba0 := ba0.c0
  have k2_ba0 := ba0.c1
  go_wp2_with fail
  clear k_ba0
  clear k2_ba0
  refine (toGround_c p0 r0 _).mono ?_
  rintro e W7 ⟨rfl, hb⟩
  have s7 := hb.size
  replace g_w0 := g_w0.below hb
  replace g_g0 := g_g0.below hb
  replace ba0 := ba0.later hb
  replace hBW := hBW.trans (hb.mono (by omega))
  clear hb
  have k_ba0 := ba0.c0
  have k2_ba0 := ba0.c1
  go_wp2_with fail
  clear k_ba0
  clear k2_ba0
  refine (i_DistancesFrom p0 r0 x1 _ hp0 hr0 hx1).mono ?_
  rintro e W8 ⟨v_h0, rfl, ho, hb⟩
  have s8 := hb.size
  replace g_w0 := g_w0.below hb
  replace g_g0 := g_g0.below hb
  replace ba0 := ba0.later hb
  replace hBW := hBW.trans (hb.mono (by omega))
  have g_h0 := Seg.new ho
  clear ho hb
  have k_ba0 := ba0.c0
  have k2_ba0 := ba0.c1
  go_wp2_with fail
  clear k_ba0
  clear k2_ba0
  refine (eqInt64S_d true _ _ _ _ _ g_h0.ints g_w0.ints hres0 (by simp)).mono ?_
  rintro e W9 ⟨rfl, hb⟩
  have s9 := hb.size
  replace g_w0 := g_w0.below hb
  replace g_g0 := g_g0.below hb
  replace g_h0 := g_h0.below hb
  replace ba0 := ba0.later hb
  replace hBW := hBW.trans (hb.mono (by omega))
  clear hb
  have k_ba0 := ba0.c0
  have k2_ba0 := ba0.c1
  go_wp2_with fail
  clear k_ba0
  clear k2_ba0
  refine (heldInt64S_c _ _ (1 : Int) _ g_g0.ints hres0 (by omega) (by omega)).mono ?_
  rintro e _ ⟨rfl, rfl⟩
  have k_ba0 := ba0.c0
  have k2_ba0 := ba0.c1
  go_wp2_with fail
  clear k_ba0
  clear k2_ba0
  go_ret
  exact ⟨rfl, hBW⟩

open Go.ChangeShapes Go.WideShapes Go.ChangeAt Go.Joins Go.ChangeMaps

set_option maxRecDepth 100000 in
theorem distancesFrom_lifted (os : Os) (started : os.Started) (H : Type) (enc : TypeId × Value → H) :
    ReturnsInHanded {} Try.checked os 12 .any (Rows.fnExactDistancesFromSpec.pre6 enc Try.prog Try.f12 Rows.fnExactDistancesFromRow.domain false) (Rows.fnExactDistancesFromSpec.post enc Try.prog Try.f12 false true false false) := by
  refine returnsInHanded_of_change (C := Try.checked) ownT started (by kernel_rfl) Try.func12
    (ChangeSpec.witness6 (enc := enc) (C := Try.checked) false ⟨#[], #[(.agg #[.int .i64 0, .int .i64 0]), (.int .i64 0)], []⟩ 8 (by kernel_rfl) (by kernel_rfl) (by kernel_rfl) (by kernel_rfl)) ?_
  intro W base args ds gs before hval0 hW hcnd _
  have hval : ∀ (j : Nat) t v, Try.f12.params[j]? = some t → args[j]? = some v → Value.okWide Try.prog W .any base t v := hval0
  have hW' := hW
  obtain ⟨p, q, hA0, hV, rfl, hfz, hnd⟩ := hW
  have hA : DataW.TrodAll enc Try.prog W 0 (fun _ => true) true Try.f12.params.toList args.toList ds p := hA0
  rw [Try.params12] at hA hval
  obtain ⟨v0, vs0, d0, ds0, p0, q0, hargs, rfl, rfl, h0, r0⟩ := trodAll_cons hA
  obtain ⟨v1, vs1, d1, ds1, p1, q1, rfl, rfl, rfl, h1, r1⟩ := trodAll_cons r0
  obtain ⟨rfl, rfl, rfl⟩ := trodAll_nil r1
  obtain rfl : args = #[v0, v1] := by cases args; simp_all
  obtain ⟨x0, y0, rfl, _, rfl, hx0, hy0⟩ := open_ground Try.underlying54 rfl rfl rfl rfl Try.underlying2 (by kernel_rfl) (by kernel_rfl) (hval 0 54 v0 rfl rfl) h0
  obtain ⟨x1, rfl, rfl, rfl, wx1⟩ := open_int Try.underlying2 (hval 1 2 v1 rfl rfl) h1
  refine (lawDistancesFrom_c x0 y0 x1 W hx0 hy0 (i64_of_wf wx1)).mono fun e W' ⟨he, hb⟩ => ?_
  subst he
  exact ⟨_, rfl, law_post rfl laidT (by kernel_rfl) (by kernel_rfl) Try.underlying4 hW' rfl hb⟩

set_option maxHeartbeats 20000000 in
theorem distancesFrom_closed : joinedFacts Try.prog 12 Try.f12 Rows.fnExactDistancesFromSpec Rows.fnExactDistancesFromRow = true := by
  unfold joinedFacts
  exact (and_mk (and_mk (and_mk (and_mk (and_mk (and_mk (and_mk (and_mk (and_mk (and_mk (and_mk (and_mk (and_mk (and_mk (and_mk (and_mk (and_mk (and_mk (and_mk (and_mk (and_mk (and_mk (and_mk (and_mk (and_mk (and_mk (and_mk (and_mk (and_mk (and_mk (and_mk (by as_aux_lemma => kernel_rfl) laidT) (by as_aux_lemma => kernel_rfl)) (by as_aux_lemma => kernel_rfl)) (by as_aux_lemma => kernel_rfl)) (by as_aux_lemma => kernel_rfl)) (by as_aux_lemma => kernel_rfl)) (by as_aux_lemma => kernel_rfl)) (by as_aux_lemma => kernel_rfl)) (by as_aux_lemma => kernel_rfl)) (by as_aux_lemma => kernel_rfl)) (by as_aux_lemma => kernel_rfl)) (by as_aux_lemma => kernel_rfl)) (by as_aux_lemma => kernel_rfl)) (by as_aux_lemma => kernel_rfl)) (by as_aux_lemma => kernel_rfl)) (by as_aux_lemma => kernel_rfl)) (by as_aux_lemma => kernel_rfl)) (by as_aux_lemma => kernel_rfl)) (by as_aux_lemma => kernel_rfl)) (by as_aux_lemma => kernel_rfl)) (by as_aux_lemma => kernel_rfl)) (by as_aux_lemma => kernel_rfl)) (by as_aux_lemma => kernel_rfl)) (by as_aux_lemma => kernel_rfl)) mayEnterT) (by rw [liftsFinalT]; rfl)) (by rw [makeT]; rfl)) (by as_aux_lemma => kernel_rfl)) (by as_aux_lemma => kernel_rfl)) (by as_aux_lemma => kernel_rfl)) (by as_aux_lemma => kernel_rfl))

set_option maxHeartbeats 20000000 in
theorem distancesFrom_holds : Rows.FnExactDistancesFromSaid :=
  OpenClaim.holds_of_wide 12 Try.f12 rfl rfl rfl rfl rfl rfl rfl ⟨rfl, rfl, rfl, rfl, rfl⟩ rfl rfl rfl rfl rfl (by as_aux_lemma => kernel_rfl) Try.func12 distancesFrom_closed
    (of_decide_eq_true (by as_aux_lemma => kernel_rfl)) (by unfold Func.isWrapper; rw [if_neg (of_decide_eq_false (by as_aux_lemma => kernel_rfl))]; exact ⟨rfl, rfl⟩)
    (fun os started H enc _ => distancesFrom_lifted os started H enc)

end Go.Proofs.Ytieobjoijalijaa
