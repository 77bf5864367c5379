/-
  The law on DoubledTurns: at every argument the function answers as its model, writes into no argument, and its answer owns its memory.
  Conditions: none but the row's own.
-/
import Derived.Test.YtnhdfpmjebfjmaaDbl
import Derived.Test.YtnhdfpmjebfjmaaLaw
namespace Go.Proofs.Ytnhdfpmjebfjmaa
open Go.RowKit Go.Shelf

set_option maxRecDepth 100000 in
set_option maxHeartbeats 8000000 in
theorem lawDoubledTurns_c (x0 : Int) (w : World) (hx0 : I64 x0) :
    Calls Try.prog 9 #[.int .i64 x0] w fun e w' => e = .returned (.bool true) ∧ Below w.heap.size w w' := by
  have hB0 : Below w.heap.size w w := (Below.refl _ w)
  have hres0 : (dbR x0).length * 8 ≤ 140737488351232 := dbR_len _
  go_enter Try.func9, Try.ntmps9
  go_wp2_with fail
  obtain ⟨W0, hW0⟩ : ∃ W0, w = W0 := ⟨_, rfl⟩
  have hBW : Below w.heap.size w W0 := by rw [← hW0]; exact hB0
  have s0 : w.heap.size + 0 ≤ W0.heap.size := by rw [← hW0]; simp
  clear hB0
  subst hW0
  refine (s_DoubledTurns x0 _ hx0).mono ?_
  rintro e W1 ⟨v_w0, rfl, ho, hb⟩
  have s1 := hb.size
  replace hBW := hBW.trans (hb.mono (by omega))
  have g_w0 := Seg.new ho
  clear ho hb
  go_wp2_with fail
  refine (i_DoubledTurns x0 _ hx0).mono ?_
  rintro e W2 ⟨v_g0, rfl, ho, hb⟩
  have s2 := hb.size
  replace g_w0 := g_w0.below hb
  replace hBW := hBW.trans (hb.mono (by omega))
  have g_g0 := Seg.new ho
  clear ho hb
  go_wp2_with fail
  refine (eqInt64S_d true _ _ _ _ _ g_g0.ints g_w0.ints hres0 (by simp)).mono ?_
  rintro e W3 ⟨rfl, hb⟩
  have s3 := hb.size
  replace g_w0 := g_w0.below hb
  replace g_g0 := g_g0.below hb
  replace hBW := hBW.trans (hb.mono (by omega))
  clear hb
  go_wp2_with fail
  refine (markInt64S_c _ _ _ (1 : Int) _ g_g0.own hres0 (by omega) (by omega)).mono ?_
  rintro e W4 ⟨rfl, ho, hg⟩
  have s4 := hg.size
  replace hBW := below_marked hBW g_g0 hg (by omega)
  replace g_w0 := g_w0.kept hg (g_g0.apart (by omega))
  replace g_g0 := g_g0.marked ho hg
  clear ho hg
  go_wp2_with fail
  refine (heldInt64S_c _ _ (1 : Int) _ g_g0.ints hres0 (by omega) (by omega)).mono ?_
  rintro e _ ⟨rfl, rfl⟩
  go_wp2_with fail
  refine (i_DoubledTurns x0 _ hx0).mono ?_
  rintro e W5 ⟨v_h0, rfl, ho, hb⟩
  have s5 := hb.size
  replace g_w0 := g_w0.below hb
  replace g_g0 := g_g0.below hb
  replace hBW := hBW.trans (hb.mono (by omega))
  have g_h0 := Seg.new ho
  clear ho hb
  go_wp2_with fail
  refine (eqInt64S_d true _ _ _ _ _ g_h0.ints g_w0.ints hres0 (by simp)).mono ?_
  rintro e W6 ⟨rfl, hb⟩
  have s6 := hb.size
  replace g_w0 := g_w0.below hb
  replace g_g0 := g_g0.below hb
  replace g_h0 := g_h0.below hb
  replace hBW := hBW.trans (hb.mono (by omega))
  clear hb
  go_wp2_with fail
  refine (heldInt64S_c _ _ (1 : Int) _ g_g0.ints hres0 (by omega) (by omega)).mono ?_
  rintro e _ ⟨rfl, rfl⟩
  go_wp2_with fail
  go_ret
  exact ⟨rfl, hBW⟩

open Go.ChangeShapes Go.WideShapes Go.ChangeAt Go.Joins Go.ChangeMaps

set_option maxRecDepth 100000 in
theorem doubledTurns_lifted (os : Os) (started : os.Started) (H : Type) (enc : TypeId × Value → H) :
    ReturnsInHanded {} Try.checked os 9 .any (Rows.fnExactDoubledTurnsSpec.pre6 enc Try.prog Try.f9 Rows.fnExactDoubledTurnsRow.domain false) (Rows.fnExactDoubledTurnsSpec.post enc Try.prog Try.f9 false true false false) := by
  refine returnsInHanded_of_change (C := Try.checked) ownT started (by kernel_rfl) Try.func9
    (ChangeSpec.witness6 (enc := enc) (C := Try.checked) false ⟨#[], #[(.int .i64 0)], []⟩ 8 (by kernel_rfl) (by kernel_rfl) (by kernel_rfl) (by kernel_rfl)) ?_
  intro W base args ds gs before hval0 hW hcnd _
  have hval : ∀ (j : Nat) t v, Try.f9.params[j]? = some t → args[j]? = some v → Value.okWide Try.prog W .any base t v := hval0
  have hW' := hW
  obtain ⟨p, q, hA0, hV, rfl, hfz, hnd⟩ := hW
  have hA : DataW.TrodAll enc Try.prog W 0 (fun _ => true) true Try.f9.params.toList args.toList ds p := hA0
  rw [Try.params9] at hA hval
  obtain ⟨v0, vs0, d0, ds0, p0, q0, hargs, rfl, rfl, h0, r0⟩ := trodAll_cons hA
  obtain ⟨rfl, rfl, rfl⟩ := trodAll_nil r0
  obtain rfl : args = #[v0] := by cases args; simp_all
  obtain ⟨x0, rfl, rfl, rfl, wx0⟩ := open_int Try.underlying2 (hval 0 2 v0 rfl rfl) h0
  refine (lawDoubledTurns_c x0 W (i64_of_wf wx0)).mono fun e W' ⟨he, hb⟩ => ?_
  subst he
  exact ⟨_, rfl, law_post rfl laidT (by kernel_rfl) (by kernel_rfl) Try.underlying4 hW' rfl hb⟩

set_option maxHeartbeats 20000000 in
theorem doubledTurns_closed : joinedFacts Try.prog 9 Try.f9 Rows.fnExactDoubledTurnsSpec Rows.fnExactDoubledTurnsRow = true := by
  unfold joinedFacts
  exact (and_mk (and_mk (and_mk (and_mk (and_mk (and_mk (and_mk (and_mk (and_mk (and_mk (and_mk (and_mk (and_mk (and_mk (and_mk (and_mk (and_mk (and_mk (and_mk (and_mk (and_mk (and_mk (and_mk (and_mk (and_mk (and_mk (and_mk (and_mk (and_mk (and_mk (and_mk (by as_aux_lemma => kernel_rfl) laidT) (by as_aux_lemma => kernel_rfl)) (by as_aux_lemma => kernel_rfl)) (by as_aux_lemma => kernel_rfl)) (by as_aux_lemma => kernel_rfl)) (by as_aux_lemma => kernel_rfl)) (by as_aux_lemma => kernel_rfl)) (by as_aux_lemma => kernel_rfl)) (by as_aux_lemma => kernel_rfl)) (by as_aux_lemma => kernel_rfl)) (by as_aux_lemma => kernel_rfl)) (by as_aux_lemma => kernel_rfl)) (by as_aux_lemma => kernel_rfl)) (by as_aux_lemma => kernel_rfl)) (by as_aux_lemma => kernel_rfl)) (by as_aux_lemma => kernel_rfl)) (by as_aux_lemma => kernel_rfl)) (by as_aux_lemma => kernel_rfl)) (by as_aux_lemma => kernel_rfl)) (by as_aux_lemma => kernel_rfl)) (by as_aux_lemma => kernel_rfl)) (by as_aux_lemma => kernel_rfl)) (by as_aux_lemma => kernel_rfl)) (by as_aux_lemma => kernel_rfl)) mayEnterT) (by rw [liftsFinalT]; rfl)) (by rw [makeT]; rfl)) (by as_aux_lemma => kernel_rfl)) (by as_aux_lemma => kernel_rfl)) (by as_aux_lemma => kernel_rfl)) (by as_aux_lemma => kernel_rfl))

set_option maxHeartbeats 20000000 in
theorem doubledTurns_holds : Rows.FnExactDoubledTurnsSaid :=
  OpenClaim.holds_of_wide 9 Try.f9 rfl rfl rfl rfl rfl rfl rfl ⟨rfl, rfl, rfl, rfl, rfl⟩ rfl rfl rfl rfl rfl (by as_aux_lemma => kernel_rfl) Try.func9 doubledTurns_closed
    (of_decide_eq_true (by as_aux_lemma => kernel_rfl)) (by unfold Func.isWrapper; rw [if_neg (of_decide_eq_false (by as_aux_lemma => kernel_rfl))]; exact ⟨rfl, rfl⟩)
    (fun os started H enc _ => doubledTurns_lifted os started H enc)

end Go.Proofs.Ytnhdfpmjebfjmaa
