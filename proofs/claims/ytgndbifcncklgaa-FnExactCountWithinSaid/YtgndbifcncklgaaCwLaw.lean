/-
  The law on CountWithin: at every argument the function answers as its model, writes into no argument, and its answer owns its memory.
  Conditions: none but the row's own.
-/
import Derived.Test.YtgndbifcncklgaaWau
import Derived.Test.YtgndbifcncklgaaLaw
namespace Go.Proofs.Ytgndbifcncklgaa
open Go.RowKit Go.Shelf

set_option maxRecDepth 100000 in
set_option maxHeartbeats 8000000 in
theorem lawCountWithin_c (c0 : Value) (zs0 : List Int) (x1 : Int) (x2 : Int) (w : World) (hI0 : Ints w.heap.size w c0 zs0) (hN0 : I64s zs0) (hL0 : zs0.length ≤ 9223372036854775807) (hx1 : I64 x1) (hx2 : I64 x2) :
    Calls Try.prog 11 #[c0, .int .i64 x1, .int .i64 x2] w fun e w' => e = .returned (.bool true) ∧ Below w.heap.size w w' := by
  obtain ⟨a0, cap0, rfl⟩ := hI0.shape
  have hB0 : Below w.heap.size w w := (Below.refl _ w)
  by_cases hs0 : 1048576 < zs0.length
  · skip
    go_enter Try.func11, Try.ntmps11
    go_wp2
    go_ret
    exact ⟨rfl, hB0⟩
  have hk0 : zs0.length * 8 ≤ 140737488351232 := by omega
  have hm0 : zs0.length ≤ 1048576 := by omega
  go_enter Try.func11, Try.ntmps11
  go_wp2_with fail
  obtain ⟨W0, hW0⟩ : ∃ W0, w = W0 := ⟨_, rfl⟩
  have hBW : Below w.heap.size w W0 := by rw [← hW0]; exact hB0
  have s0 : w.heap.size + 0 ≤ W0.heap.size := by rw [← hW0]; simp
  clear hB0
  subst hW0
  refine (toInt64S_c _ zs0 _ (hI0.later hBW) hm0).mono ?_
  rintro e W1 ⟨v_t1, rfl, ho, hb⟩
  have s1 := hb.size
  replace hBW := hBW.trans (hb.mono (by omega))
  have g_t1 := Seg.new ho
  clear ho hb
  go_wp2_with fail
  refine (s_CountWithin _ zs0 x1 x2 _ g_t1.ints hN0 hm0 hx1 hx2).mono ?_
  rintro e W2 ⟨rfl, hb⟩
  have s2 := hb.size
  replace g_t1 := g_t1.below hb
  replace hBW := hBW.trans (hb.mono (by omega))
  clear hb
  clear g_t1
  go_wp2_with fail
  refine (toInt64S_c _ zs0 _ (hI0.later hBW) hm0).mono ?_
  rintro e W3 ⟨v_x0, rfl, ho, hb⟩
  have s3 := hb.size
  replace hBW := hBW.trans (hb.mono (by omega))
  have g_x0 := Seg.new ho
  clear ho hb
  go_wp2_with fail
  refine (i_CountWithin _ zs0 x1 x2 _ g_x0.ints hN0 hm0 hx1 hx2).mono ?_
  rintro e W4 ⟨rfl, hb⟩
  have s4 := hb.size
  replace g_x0 := g_x0.below hb
  replace hBW := hBW.trans (hb.mono (by omega))
  clear hb
  go_wp2_with fail
  refine (toInt64S_c _ zs0 _ (hI0.later hBW) hm0).mono ?_
  rintro e W5 ⟨v_t2, rfl, ho, hb⟩
  have s5 := hb.size
  replace g_x0 := g_x0.below hb
  replace hBW := hBW.trans (hb.mono (by omega))
  have g_t2 := Seg.new ho
  clear ho hb
  go_wp2_with fail
  refine (eqInt64S_d true _ _ _ _ _ g_x0.ints g_t2.ints hk0 (by simp)).mono ?_
  rintro e W6 ⟨rfl, hb⟩
  have s6 := hb.size
  replace g_x0 := g_x0.below hb
  replace g_t2 := g_t2.below hb
  replace hBW := hBW.trans (hb.mono (by omega))
  clear hb
  clear g_t2
  go_wp2_with fail
  go_ret
  exact ⟨rfl, hBW⟩

open Go.ChangeShapes Go.WideShapes Go.ChangeAt Go.Joins Go.ChangeMaps

set_option maxRecDepth 100000 in
theorem countWithin_lifted (os : Os) (started : os.Started) (H : Type) (enc : TypeId × Value → H) :
    ReturnsInHanded {} Try.checked os 11 .any (Rows.fnExactCountWithinSpec.pre6 enc Try.prog Try.f11 Rows.fnExactCountWithinRow.domain false) (Rows.fnExactCountWithinSpec.post enc Try.prog Try.f11 false true false false) := by
  refine returnsInHanded_of_change (C := Try.checked) ownT started (by kernel_rfl) Try.func11
    (ChangeSpec.witness6 (enc := enc) (C := Try.checked) false ⟨#[], #[(.slice none 0 0), (.int .i64 0), (.int .i64 0)], []⟩ 8 (by kernel_rfl) (by kernel_rfl) (by kernel_rfl) (by kernel_rfl)) ?_
  intro W base args ds gs before hval0 hW hcnd _
  have hval : ∀ (j : Nat) t v, Try.f11.params[j]? = some t → args[j]? = some v → Value.okWide Try.prog W .any base t v := hval0
  have hW' := hW
  obtain ⟨p, q, hA0, hV, rfl, hfz, hnd⟩ := hW
  have hA : DataW.TrodAll enc Try.prog W 0 (fun _ => true) true Try.f11.params.toList args.toList ds p := hA0
  rw [Try.params11] at hA hval
  obtain ⟨v0, vs0, d0, ds0, p0, q0, hargs, rfl, rfl, h0, r0⟩ := trodAll_cons hA
  obtain ⟨v1, vs1, d1, ds1, p1, q1, rfl, rfl, rfl, h1, r1⟩ := trodAll_cons r0
  obtain ⟨v2, vs2, d2, ds2, p2, q2, rfl, rfl, rfl, h2, r2⟩ := trodAll_cons r1
  obtain ⟨rfl, rfl, rfl⟩ := trodAll_nil r2
  obtain rfl : args = #[v0, v1, v2] := by cases args; simp_all
  obtain ⟨zs0, hI0, hN0, hl0⟩ := ints_of_Trod Try.underlying24 Try.underlying2 (by kernel_rfl) (hval 0 24 v0 rfl rfl) h0
  obtain ⟨x1, rfl, rfl, rfl, wx1⟩ := open_int Try.underlying2 (hval 1 2 v1 rfl rfl) h1
  obtain ⟨x2, rfl, rfl, rfl, wx2⟩ := open_int Try.underlying2 (hval 2 2 v2 rfl rfl) h2
  refine (lawCountWithin_c v0 zs0 x1 x2 W hI0 hN0 hl0 (i64_of_wf wx1) (i64_of_wf wx2)).mono fun e W' ⟨he, hb⟩ => ?_
  subst he
  exact ⟨_, rfl, law_post rfl laidT (by kernel_rfl) (by kernel_rfl) Try.underlying4 hW' rfl hb⟩

set_option maxHeartbeats 20000000 in
theorem countWithin_closed : joinedFacts Try.prog 11 Try.f11 Rows.fnExactCountWithinSpec Rows.fnExactCountWithinRow = true := by
  unfold joinedFacts
  exact (and_mk (and_mk (and_mk (and_mk (and_mk (and_mk (and_mk (and_mk (and_mk (and_mk (and_mk (and_mk (and_mk (and_mk (and_mk (and_mk (and_mk (and_mk (and_mk (and_mk (and_mk (and_mk (and_mk (and_mk (and_mk (and_mk (and_mk (and_mk (and_mk (and_mk (and_mk (by as_aux_lemma => kernel_rfl) laidT) (by as_aux_lemma => kernel_rfl)) (by as_aux_lemma => kernel_rfl)) (by as_aux_lemma => kernel_rfl)) (by as_aux_lemma => kernel_rfl)) (by as_aux_lemma => kernel_rfl)) (by as_aux_lemma => kernel_rfl)) (by as_aux_lemma => kernel_rfl)) (by as_aux_lemma => kernel_rfl)) (by as_aux_lemma => kernel_rfl)) (by as_aux_lemma => kernel_rfl)) (by as_aux_lemma => kernel_rfl)) (by as_aux_lemma => kernel_rfl)) (by as_aux_lemma => kernel_rfl)) (by as_aux_lemma => kernel_rfl)) (by as_aux_lemma => kernel_rfl)) (by as_aux_lemma => kernel_rfl)) (by as_aux_lemma => kernel_rfl)) (by as_aux_lemma => kernel_rfl)) (by as_aux_lemma => kernel_rfl)) (by as_aux_lemma => kernel_rfl)) (by as_aux_lemma => kernel_rfl)) (by as_aux_lemma => kernel_rfl)) (by as_aux_lemma => kernel_rfl)) mayEnterT) (by rw [liftsFinalT]; rfl)) (by rw [makeT]; rfl)) (by as_aux_lemma => kernel_rfl)) (by as_aux_lemma => kernel_rfl)) (by as_aux_lemma => kernel_rfl)) (by as_aux_lemma => kernel_rfl))

set_option maxHeartbeats 20000000 in
theorem countWithin_holds : Rows.FnExactCountWithinSaid :=
  OpenClaim.holds_of_wide 11 Try.f11 rfl rfl rfl rfl rfl rfl rfl ⟨rfl, rfl, rfl, rfl, rfl⟩ rfl rfl rfl rfl rfl (by as_aux_lemma => kernel_rfl) Try.func11 countWithin_closed
    (of_decide_eq_true (by as_aux_lemma => kernel_rfl)) (by unfold Func.isWrapper; rw [if_neg (of_decide_eq_false (by as_aux_lemma => kernel_rfl))]; exact ⟨rfl, rfl⟩)
    (fun os started H enc _ => countWithin_lifted os started H enc)

end Go.Proofs.Ytgndbifcncklgaa
