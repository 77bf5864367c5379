/-
  The law on HandOvers: at every argument the function answers as its model, writes into no argument, and its answer owns its memory.
  Conditions: none but the row's own.
-/
import Derived.Test.YtlgjnceedjbakaaHao
import Derived.Test.YtlgjnceedjbakaaLaw
namespace Go.Proofs.Ytlgjnceedjbakaa
open Go.RowKit Go.Shelf

set_option maxRecDepth 100000 in
set_option maxHeartbeats 8000000 in
theorem lawHandOvers_c (x0 : Int) (c1 : Value) (xss1 : List (List Int)) (x2 : Int) (w : World) (hx0 : I64 x0) (hI1 : Lsts w.heap.size w c1 xss1) (_hN1 : L64 xss1) (hL1 : xss1.length ≤ 9223372036854775807) (hM1 : ∀ k, k < xss1.length → (lst xss1 k).length ≤ 9223372036854775807) (hx2 : I64 x2) :
    Calls Try.prog 8 #[.int .i64 x0, c1, .int .i64 x2] w fun e w' => e = .returned (.bool true) ∧ Below w.heap.size w w' := by
  obtain ⟨a1, cap1, rfl⟩ := hI1.shape
  have hB0 : Below w.heap.size w w := (Below.refl _ w)
  go_enter Try.func8, Try.ntmps8
  go_wp2_with fail
  obtain ⟨W0, hW0⟩ : ∃ W0, w = W0 := ⟨_, rfl⟩
  have hBW : Below w.heap.size w W0 := by rw [← hW0]; exact hB0
  have s0 : w.heap.size + 0 ≤ W0.heap.size := by rw [← hW0]; simp
  clear hB0
  subst hW0
  by_cases hs1 : 1048576 < (totL xss1 : Int)
  · have hm : szLL xss1 (1048576) = -1 := by unfold szLL; rw [if_pos (by omega)]
    have Hm := Lib.hid hm
    clear hm
    refine (szInt64SS_c _ xss1 _ _ (hI1.later hBW) (by omega) (by omega) hL1 hM1).mono ?_
    rintro e W1 ⟨he, hb⟩
    rw [Hm.out] at he
    subst he
    go_wp2
    go_ret
    exact ⟨rfl, hBW.trans (hb.mono (by omega))⟩
  have hm : szLL xss1 (1048576) = 1048576 - (totL xss1 : Int) := by unfold szLL; rw [if_neg (by omega)]
  have hn1 : (0 : Int) ≤ 1048576 - (totL xss1 : Int) := by omega
  have hm1 : xss1.length ≤ 1048576 := by have := totL_len xss1; omega
  have hmm1 : ∀ c, c < xss1.length → (lst xss1 c).length ≤ 1048576 := fun c hc => by have := totL_each hc; omega
  have hmo1 : (1 : Int) + offs xss1 xss1.length ≤ 1099511627776 := by have : offs xss1 xss1.length ≤ totL xss1 := (by unfold totL; omega); omega
  have Hm := Lib.hid hm
  clear hm
  refine (szInt64SS_c _ xss1 _ _ (hI1.later hBW) (by omega) (by omega) hL1 hM1).mono ?_
  rintro e W1 ⟨he, hb⟩
  rw [Hm.out] at he
  subst he
  clear Hm
  have s1 := hb.size
  replace hBW := hBW.trans (hb.mono (by omega))
  clear hb
  go_wp2_with fail
  refine (toInt64SS_c _ xss1 _ (hI1.later hBW) hm1 hmm1).mono ?_
  rintro e W2 ⟨v_t1, rfl, ho, hb⟩
  have s2 := hb.size
  replace hBW := hBW.trans (hb.mono (by omega))
  have g_t1 := SegL.new ho
  clear ho hb
  go_wp2_with fail
  refine (s_HandOvers x0 _ xss1 x2 _ hx0 g_t1.lsts hm1 hmm1 hx2).mono ?_
  rintro e W3 ⟨rfl, hb⟩
  have s3 := hb.size
  replace g_t1 := g_t1.below hb
  replace hBW := hBW.trans (hb.mono (by omega))
  clear hb
  clear g_t1
  go_wp2_with fail
  refine (toInt64SS_c _ xss1 _ (hI1.later hBW) hm1 hmm1).mono ?_
  rintro e W4 ⟨v_x1, rfl, ho, hb⟩
  have s4 := hb.size
  replace hBW := hBW.trans (hb.mono (by omega))
  have g_x1 := SegL.new ho
  clear ho hb
  go_wp2_with fail
  refine (i_HandOvers x0 _ xss1 x2 _ hx0 g_x1.lsts hm1 hmm1 hx2).mono ?_
  rintro e W5 ⟨rfl, hb⟩
  have s5 := hb.size
  replace g_x1 := g_x1.below hb
  replace hBW := hBW.trans (hb.mono (by omega))
  clear hb
  go_wp2_with fail
  refine (toInt64SS_c _ xss1 _ (hI1.later hBW) hm1 hmm1).mono ?_
  rintro e W6 ⟨v_t2, rfl, ho, hb⟩
  have s6 := hb.size
  replace g_x1 := g_x1.below hb
  replace hBW := hBW.trans (hb.mono (by omega))
  have g_t2 := SegL.new ho
  clear ho hb
  go_wp2_with fail
  refine (eqInt64SS_c _ _ _ _ g_x1.lsts g_t2.lsts hm1 hmm1).mono ?_
  rintro e W7 ⟨rfl, hb⟩
  have s7 := hb.size
  replace g_x1 := g_x1.below hb
  replace g_t2 := g_t2.below hb
  replace hBW := hBW.trans (hb.mono (by omega))
  clear hb
  clear g_t2
  go_wp2_with fail
  go_ret
  exact ⟨rfl, hBW⟩

open Go.ChangeShapes Go.WideShapes Go.ChangeAt Go.Joins Go.ChangeMaps

set_option maxRecDepth 100000 in
theorem handOvers_lifted (os : Os) (started : os.Started) (H : Type) (enc : TypeId × Value → H) :
    ReturnsInHanded {} Try.checked os 8 .any (Rows.fnExactHandOversSpec.pre6 enc Try.prog Try.f8 Rows.fnExactHandOversRow.domain false) (Rows.fnExactHandOversSpec.post enc Try.prog Try.f8 false true false false) := by
  refine returnsInHanded_of_change (C := Try.checked) ownT started (by kernel_rfl) Try.func8
    (ChangeSpec.witness6 (enc := enc) (C := Try.checked) false ⟨#[], #[(.int .i64 0), (.slice none 0 0), (.int .i64 0)], []⟩ 8 (by kernel_rfl) (by kernel_rfl) (by kernel_rfl) (by kernel_rfl)) ?_
  intro W base args ds gs before hval0 hW hcnd _
  have hval : ∀ (j : Nat) t v, Try.f8.params[j]? = some t → args[j]? = some v → Value.okWide Try.prog W .any base t v := hval0
  have hW' := hW
  obtain ⟨p, q, hA0, hV, rfl, hfz, hnd⟩ := hW
  have hA : DataW.TrodAll enc Try.prog W 0 (fun _ => true) true Try.f8.params.toList args.toList ds p := hA0
  rw [Try.params8] at hA hval
  obtain ⟨v0, vs0, d0, ds0, p0, q0, hargs, rfl, rfl, h0, r0⟩ := trodAll_cons hA
  obtain ⟨v1, vs1, d1, ds1, p1, q1, rfl, rfl, rfl, h1, r1⟩ := trodAll_cons r0
  obtain ⟨v2, vs2, d2, ds2, p2, q2, rfl, rfl, rfl, h2, r2⟩ := trodAll_cons r1
  obtain ⟨rfl, rfl, rfl⟩ := trodAll_nil r2
  obtain rfl : args = #[v0, v1, v2] := by cases args; simp_all
  obtain ⟨x0, rfl, rfl, rfl, wx0⟩ := open_int Try.underlying2 (hval 0 2 v0 rfl rfl) h0
  obtain ⟨xss1, hI1, hN1, hl1, hle1⟩ := lsts_of_Trod Try.underlying30 Try.underlying37 Try.underlying2 (by kernel_rfl) (by kernel_rfl) (hval 1 30 v1 rfl rfl) h1
  obtain ⟨x2, rfl, rfl, rfl, wx2⟩ := open_int Try.underlying2 (hval 2 2 v2 rfl rfl) h2
  refine (lawHandOvers_c x0 v1 xss1 x2 W (i64_of_wf wx0) hI1 hN1 hl1 hle1 (i64_of_wf wx2)).mono fun e W' ⟨he, hb⟩ => ?_
  subst he
  exact ⟨_, rfl, law_post rfl laidT (by kernel_rfl) (by kernel_rfl) Try.underlying4 hW' rfl hb⟩

set_option maxHeartbeats 20000000 in
theorem handOvers_closed : joinedFacts Try.prog 8 Try.f8 Rows.fnExactHandOversSpec Rows.fnExactHandOversRow = true := by
  unfold joinedFacts
  exact (and_mk (and_mk (and_mk (and_mk (and_mk (and_mk (and_mk (and_mk (and_mk (and_mk (and_mk (and_mk (and_mk (and_mk (and_mk (and_mk (and_mk (and_mk (and_mk (and_mk (and_mk (and_mk (and_mk (and_mk (and_mk (and_mk (and_mk (and_mk (and_mk (and_mk (and_mk (by as_aux_lemma => kernel_rfl) laidT) (by as_aux_lemma => kernel_rfl)) (by as_aux_lemma => kernel_rfl)) (by as_aux_lemma => kernel_rfl)) (by as_aux_lemma => kernel_rfl)) (by as_aux_lemma => kernel_rfl)) (by as_aux_lemma => kernel_rfl)) (by as_aux_lemma => kernel_rfl)) (by as_aux_lemma => kernel_rfl)) (by as_aux_lemma => kernel_rfl)) (by as_aux_lemma => kernel_rfl)) (by as_aux_lemma => kernel_rfl)) (by as_aux_lemma => kernel_rfl)) (by as_aux_lemma => kernel_rfl)) (by as_aux_lemma => kernel_rfl)) (by as_aux_lemma => kernel_rfl)) (by as_aux_lemma => kernel_rfl)) (by as_aux_lemma => kernel_rfl)) (by as_aux_lemma => kernel_rfl)) (by as_aux_lemma => kernel_rfl)) (by as_aux_lemma => kernel_rfl)) (by as_aux_lemma => kernel_rfl)) (by as_aux_lemma => kernel_rfl)) (by as_aux_lemma => kernel_rfl)) mayEnterT) (by rw [liftsFinalT]; rfl)) (by rw [makeT]; rfl)) (by as_aux_lemma => kernel_rfl)) (by as_aux_lemma => kernel_rfl)) (by as_aux_lemma => kernel_rfl)) (by as_aux_lemma => kernel_rfl))

set_option maxHeartbeats 20000000 in
theorem handOvers_holds : Rows.FnExactHandOversSaid :=
  OpenClaim.holds_of_wide 8 Try.f8 rfl rfl rfl rfl rfl rfl rfl ⟨rfl, rfl, rfl, rfl, rfl⟩ rfl rfl rfl rfl rfl (by as_aux_lemma => kernel_rfl) Try.func8 handOvers_closed
    (of_decide_eq_true (by as_aux_lemma => kernel_rfl)) (by unfold Func.isWrapper; rw [if_neg (of_decide_eq_false (by as_aux_lemma => kernel_rfl))]; exact ⟨rfl, rfl⟩)
    (fun os started H enc _ => handOvers_lifted os started H enc)

end Go.Proofs.Ytlgjnceedjbakaa
