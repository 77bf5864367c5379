/-
  The law on AreNatural: at every argument the function answers as its model, writes into no argument, and its answer owns its memory.
  Conditions: none but the row's own.
-/
import Derived.Test.YtbhpflhopajbfaaClh
import Derived.Test.YtbhpflhopajbfaaNat
import Derived.Test.YtbhpflhopajbfaaLaw
namespace Go.Proofs.Ytbhpflhopajbfaa
open Go.RowKit Go.Shelf

set_option maxRecDepth 100000 in
set_option maxHeartbeats 8000000 in
theorem lawAreNatural_c (c0 : Value) (cs0 : List (Int × Int)) (w : World) (hI0 : Cls w.heap.size w c0 cs0) (hN0 : C64 cs0) (hL0 : cs0.length ≤ 9223372036854775807) :
    Calls Try.prog 9 #[c0] w fun e w' => e = .returned (.bool true) ∧ Below w.heap.size w w' := by
  obtain ⟨a0, cap0, rfl⟩ := hI0.shape
  have hB0 : Below w.heap.size w w := (Below.refl _ w)
  by_cases hs0 : 1048576 < cs0.length
  · skip
    have hm : szI cs0.length 1048576 = -1 := by unfold szI; rw [if_pos (by omega)]
    have Hm := Lib.hid hm
    clear hm
    go_enter Try.func9, Try.ntmps9
    go_wp2_with fail
    refine (szClassS_c _ _ _ _ _ (by omega) (by omega) hL0).mono ?_
    rintro e w1 ⟨he, hb⟩
    rw [Hm.out] at he
    subst he
    go_wp2
    go_ret
    exact ⟨rfl, hB0.trans (hb.mono (by simp; try omega))⟩
  have hk0 : cs0.length * 16 ≤ 140737488351232 := by omega
  have hm0 : cs0.length ≤ 1048576 := by omega
  have hm : szI cs0.length 1048576 = 1048576 - cs0.length := by unfold szI; rw [if_neg (by omega)]
  have hn0 : (0 : Int) ≤ 1048576 - cs0.length := by omega
  have Hm := Lib.hid hm
  clear hm
  go_enter Try.func9, Try.ntmps9
  go_wp2_with fail
  obtain ⟨W0, hW0⟩ : ∃ W0, w = W0 := ⟨_, rfl⟩
  have hBW : Below w.heap.size w W0 := by rw [← hW0]; exact hB0
  have s0 : w.heap.size + 0 ≤ W0.heap.size := by rw [← hW0]; simp
  clear hB0
  subst hW0
  refine (szClassS_c _ _ _ _ _ (by omega) (by omega) hL0).mono ?_
  rintro e W1 ⟨he, hb⟩
  rw [Hm.out] at he
  subst he
  clear Hm
  have s1 := hb.size
  replace hBW := hBW.trans (hb.mono (by omega))
  clear hb
  go_wp2_with fail
  refine (toClassS_c _ cs0 _ (hI0.later hBW) hm0).mono ?_
  rintro e W2 ⟨v_t1, rfl, ho, hb⟩
  have s2 := hb.size
  replace hBW := hBW.trans (hb.mono (by omega))
  have g_t1 := SegC.new ho
  clear ho hb
  go_wp2_with fail
  refine (s_AreNatural _ cs0 _ g_t1.cls hN0 hm0).mono ?_
  rintro e W3 ⟨rfl, hb⟩
  have s3 := hb.size
  replace g_t1 := g_t1.below hb
  replace hBW := hBW.trans (hb.mono (by omega))
  clear hb
  clear g_t1
  go_wp2_with fail
  refine (toClassS_c _ cs0 _ (hI0.later hBW) hm0).mono ?_
  rintro e W4 ⟨v_x0, rfl, ho, hb⟩
  have s4 := hb.size
  replace hBW := hBW.trans (hb.mono (by omega))
  have g_x0 := SegC.new ho
  clear ho hb
  go_wp2_with fail
  refine (i_AreNatural _ cs0 _ g_x0.cls hN0 hm0).mono ?_
  rintro e W5 ⟨rfl, hb⟩
  have s5 := hb.size
  replace g_x0 := g_x0.below hb
  replace hBW := hBW.trans (hb.mono (by omega))
  clear hb
  go_wp2_with fail
  refine (toClassS_c _ cs0 _ (hI0.later hBW) hm0).mono ?_
  rintro e W6 ⟨v_t2, rfl, ho, hb⟩
  have s6 := hb.size
  replace g_x0 := g_x0.below hb
  replace hBW := hBW.trans (hb.mono (by omega))
  have g_t2 := SegC.new ho
  clear ho hb
  go_wp2_with fail
  refine (eqClassS_d true _ _ _ _ _ g_x0.cls g_t2.cls hk0 (by simp)).mono ?_
  rintro e W7 ⟨rfl, hb⟩
  have s7 := hb.size
  replace g_x0 := g_x0.below hb
  replace g_t2 := g_t2.below hb
  replace hBW := hBW.trans (hb.mono (by omega))
  clear hb
  clear g_t2
  go_wp2_with fail
  go_ret
  exact ⟨rfl, hBW⟩

open Go.ChangeShapes Go.WideShapes Go.ChangeAt Go.Joins Go.ChangeMaps

set_option maxRecDepth 100000 in
theorem areNatural_lifted (os : Os) (started : os.Started) (H : Type) (enc : TypeId × Value → H) :
    ReturnsInHanded {} Try.checked os 9 .any (Rows.fnExactAreNaturalSpec.pre6 enc Try.prog Try.f9 Rows.fnExactAreNaturalRow.domain false) (Rows.fnExactAreNaturalSpec.post enc Try.prog Try.f9 false true false false) := by
  refine returnsInHanded_of_change (C := Try.checked) ownT started (by kernel_rfl) Try.func9
    (ChangeSpec.witness6 (enc := enc) (C := Try.checked) false ⟨#[], #[(.slice none 0 0)], []⟩ 8 (by kernel_rfl) (by kernel_rfl) (by kernel_rfl) (by kernel_rfl)) ?_
  intro W base args ds gs before hval0 hW hcnd _
  have hval : ∀ (j : Nat) t v, Try.f9.params[j]? = some t → args[j]? = some v → Value.okWide Try.prog W .any base t v := hval0
  have hW' := hW
  obtain ⟨p, q, hA0, hV, rfl, hfz, hnd⟩ := hW
  have hA : DataW.TrodAll enc Try.prog W 0 (fun _ => true) true Try.f9.params.toList args.toList ds p := hA0
  rw [Try.params9] at hA hval
  obtain ⟨v0, vs0, d0, ds0, p0, q0, hargs, rfl, rfl, h0, r0⟩ := trodAll_cons hA
  obtain ⟨rfl, rfl, rfl⟩ := trodAll_nil r0
  obtain rfl : args = #[v0] := by cases args; simp_all
  obtain ⟨cs0, hI0, hN0, hl0⟩ := cls_of_Trod Try.underlying51 Try.underlying105 Try.underlying2 (by kernel_rfl) (by kernel_rfl) (hval 0 51 v0 rfl rfl) h0
  refine (lawAreNatural_c v0 cs0 W hI0 hN0 hl0).mono fun e W' ⟨he, hb⟩ => ?_
  subst he
  exact ⟨_, rfl, law_post rfl laidT (by kernel_rfl) (by kernel_rfl) Try.underlying4 hW' rfl hb⟩

set_option maxHeartbeats 20000000 in
theorem areNatural_closed : joinedFacts Try.prog 9 Try.f9 Rows.fnExactAreNaturalSpec Rows.fnExactAreNaturalRow = true := by
  unfold joinedFacts
  exact (and_mk (and_mk (and_mk (and_mk (and_mk (and_mk (and_mk (and_mk (and_mk (and_mk (and_mk (and_mk (and_mk (and_mk (and_mk (and_mk (and_mk (and_mk (and_mk (and_mk (and_mk (and_mk (and_mk (and_mk (and_mk (and_mk (and_mk (and_mk (and_mk (and_mk (and_mk (by as_aux_lemma => kernel_rfl) laidT) (by as_aux_lemma => kernel_rfl)) (by as_aux_lemma => kernel_rfl)) (by as_aux_lemma => kernel_rfl)) (by as_aux_lemma => kernel_rfl)) (by as_aux_lemma => kernel_rfl)) (by as_aux_lemma => kernel_rfl)) (by as_aux_lemma => kernel_rfl)) (by as_aux_lemma => kernel_rfl)) (by as_aux_lemma => kernel_rfl)) (by as_aux_lemma => kernel_rfl)) (by as_aux_lemma => kernel_rfl)) (by as_aux_lemma => kernel_rfl)) (by as_aux_lemma => kernel_rfl)) (by as_aux_lemma => kernel_rfl)) (by as_aux_lemma => kernel_rfl)) (by as_aux_lemma => kernel_rfl)) (by as_aux_lemma => kernel_rfl)) (by as_aux_lemma => kernel_rfl)) (by as_aux_lemma => kernel_rfl)) (by as_aux_lemma => kernel_rfl)) (by as_aux_lemma => kernel_rfl)) (by as_aux_lemma => kernel_rfl)) (by as_aux_lemma => kernel_rfl)) mayEnterT) (by rw [liftsFinalT]; rfl)) (by rw [makeT]; rfl)) (by as_aux_lemma => kernel_rfl)) (by as_aux_lemma => kernel_rfl)) (by as_aux_lemma => kernel_rfl)) (by as_aux_lemma => kernel_rfl))

set_option maxHeartbeats 20000000 in
theorem areNatural_holds : Rows.FnExactAreNaturalSaid :=
  OpenClaim.holds_of_wide 9 Try.f9 rfl rfl rfl rfl rfl rfl rfl ⟨rfl, rfl, rfl, rfl, rfl⟩ rfl rfl rfl rfl rfl (by as_aux_lemma => kernel_rfl) Try.func9 areNatural_closed
    (of_decide_eq_true (by as_aux_lemma => kernel_rfl)) (by unfold Func.isWrapper; rw [if_neg (of_decide_eq_false (by as_aux_lemma => kernel_rfl))]; exact ⟨rfl, rfl⟩)
    (fun os started H enc _ => areNatural_lifted os started H enc)

end Go.Proofs.Ytbhpflhopajbfaa
