/-
  The law on IsDesk: at every argument the function answers as its model, writes into no argument, and its answer owns its memory.
  Conditions: none but the row's own.
-/
import Derived.Test.YtbhpflhopajbfaaDsk
import Derived.Test.YtbhpflhopajbfaaDki
import Derived.Test.YtbhpflhopajbfaaLaw
namespace Go.Proofs.Ytbhpflhopajbfaa
open Go.RowKit Go.Shelf

set_option maxRecDepth 100000 in
set_option maxHeartbeats 8000000 in
theorem lawIsDesk_c (c0l c0p c0d : Value) (zs0l zs0p zs0d : List Int) (w : World) (hI0 : Jobs3 w.heap.size w c0l c0p c0d zs0l zs0p zs0d) (hN0 : J64 zs0l zs0p zs0d) (hL0l : zs0l.length ≤ 9223372036854775807) (hL0p : zs0p.length ≤ 9223372036854775807) (hL0d : zs0d.length ≤ 9223372036854775807) :
    Calls Try.prog 14 #[.agg #[c0l, c0p, c0d]] w fun e w' => e = .returned (.bool true) ∧ Below w.heap.size w w' := by
  obtain ⟨a0l, cap0l, rfl⟩ := hI0.l.shape
  obtain ⟨a0p, cap0p, rfl⟩ := hI0.p.shape
  obtain ⟨a0d, cap0d, rfl⟩ := hI0.d.shape
  have hB0 : Below w.heap.size w (w.alloc (.cells #[.slice a0l zs0l.length cap0l, .slice a0p zs0p.length cap0p, .slice a0d zs0d.length cap0d] 83)) := ((Below.refl _ w).alloc (Nat.le_refl _) _)
  by_cases hs0 : 1048576 < zs0l.length + zs0p.length + zs0d.length
  · skip
    have hm : szJ zs0l.length zs0p.length zs0d.length 1048576 = -1 := by unfold szJ; rw [if_pos (by omega)]
    have Hm := Lib.hid hm
    clear hm
    go_enter Try.func14, Try.ntmps14
    go_wp2_with fail
    refine (szDesk_c _ _ _ _ _ _ _ _ _ _ _ (by omega) (by omega) hL0l hL0p hL0d).mono ?_
    rintro e w1 ⟨he, hb⟩
    rw [Hm.out] at he
    subst he
    go_wp2
    go_ret
    exact ⟨rfl, hB0.trans (hb.mono (by simp; try omega))⟩
  have hk0l : zs0l.length * 8 ≤ 140737488351232 := by omega
  have hn0l : zs0l.length ≤ 1048576 := by omega
  have hk0p : zs0p.length * 8 ≤ 140737488351232 := by omega
  have hn0p : zs0p.length ≤ 1048576 := by omega
  have hk0d : zs0d.length * 8 ≤ 140737488351232 := by omega
  have hn0d : zs0d.length ≤ 1048576 := by omega
  have hm0 : JLen zs0l zs0p zs0d := ⟨by omega, by omega, by omega⟩
  have hm : szJ zs0l.length zs0p.length zs0d.length 1048576 = 1048576 - zs0l.length - zs0p.length - zs0d.length := by unfold szJ; rw [if_neg (by omega)]
  have hn0 : (0 : Int) ≤ 1048576 - zs0l.length - zs0p.length - zs0d.length := by omega
  have Hm := Lib.hid hm
  clear hm
  go_enter Try.func14, Try.ntmps14
  go_wp2_with fail
  obtain ⟨W0, hW0⟩ : ∃ W0, (w.alloc (.cells #[.slice a0l zs0l.length cap0l, .slice a0p zs0p.length cap0p, .slice a0d zs0d.length cap0d] 83)) = W0 := ⟨_, rfl⟩
  have ba0 : Box3 W0 (w.heap.size) 83 (.slice a0l zs0l.length cap0l) (.slice a0p zs0p.length cap0p) (.slice a0d zs0d.length cap0d) := by rw [← hW0]; simpa using Box3.new w 83 (.slice a0l zs0l.length cap0l) (.slice a0p zs0p.length cap0p) (.slice a0d zs0d.length cap0d)
  have hBW : Below w.heap.size w W0 := by rw [← hW0]; exact hB0
  have s0 : w.heap.size + 1 ≤ W0.heap.size := by rw [← hW0]; simp
  clear hB0
  rw [hW0]
  clear hW0
  refine (szDesk_c _ _ _ _ _ _ _ _ _ _ _ (by omega) (by omega) hL0l hL0p hL0d).mono ?_
  rintro e W1 ⟨he, hb⟩
  rw [Hm.out] at he
  subst he
  clear Hm
  have s1 := hb.size
  replace ba0 := ba0.later hb
  replace hBW := hBW.trans (hb.mono (by omega))
  clear hb
  have k_ba00 := ba0.c0
  have k_ba01 := ba0.c1
  have k_ba02 := ba0.c2
  go_wp2_with fail
  clear k_ba00 k_ba01 k_ba02
  refine (toDesk_c _ _ _ zs0l zs0p zs0d _ (hI0.later hBW) hm0).mono ?_
  rintro e W2 ⟨v_t1l, v_t1p, v_t1d, mid1_2, mid2_2, rfl, ho1, ho2, ho3, hmo1_2, hmo2_2, hmo3_2, hb⟩
  have s2 := hb.size
  replace ba0 := ba0.later hb
  replace hBW := hBW.trans (hb.mono (by omega))
  have g_t1l := ho1
  have g_t1p := ho2
  have g_t1d := ho3
  clear ho1 ho2 ho3 hb
  have k_ba00 := ba0.c0
  have k_ba01 := ba0.c1
  have k_ba02 := ba0.c2
  go_wp2_with fail
  clear k_ba00 k_ba01 k_ba02
  refine (s_IsDesk _ _ _ zs0l zs0p zs0d _ ⟨g_t1l.ints, g_t1p.ints, g_t1d.ints⟩ hN0 hm0).mono ?_
  rintro e W3 ⟨rfl, hb⟩
  have s3 := hb.size
  replace g_t1l := g_t1l.below hb
  replace g_t1p := g_t1p.below hb
  replace g_t1d := g_t1d.below hb
  replace ba0 := ba0.later hb
  replace hBW := hBW.trans (hb.mono (by omega))
  clear hb
  clear g_t1l
  clear g_t1p
  clear g_t1d
  have k_ba00 := ba0.c0
  have k_ba01 := ba0.c1
  have k_ba02 := ba0.c2
  go_wp2_with fail
  clear k_ba00 k_ba01 k_ba02
  refine (toDesk_c _ _ _ zs0l zs0p zs0d _ (hI0.later hBW) hm0).mono ?_
  rintro e W4 ⟨v_x0l, v_x0p, v_x0d, mid1_4, mid2_4, rfl, ho1, ho2, ho3, hmo1_4, hmo2_4, hmo3_4, hb⟩
  have s4 := hb.size
  replace ba0 := ba0.later hb
  replace hBW := hBW.trans (hb.mono (by omega))
  have g_x0l := ho1
  have g_x0p := ho2
  have g_x0d := ho3
  clear ho1 ho2 ho3 hb
  obtain ⟨a_x0l, cap_x0l, rfl⟩ := g_x0l.ints.shape
  obtain ⟨a_x0p, cap_x0p, rfl⟩ := g_x0p.ints.shape
  obtain ⟨a_x0d, cap_x0d, rfl⟩ := g_x0d.ints.shape
  have k_ba00 := (ba0.alloc (.cells #[.slice a_x0l zs0l.length cap_x0l, .slice a_x0p zs0p.length cap_x0p, .slice a_x0d zs0d.length cap_x0d] 76)).c0
  have k_ba01 := (ba0.alloc (.cells #[.slice a_x0l zs0l.length cap_x0l, .slice a_x0p zs0p.length cap_x0p, .slice a_x0d zs0d.length cap_x0d] 76)).c1
  have k_ba02 := (ba0.alloc (.cells #[.slice a_x0l zs0l.length cap_x0l, .slice a_x0p zs0p.length cap_x0p, .slice a_x0d zs0d.length cap_x0d] 76)).c2
  go_wp2_with fail
  clear k_ba00 k_ba01 k_ba02
  obtain ⟨W5, hWn⟩ : ∃ W5, W4.alloc (.cells #[.slice a_x0l zs0l.length cap_x0l, .slice a_x0p zs0p.length cap_x0p, .slice a_x0d zs0d.length cap_x0d] 76) = W5 := ⟨_, rfl⟩
  have hb : Below W4.heap.size W4 W5 := by rw [← hWn]; exact (Below.refl _ _).alloc (Nat.le_refl _) _
  have bx0 : Box3 W5 W4.heap.size 76 (.slice a_x0l zs0l.length cap_x0l) (.slice a_x0p zs0p.length cap_x0p) (.slice a_x0d zs0d.length cap_x0d) := by rw [← hWn]; exact Box3.new _ _ _ _ _
  have s5 : W4.heap.size + 1 ≤ W5.heap.size := by rw [← hWn]; simp
  rw [hWn]
  clear hWn
  replace g_x0l := g_x0l.below hb
  replace g_x0p := g_x0p.below hb
  replace g_x0d := g_x0d.below hb
  replace ba0 := ba0.later hb
  replace hBW := hBW.trans (hb.mono (by omega))
  clear hb
  refine (i_IsDesk _ _ _ zs0l zs0p zs0d _ ⟨g_x0l.ints, g_x0p.ints, g_x0d.ints⟩ hN0 hm0).mono ?_
  rintro e W6 ⟨rfl, hb⟩
  have s6 := hb.size
  replace g_x0l := g_x0l.below hb
  replace g_x0p := g_x0p.below hb
  replace g_x0d := g_x0d.below hb
  replace ba0 := ba0.later hb
  replace bx0 := bx0.later hb
  replace hBW := hBW.trans (hb.mono (by omega))
  clear hb
  have k_ba00 := ba0.c0
  have k_ba01 := ba0.c1
  have k_ba02 := ba0.c2
  have k_bx00 := bx0.c0
  have k_bx01 := bx0.c1
  have k_bx02 := bx0.c2
  go_wp2_with fail
  clear k_ba00 k_ba01 k_ba02
  clear k_bx00 k_bx01 k_bx02
  have k_ba00 := ba0.c0
  have k_ba01 := ba0.c1
  have k_ba02 := ba0.c2
  have k_bx00 := bx0.c0
  have k_bx01 := bx0.c1
  have k_bx02 := bx0.c2
  have p1 : w.heap.size < W6.heap.size := ba0.lt
  have p2 : W4.heap.size < W6.heap.size := bx0.lt
  go_region_held3 (fun w' => w'.cell? ⟨w.heap.size, 0, none⟩ = some (.slice a0l zs0l.length cap0l) ∧ w'.cell? ⟨w.heap.size, 1, none⟩ = some (.slice a0p zs0p.length cap0p) ∧ w'.cell? ⟨w.heap.size, 2, none⟩ = some (.slice a0d zs0d.length cap0d) ∧ w'.cell? ⟨W4.heap.size, 0, none⟩ = some (.slice a_x0l zs0l.length cap_x0l) ∧ w'.cell? ⟨W4.heap.size, 1, none⟩ = some (.slice a_x0p zs0p.length cap_x0p) ∧ w'.cell? ⟨W4.heap.size, 2, none⟩ = some (.slice a_x0d zs0d.length cap_x0d) ∧ Below W6.heap.size W6 w')
    (first
      | exact ⟨k_ba00, k_ba01, k_ba02, k_bx00, k_bx01, k_bx02, (Below.refl _ _).drew⟩
      | (go_split_ands
         refine ⟨?_, ?_, ?_, ?_, ?_, ?_, ?_⟩
         · exact (hx.cell (p := ⟨w.heap.size, 0, none⟩) (by show w.heap.size < _; omega)).trans (by assumption)
         · exact (hx.cell (p := ⟨w.heap.size, 1, none⟩) (by show w.heap.size < _; omega)).trans (by assumption)
         · exact (hx.cell (p := ⟨w.heap.size, 2, none⟩) (by show w.heap.size < _; omega)).trans (by assumption)
         · exact (hx.cell (p := ⟨W4.heap.size, 0, none⟩) (by show W4.heap.size < _; omega)).trans (by assumption)
         · exact (hx.cell (p := ⟨W4.heap.size, 1, none⟩) (by show W4.heap.size < _; omega)).trans (by assumption)
         · exact (hx.cell (p := ⟨W4.heap.size, 2, none⟩) (by show W4.heap.size < _; omega)).trans (by assumption)
         · exact Below.trans (by assumption) (hx.mono (by omega))))
    (first
      | (go_at_call 62; go_split_ands; have hBW2 : Below W6.heap.size W6 _ := (by assumption); have pW := hBW2.size; refine (toDesk_c _ _ _ zs0l zs0p zs0d _ ((hI0.later hBW).later hBW2) hm0).mono ?_; rintro e W7 ⟨v6l, v6p, v6d, m61, m62, rfl, ho61, ho62, ho63, hmo61, hmo62, hmo63, hx⟩)
      | (go_at_call 57; go_split_ands; have hBW2 : Below W6.heap.size W6 _ := (by assumption); have pW := hBW2.size; refine (eqDesk_t _ _ _ _ _ _ zs0l zs0p zs0d _ ⟨g_x0l.ints.later hBW2, g_x0p.ints.later hBW2, g_x0d.ints.later hBW2⟩ ⟨ho61.ints, ho62.ints, ho63.ints⟩ hk0l hk0p hk0d).mono ?_; rintro e W8 ⟨rfl, hx⟩))
  go_split_ands
  have hb : Below W6.heap.size W6 W8 := (by assumption)
  clear k_ba00 k_ba01 k_ba02
  clear k_bx00 k_bx01 k_bx02
  have s8 := hb.size
  replace g_x0l := g_x0l.below hb
  replace g_x0p := g_x0p.below hb
  replace g_x0d := g_x0d.below hb
  replace ba0 := ba0.later hb
  replace bx0 := bx0.later hb
  replace hBW := hBW.trans (hb.mono (by omega))
  clear hb hx ho61 ho62 ho63 hmo61 hmo62 hmo63 p1 p2
  have k_ba00 := ba0.c0
  have k_ba01 := ba0.c1
  have k_ba02 := ba0.c2
  have k_bx00 := bx0.c0
  have k_bx01 := bx0.c1
  have k_bx02 := bx0.c2
  go_wp2_with fail
  clear k_ba00 k_ba01 k_ba02
  clear k_bx00 k_bx01 k_bx02
  go_ret
  exact ⟨rfl, hBW⟩

open Go.ChangeShapes Go.WideShapes Go.ChangeAt Go.Joins Go.ChangeMaps

set_option maxRecDepth 100000 in
theorem isDesk_lifted (os : Os) (started : os.Started) (H : Type) (enc : TypeId × Value → H) :
    ReturnsInHanded {} Try.checked os 14 .any (Rows.fnExactIsDeskSpec.pre6 enc Try.prog Try.f14 Rows.fnExactIsDeskRow.domain false) (Rows.fnExactIsDeskSpec.post enc Try.prog Try.f14 false true false false) := by
  refine returnsInHanded_of_change (C := Try.checked) ownT started (by kernel_rfl) Try.func14
    (ChangeSpec.witness6 (enc := enc) (C := Try.checked) false ⟨#[], #[(.agg #[.slice none 0 0, .slice none 0 0, .slice none 0 0])], []⟩ 8 (by kernel_rfl) (by kernel_rfl) (by kernel_rfl) (by kernel_rfl)) ?_
  intro W base args ds gs before hval0 hW hcnd _
  have hval : ∀ (j : Nat) t v, Try.f14.params[j]? = some t → args[j]? = some v → Value.okWide Try.prog W .any base t v := hval0
  have hW' := hW
  obtain ⟨p, q, hA0, hV, rfl, hfz, hnd⟩ := hW
  have hA : DataW.TrodAll enc Try.prog W 0 (fun _ => true) true Try.f14.params.toList args.toList ds p := hA0
  rw [Try.params14] at hA hval
  obtain ⟨v0, vs0, d0, ds0, p0, q0, hargs, rfl, rfl, h0, r0⟩ := trodAll_cons hA
  obtain ⟨rfl, rfl, rfl⟩ := trodAll_nil r0
  obtain rfl : args = #[v0] := by cases args; simp_all
  obtain ⟨c0l, c0p, c0d, y0l, y0p, y0d, n0, rfl, rfl, rfl, t0l, t0p, t0d⟩ := open_agg3 Try.underlying83 rfl rfl rfl (by kernel_rfl) (by kernel_rfl) (by kernel_rfl) (by kernel_rfl) (hval 0 83 v0 rfl rfl) h0
  obtain ⟨m0l, x0l, t0L⟩ := trod_one Try.underlying24 rfl (by kernel_rfl) t0l
  obtain ⟨zs0l, hI0l, hN0l, hl0l⟩ := ints_of_trod Try.underlying22 Try.underlying2 (by kernel_rfl) t0L
  obtain ⟨zs0p, hI0p, hN0p, hl0p⟩ := ints_of_trod Try.underlying22 Try.underlying2 (by kernel_rfl) t0p
  obtain ⟨m0d, x0d, t0D⟩ := trod_one Try.underlying81 rfl (by kernel_rfl) t0d
  obtain ⟨zs0d, hI0d, hN0d, hl0d⟩ := ints_of_trod Try.underlying22 Try.underlying2 (by kernel_rfl) t0D
  refine (lawIsDesk_c c0l c0p c0d zs0l zs0p zs0d W ⟨hI0l, hI0p, hI0d⟩ ⟨hN0l, hN0p, hN0d⟩ hl0l hl0p hl0d).mono fun e W' ⟨he, hb⟩ => ?_
  subst he
  exact ⟨_, rfl, law_post rfl laidT (by kernel_rfl) (by kernel_rfl) Try.underlying4 hW' rfl hb⟩

set_option maxHeartbeats 20000000 in
theorem isDesk_closed : joinedFacts Try.prog 14 Try.f14 Rows.fnExactIsDeskSpec Rows.fnExactIsDeskRow = true := by
  unfold joinedFacts
  exact (and_mk (and_mk (and_mk (and_mk (and_mk (and_mk (and_mk (and_mk (and_mk (and_mk (and_mk (and_mk (and_mk (and_mk (and_mk (and_mk (and_mk (and_mk (and_mk (and_mk (and_mk (and_mk (and_mk (and_mk (and_mk (and_mk (and_mk (and_mk (and_mk (and_mk (and_mk (by as_aux_lemma => kernel_rfl) laidT) (by as_aux_lemma => kernel_rfl)) (by as_aux_lemma => kernel_rfl)) (by as_aux_lemma => kernel_rfl)) (by as_aux_lemma => kernel_rfl)) (by as_aux_lemma => kernel_rfl)) (by as_aux_lemma => kernel_rfl)) (by as_aux_lemma => kernel_rfl)) (by as_aux_lemma => kernel_rfl)) (by as_aux_lemma => kernel_rfl)) (by as_aux_lemma => kernel_rfl)) (by as_aux_lemma => kernel_rfl)) (by as_aux_lemma => kernel_rfl)) (by as_aux_lemma => kernel_rfl)) (by as_aux_lemma => kernel_rfl)) (by as_aux_lemma => kernel_rfl)) (by as_aux_lemma => kernel_rfl)) (by as_aux_lemma => kernel_rfl)) (by as_aux_lemma => kernel_rfl)) (by as_aux_lemma => kernel_rfl)) (by as_aux_lemma => kernel_rfl)) (by as_aux_lemma => kernel_rfl)) (by as_aux_lemma => kernel_rfl)) (by as_aux_lemma => kernel_rfl)) mayEnterT) (by rw [liftsFinalT]; rfl)) (by rw [makeT]; rfl)) (by as_aux_lemma => kernel_rfl)) (by as_aux_lemma => kernel_rfl)) (by as_aux_lemma => kernel_rfl)) (by as_aux_lemma => kernel_rfl))

set_option maxHeartbeats 20000000 in
theorem isDesk_holds : Rows.FnExactIsDeskSaid :=
  OpenClaim.holds_of_wide 14 Try.f14 rfl rfl rfl rfl rfl rfl rfl ⟨rfl, rfl, rfl, rfl, rfl⟩ rfl rfl rfl rfl rfl (by as_aux_lemma => kernel_rfl) Try.func14 isDesk_closed
    (of_decide_eq_true (by as_aux_lemma => kernel_rfl)) (by unfold Func.isWrapper; rw [if_neg (of_decide_eq_false (by as_aux_lemma => kernel_rfl))]; exact ⟨rfl, rfl⟩)
    (fun os started H enc _ => isDesk_lifted os started H enc)

end Go.Proofs.Ytbhpflhopajbfaa
