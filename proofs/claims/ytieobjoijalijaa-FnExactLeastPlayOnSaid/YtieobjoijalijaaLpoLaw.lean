/-
  The law on LeastPlayOn: at every argument the function answers as its model, writes into no argument, and its answer owns its memory.
  Conditions: none but the row's own.
-/
import Derived.Test.YtieobjoijalijaaLpo
import Derived.Test.YtieobjoijalijaaLps
import Derived.Test.YtieobjoijalijaaLaw
namespace Go.Proofs.Ytieobjoijalijaa
open Go.RowKit Go.Shelf

set_option maxRecDepth 100000 in
set_option maxHeartbeats 8000000 in
theorem lawLeastPlayOn_c (c0 : Value) (zs0 : List Int) (x1 : Int) (w : World) (hI0 : Ints w.heap.size w c0 zs0) (hN0 : I64s zs0) (hL0 : zs0.length ≤ 9223372036854775807) (hx1 : I64 x1) :
    Calls Try.prog 5 #[.agg #[c0], .int .i64 x1] w fun e w' => e = .returned (.bool true) ∧ Below w.heap.size w w' := by
  obtain ⟨a0, cap0, rfl⟩ := hI0.shape
  have hB0 : Below w.heap.size w (w.alloc (.cells #[.slice a0 zs0.length cap0] 24)) := ((Below.refl _ w).alloc (Nat.le_refl _) _)
  by_cases hs0 : 1048576 < zs0.length
  · skip
    have hm : szI zs0.length 1048576 = -1 := by unfold szI; rw [if_pos (by omega)]
    have Hm := Lib.hid hm
    clear hm
    go_enter Try.func5, Try.ntmps5
    go_wp2_with fail
    refine (szTasks_c _ _ _ _ _ (by omega) (by omega) hL0).mono ?_
    rintro e w1 ⟨he, hb⟩
    rw [Hm.out] at he
    subst he
    go_wp2
    go_ret
    exact ⟨rfl, hB0.trans (hb.mono (by simp; try omega))⟩
  have hk0 : zs0.length * 8 ≤ 140737488351232 := by omega
  have hm0 : zs0.length ≤ 1048576 := by omega
  have hres0 : (lpH zs0 x1).length * 8 ≤ 140737488351232 := lpH_len _ _
  have hres1 : (lpR zs0 x1).length * 8 ≤ 140737488351232 := lpR_len _ _
  obtain ⟨hr0, hr1⟩ := lp_len zs0 x1
  have hm : szI zs0.length 1048576 = 1048576 - zs0.length := by unfold szI; rw [if_neg (by omega)]
  have hn0 : (0 : Int) ≤ 1048576 - zs0.length := by omega
  have Hm := Lib.hid hm
  clear hm
  go_enter Try.func5, Try.ntmps5
  go_wp2_with fail
  obtain ⟨W0, hW0⟩ : ∃ W0, (w.alloc (.cells #[.slice a0 zs0.length cap0] 24)) = W0 := ⟨_, rfl⟩
  have ba0 : Boxed W0 (w.heap.size) 24 (.slice a0 zs0.length cap0) := by rw [← hW0]; simpa using Boxed.new w 24 (.slice a0 zs0.length cap0)
  have hBW : Below w.heap.size w W0 := by rw [← hW0]; exact hB0
  have s0 : w.heap.size + 1 ≤ W0.heap.size := by rw [← hW0]; simp
  clear hB0
  rw [hW0]
  clear hW0
  refine (szTasks_c _ _ _ _ _ (by omega) (by omega) hL0).mono ?_
  rintro e W1 ⟨he, hb⟩
  rw [Hm.out] at he
  subst he
  clear Hm
  have s1 := hb.size
  replace ba0 := boxed_later ba0 hb
  replace hBW := hBW.trans (hb.mono (by omega))
  clear hb
  have k_ba0 := ba0.cell
  go_wp2_with fail
  clear k_ba0
  refine (toTasks_c _ zs0 _ (hI0.later hBW) hm0).mono ?_
  rintro e W2 ⟨v_t1, rfl, ho, hb⟩
  have s2 := hb.size
  replace ba0 := boxed_later ba0 hb
  replace hBW := hBW.trans (hb.mono (by omega))
  have g_t1 := Seg.new ho
  clear ho hb
  have k_ba0 := ba0.cell
  go_wp2_with fail
  clear k_ba0
  refine (s_LeastPlayOn _ zs0 x1 _ g_t1.ints hN0 hm0 hx1).mono ?_
  rintro e W3 ⟨v_w1, v_w0, mid3, rfl, hu, hv, hmid3, hb⟩
  have s3 := hb.size
  have t3 := hv.le
  replace g_t1 := g_t1.below hb
  replace ba0 := boxed_later ba0 hb
  replace hBW := hBW.trans (hb.mono (by omega))
  have g_w1 := hu
  have g_w0 := hv
  clear hu hv hb
  clear g_t1
  have k_ba0 := ba0.cell
  go_wp2_with fail
  clear k_ba0
  refine (toTasks_c _ zs0 _ (hI0.later hBW) hm0).mono ?_
  rintro e W4 ⟨v_x0, rfl, ho, hb⟩
  have s4 := hb.size
  replace g_w1 := g_w1.below hb
  replace g_w0 := g_w0.below hb
  replace ba0 := boxed_later ba0 hb
  replace hBW := hBW.trans (hb.mono (by omega))
  have g_x0 := Seg.new ho
  clear ho hb
  obtain ⟨a_x0, cap_x0, rfl⟩ := g_x0.ints.shape
  have k_ba0 := ba0.cell
  go_wp2_with fail
  clear k_ba0
  obtain ⟨W5, hWn⟩ : ∃ W5, W4.alloc (.cells #[.slice a_x0 zs0.length cap_x0] 28) = W5 := ⟨_, rfl⟩
  have hb : Below W4.heap.size W4 W5 := by rw [← hWn]; exact (Below.refl _ _).alloc (Nat.le_refl _) _
  have bx0 : Boxed W5 W4.heap.size 28 (.slice a_x0 zs0.length cap_x0) := by rw [← hWn]; exact Boxed.new _ _ _
  have s5 : W4.heap.size + 1 ≤ W5.heap.size := by rw [← hWn]; simp
  rw [hWn]
  clear hWn
  replace g_w1 := g_w1.below hb
  replace g_w0 := g_w0.below hb
  replace g_x0 := g_x0.below hb
  replace ba0 := boxed_later ba0 hb
  replace hBW := hBW.trans (hb.mono (by omega))
  clear hb
  refine (i_LeastPlayOn _ zs0 x1 _ g_x0.ints hN0 hm0 hx1).mono ?_
  rintro e W6 ⟨v_g1, v_g0, mid6, rfl, hu, hv, hmid6, hb⟩
  have s6 := hb.size
  have t6 := hv.le
  replace g_w1 := g_w1.below hb
  replace g_w0 := g_w0.below hb
  replace g_x0 := g_x0.below hb
  replace ba0 := boxed_later ba0 hb
  replace bx0 := boxed_later bx0 hb
  replace hBW := hBW.trans (hb.mono (by omega))
  have g_g1 := hu
  have g_g0 := hv
  clear hu hv hb
  have k_ba0 := ba0.cell
  have k_bx0 := bx0.cell
  go_wp2_with fail
  clear k_ba0
  clear k_bx0
  refine (eqInt64S_d true _ _ _ _ _ g_g0.ints g_w0.ints hres0 (by simp)).mono ?_
  rintro e W7 ⟨rfl, hb⟩
  have s7 := hb.size
  replace g_w1 := g_w1.below hb
  replace g_w0 := g_w0.below hb
  replace g_x0 := g_x0.below hb
  replace g_g1 := g_g1.below hb
  replace g_g0 := g_g0.below hb
  replace ba0 := boxed_later ba0 hb
  replace bx0 := boxed_later bx0 hb
  replace hBW := hBW.trans (hb.mono (by omega))
  clear hb
  have k_ba0 := ba0.cell
  have k_bx0 := bx0.cell
  go_wp2_with fail
  clear k_ba0
  clear k_bx0
  refine (eqInt64S_d true _ _ _ _ _ g_g1.ints g_w1.ints hres1 (by simp)).mono ?_
  rintro e W8 ⟨rfl, hb⟩
  have s8 := hb.size
  replace g_w1 := g_w1.below hb
  replace g_w0 := g_w0.below hb
  replace g_x0 := g_x0.below hb
  replace g_g1 := g_g1.below hb
  replace g_g0 := g_g0.below hb
  replace ba0 := boxed_later ba0 hb
  replace bx0 := boxed_later bx0 hb
  replace hBW := hBW.trans (hb.mono (by omega))
  clear hb
  have k_ba0 := ba0.cell
  have k_bx0 := bx0.cell
  go_wp2_with fail
  clear k_ba0
  clear k_bx0
  have k_ba0 := ba0.cell
  have k_bx0 := bx0.cell
  have p1 : w.heap.size < W8.heap.size := ba0.lt
  have p2 : W4.heap.size < W8.heap.size := bx0.lt
  go_region_held3 (fun w' => w'.cell? ⟨w.heap.size, 0, none⟩ = some (.slice a0 zs0.length cap0) ∧ w'.cell? ⟨W4.heap.size, 0, none⟩ = some (.slice a_x0 zs0.length cap_x0) ∧ Below W8.heap.size W8 w')
    (first
      | exact ⟨k_ba0, k_bx0, (Below.refl _ _).drew⟩
      | (go_split_ands
         refine ⟨?_, ?_, ?_⟩
         · exact (hx.cell (p := ⟨w.heap.size, 0, none⟩) (by show w.heap.size < _; omega)).trans (by assumption)
         · exact (hx.cell (p := ⟨W4.heap.size, 0, none⟩) (by show W4.heap.size < _; omega)).trans (by assumption)
         · exact Below.trans (by assumption) (hx.mono (by omega))))
    (first
      | (go_at_call 20; go_split_ands; have hBW2 : Below W8.heap.size W8 _ := (by assumption); have pW := hBW2.size; refine (toTasks_c _ zs0 _ ((hI0.later hBW).later hBW2) hm0).mono ?_; rintro e W9 ⟨v6, rfl, ho6, hx⟩)
      | (go_at_call 22; go_split_ands; have hBW2 : Below W8.heap.size W8 _ := (by assumption); have pW := hBW2.size; refine (eqTasks_d true _ _ zs0 zs0 _ (g_x0.ints.later hBW2) ho6.ints hk0 (by simp)).mono ?_; rintro e W10 ⟨rfl, hx⟩))
  go_split_ands
  have hb : Below W8.heap.size W8 W10 := (by assumption)
  clear k_ba0
  clear k_bx0
  have s10 := hb.size
  replace g_w1 := g_w1.below hb
  replace g_w0 := g_w0.below hb
  replace g_x0 := g_x0.below hb
  replace g_g1 := g_g1.below hb
  replace g_g0 := g_g0.below hb
  replace ba0 := boxed_later ba0 hb
  replace bx0 := boxed_later bx0 hb
  replace hBW := hBW.trans (hb.mono (by omega))
  clear hb hx ho6 p1 p2
  have k_ba0 := ba0.cell
  have k_bx0 := bx0.cell
  go_wp2_with fail
  clear k_ba0
  clear k_bx0
  refine (markTasks_c _ _ _ (1 : Int) _ g_x0.own hk0 (by omega) (by omega)).mono ?_
  rintro e W11 ⟨rfl, ho, hg⟩
  have s11 := hg.size
  replace hBW := below_marked hBW g_x0 hg (by omega)
  replace g_w1 := g_w1.kept hg (g_x0.apart (by omega))
  replace g_w0 := g_w0.kept hg (g_x0.apart (by omega))
  replace g_g1 := g_g1.kept hg (g_x0.apart (by omega))
  replace g_g0 := g_g0.kept hg (g_x0.apart (by omega))
  replace ba0 := boxed_marked ba0 g_x0 hg (by omega)
  replace bx0 := boxed_marked bx0 g_x0 hg (by omega)
  replace g_x0 := g_x0.marked ho hg
  clear ho hg
  have k_ba0 := ba0.cell
  have k_bx0 := bx0.cell
  go_wp2_with fail
  clear k_ba0
  clear k_bx0
  refine (eqInt64S_d true _ _ _ _ _ g_g0.ints g_w0.ints hres0 (by simp)).mono ?_
  rintro e W12 ⟨rfl, hb⟩
  have s12 := hb.size
  replace g_w1 := g_w1.below hb
  replace g_w0 := g_w0.below hb
  replace g_x0 := g_x0.below hb
  replace g_g1 := g_g1.below hb
  replace g_g0 := g_g0.below hb
  replace ba0 := boxed_later ba0 hb
  replace bx0 := boxed_later bx0 hb
  replace hBW := hBW.trans (hb.mono (by omega))
  clear hb
  have k_ba0 := ba0.cell
  have k_bx0 := bx0.cell
  go_wp2_with fail
  clear k_ba0
  clear k_bx0
  refine (eqInt64S_d true _ _ _ _ _ g_g1.ints g_w1.ints hres1 (by simp)).mono ?_
  rintro e W13 ⟨rfl, hb⟩
  have s13 := hb.size
  replace g_w1 := g_w1.below hb
  replace g_w0 := g_w0.below hb
  replace g_x0 := g_x0.below hb
  replace g_g1 := g_g1.below hb
  replace g_g0 := g_g0.below hb
  replace ba0 := boxed_later ba0 hb
  replace bx0 := boxed_later bx0 hb
  replace hBW := hBW.trans (hb.mono (by omega))
  clear hb
  have k_ba0 := ba0.cell
  have k_bx0 := bx0.cell
  go_wp2_with fail
  clear k_ba0
  clear k_bx0
  refine (markInt64S_c _ _ _ (1 : Int) _ g_g0.own hres0 (by omega) (by omega)).mono ?_
  rintro e W14 ⟨rfl, ho, hg⟩
  have s14 := hg.size
  replace hBW := below_marked hBW g_g0 hg (by omega)
  replace g_w1 := g_w1.kept hg (g_g0.apart (by omega))
  replace g_w0 := g_w0.kept hg (g_g0.apart (by omega))
  replace g_x0 := g_x0.kept hg (g_g0.apart (by omega))
  replace g_g1 := g_g1.kept hg (g_g0.apart (by omega))
  replace ba0 := boxed_marked ba0 g_g0 hg (by omega)
  replace bx0 := boxed_marked bx0 g_g0 hg (by omega)
  replace g_g0 := g_g0.marked ho hg
  clear ho hg
  have k_ba0 := ba0.cell
  have k_bx0 := bx0.cell
  go_wp2_with fail
  clear k_ba0
  clear k_bx0
  refine (markInt64S_c _ _ _ ((1 : Int) + ((lpH zs0 x1).length : Int)) _ g_g1.own hres1 (by omega) (by omega)).mono ?_
  rintro e W15 ⟨rfl, ho, hg⟩
  have s15 := hg.size
  replace hBW := below_marked hBW g_g1 hg (by omega)
  replace g_w1 := g_w1.kept hg (g_g1.apart (by omega))
  replace g_w0 := g_w0.kept hg (g_g1.apart (by omega))
  replace g_x0 := g_x0.kept hg (g_g1.apart (by omega))
  replace g_g0 := g_g0.kept hg (g_g1.apart (by omega))
  replace ba0 := boxed_marked ba0 g_g1 hg (by omega)
  replace bx0 := boxed_marked bx0 g_g1 hg (by omega)
  replace g_g1 := g_g1.marked ho hg
  clear ho hg
  have k_ba0 := ba0.cell
  have k_bx0 := bx0.cell
  go_wp2_with fail
  clear k_ba0
  clear k_bx0
  refine (heldInt64S_c _ _ (1 : Int) _ g_g0.ints hres0 (by omega) (by omega)).mono ?_
  rintro e _ ⟨rfl, rfl⟩
  have k_ba0 := ba0.cell
  have k_bx0 := bx0.cell
  go_wp2_with fail
  clear k_ba0
  clear k_bx0
  refine (heldInt64S_c _ _ ((1 : Int) + ((lpH zs0 x1).length : Int)) _ g_g1.ints hres1 (by omega) (by omega)).mono ?_
  rintro e _ ⟨rfl, rfl⟩
  have k_ba0 := ba0.cell
  have k_bx0 := bx0.cell
  go_wp2_with fail
  clear k_ba0
  clear k_bx0
  refine (toTasks_c _ zs0 _ (hI0.later hBW) hm0).mono ?_
  rintro e W16 ⟨v_t2, rfl, ho, hb⟩
  have s16 := hb.size
  replace g_w1 := g_w1.below hb
  replace g_w0 := g_w0.below hb
  replace g_x0 := g_x0.below hb
  replace g_g1 := g_g1.below hb
  replace g_g0 := g_g0.below hb
  replace ba0 := boxed_later ba0 hb
  replace bx0 := boxed_later bx0 hb
  replace hBW := hBW.trans (hb.mono (by omega))
  have g_t2 := Seg.new ho
  clear ho hb
  have k_ba0 := ba0.cell
  have k_bx0 := bx0.cell
  go_wp2_with fail
  clear k_ba0
  clear k_bx0
  refine (i_LeastPlayOn _ zs0 x1 _ g_t2.ints hN0 hm0 hx1).mono ?_
  rintro e W17 ⟨v_h1, v_h0, mid17, rfl, hu, hv, hmid17, hb⟩
  have s17 := hb.size
  have t17 := hv.le
  replace g_w1 := g_w1.below hb
  replace g_w0 := g_w0.below hb
  replace g_x0 := g_x0.below hb
  replace g_g1 := g_g1.below hb
  replace g_g0 := g_g0.below hb
  replace g_t2 := g_t2.below hb
  replace ba0 := boxed_later ba0 hb
  replace bx0 := boxed_later bx0 hb
  replace hBW := hBW.trans (hb.mono (by omega))
  have g_h1 := hu
  have g_h0 := hv
  clear hu hv hb
  clear g_t2
  have k_ba0 := ba0.cell
  have k_bx0 := bx0.cell
  go_wp2_with fail
  clear k_ba0
  clear k_bx0
  refine (eqInt64S_d true _ _ _ _ _ g_h0.ints g_w0.ints hres0 (by simp)).mono ?_
  rintro e W18 ⟨rfl, hb⟩
  have s18 := hb.size
  replace g_w1 := g_w1.below hb
  replace g_w0 := g_w0.below hb
  replace g_x0 := g_x0.below hb
  replace g_g1 := g_g1.below hb
  replace g_g0 := g_g0.below hb
  replace g_h1 := g_h1.below hb
  replace g_h0 := g_h0.below hb
  replace ba0 := boxed_later ba0 hb
  replace bx0 := boxed_later bx0 hb
  replace hBW := hBW.trans (hb.mono (by omega))
  clear hb
  have k_ba0 := ba0.cell
  have k_bx0 := bx0.cell
  go_wp2_with fail
  clear k_ba0
  clear k_bx0
  refine (eqInt64S_d true _ _ _ _ _ g_h1.ints g_w1.ints hres1 (by simp)).mono ?_
  rintro e W19 ⟨rfl, hb⟩
  have s19 := hb.size
  replace g_w1 := g_w1.below hb
  replace g_w0 := g_w0.below hb
  replace g_x0 := g_x0.below hb
  replace g_g1 := g_g1.below hb
  replace g_g0 := g_g0.below hb
  replace g_h1 := g_h1.below hb
  replace g_h0 := g_h0.below hb
  replace ba0 := boxed_later ba0 hb
  replace bx0 := boxed_later bx0 hb
  replace hBW := hBW.trans (hb.mono (by omega))
  clear hb
  have k_ba0 := ba0.cell
  have k_bx0 := bx0.cell
  go_wp2_with fail
  clear k_ba0
  clear k_bx0
  refine (heldInt64S_c _ _ (1 : Int) _ g_g0.ints hres0 (by omega) (by omega)).mono ?_
  rintro e _ ⟨rfl, rfl⟩
  have k_ba0 := ba0.cell
  have k_bx0 := bx0.cell
  go_wp2_with fail
  clear k_ba0
  clear k_bx0
  refine (heldInt64S_c _ _ ((1 : Int) + ((lpH zs0 x1).length : Int)) _ g_g1.ints hres1 (by omega) (by omega)).mono ?_
  rintro e _ ⟨rfl, rfl⟩
  have k_ba0 := ba0.cell
  have k_bx0 := bx0.cell
  go_wp2_with fail
  clear k_ba0
  clear k_bx0
  go_ret
  exact ⟨rfl, hBW⟩

open Go.ChangeShapes Go.WideShapes Go.ChangeAt Go.Joins Go.ChangeMaps

set_option maxRecDepth 100000 in
theorem leastPlayOn_lifted (os : Os) (started : os.Started) (H : Type) (enc : TypeId × Value → H) :
    ReturnsInHanded {} Try.checked os 5 .any (Rows.fnExactLeastPlayOnSpec.pre6 enc Try.prog Try.f5 Rows.fnExactLeastPlayOnRow.domain false) (Rows.fnExactLeastPlayOnSpec.post enc Try.prog Try.f5 false true false false) := by
  refine returnsInHanded_of_change (C := Try.checked) ownT started (by kernel_rfl) Try.func5
    (ChangeSpec.witness6 (enc := enc) (C := Try.checked) false ⟨#[], #[(.agg #[.slice none 0 0]), (.int .i64 0)], []⟩ 8 (by kernel_rfl) (by kernel_rfl) (by kernel_rfl) (by kernel_rfl)) ?_
  intro W base args ds gs before hval0 hW hcnd _
  have hval : ∀ (j : Nat) t v, Try.f5.params[j]? = some t → args[j]? = some v → Value.okWide Try.prog W .any base t v := hval0
  have hW' := hW
  obtain ⟨p, q, hA0, hV, rfl, hfz, hnd⟩ := hW
  have hA : DataW.TrodAll enc Try.prog W 0 (fun _ => true) true Try.f5.params.toList args.toList ds p := hA0
  rw [Try.params5] at hA hval
  obtain ⟨v0, vs0, d0, ds0, p0, q0, hargs, rfl, rfl, h0, r0⟩ := trodAll_cons hA
  obtain ⟨v1, vs1, d1, ds1, p1, q1, rfl, rfl, rfl, h1, r1⟩ := trodAll_cons r0
  obtain ⟨rfl, rfl, rfl⟩ := trodAll_nil r1
  obtain rfl : args = #[v0, v1] := by cases args; simp_all
  obtain ⟨c0, y0, n0, rfl, rfl, rfl, t0⟩ := open_agg1 Try.underlying24 rfl (by kernel_rfl) (by kernel_rfl) (hval 0 24 v0 rfl rfl) h0
  obtain ⟨zs0, hI0, hN0, hl0⟩ := ints_of_trod Try.underlying22 Try.underlying2 (by kernel_rfl) t0
  obtain ⟨x1, rfl, rfl, rfl, wx1⟩ := open_int Try.underlying2 (hval 1 2 v1 rfl rfl) h1
  refine (lawLeastPlayOn_c c0 zs0 x1 W hI0 hN0 hl0 (i64_of_wf wx1)).mono fun e W' ⟨he, hb⟩ => ?_
  subst he
  exact ⟨_, rfl, law_post rfl laidT (by kernel_rfl) (by kernel_rfl) Try.underlying4 hW' rfl hb⟩

set_option maxHeartbeats 20000000 in
theorem leastPlayOn_closed : joinedFacts Try.prog 5 Try.f5 Rows.fnExactLeastPlayOnSpec Rows.fnExactLeastPlayOnRow = true := by
  unfold joinedFacts
  exact (and_mk (and_mk (and_mk (and_mk (and_mk (and_mk (and_mk (and_mk (and_mk (and_mk (and_mk (and_mk (and_mk (and_mk (and_mk (and_mk (and_mk (and_mk (and_mk (and_mk (and_mk (and_mk (and_mk (and_mk (and_mk (and_mk (and_mk (and_mk (and_mk (and_mk (and_mk (by as_aux_lemma => kernel_rfl) laidT) (by as_aux_lemma => kernel_rfl)) (by as_aux_lemma => kernel_rfl)) (by as_aux_lemma => kernel_rfl)) (by as_aux_lemma => kernel_rfl)) (by as_aux_lemma => kernel_rfl)) (by as_aux_lemma => kernel_rfl)) (by as_aux_lemma => kernel_rfl)) (by as_aux_lemma => kernel_rfl)) (by as_aux_lemma => kernel_rfl)) (by as_aux_lemma => kernel_rfl)) (by as_aux_lemma => kernel_rfl)) (by as_aux_lemma => kernel_rfl)) (by as_aux_lemma => kernel_rfl)) (by as_aux_lemma => kernel_rfl)) (by as_aux_lemma => kernel_rfl)) (by as_aux_lemma => kernel_rfl)) (by as_aux_lemma => kernel_rfl)) (by as_aux_lemma => kernel_rfl)) (by as_aux_lemma => kernel_rfl)) (by as_aux_lemma => kernel_rfl)) (by as_aux_lemma => kernel_rfl)) (by as_aux_lemma => kernel_rfl)) (by as_aux_lemma => kernel_rfl)) mayEnterT) (by rw [liftsFinalT]; rfl)) (by rw [makeT]; rfl)) (by as_aux_lemma => kernel_rfl)) (by as_aux_lemma => kernel_rfl)) (by as_aux_lemma => kernel_rfl)) (by as_aux_lemma => kernel_rfl))

set_option maxHeartbeats 20000000 in
theorem leastPlayOn_holds : Rows.FnExactLeastPlayOnSaid :=
  OpenClaim.holds_of_wide 5 Try.f5 rfl rfl rfl rfl rfl rfl rfl ⟨rfl, rfl, rfl, rfl, rfl⟩ rfl rfl rfl rfl rfl (by as_aux_lemma => kernel_rfl) Try.func5 leastPlayOn_closed
    (of_decide_eq_true (by as_aux_lemma => kernel_rfl)) (by unfold Func.isWrapper; rw [if_neg (of_decide_eq_false (by as_aux_lemma => kernel_rfl))]; exact ⟨rfl, rfl⟩)
    (fun os started H enc _ => leastPlayOn_lifted os started H enc)

end Go.Proofs.Ytieobjoijalijaa
