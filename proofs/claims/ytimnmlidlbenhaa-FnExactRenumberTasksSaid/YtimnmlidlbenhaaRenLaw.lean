/-
  The law on RenumberTasks: at every argument the function answers as its model, writes into no argument, and its answer owns its memory.
  Conditions: none but the row's own.
-/
import Derived.Test.YtimnmlidlbenhaaRen
import Derived.Test.YtimnmlidlbenhaaLaw
namespace Go.Proofs.Ytimnmlidlbenhaa
open Go.RowKit Go.Shelf

set_option maxRecDepth 100000 in
set_option maxHeartbeats 8000000 in
theorem lawRenumberTasks_c (c0 : Value) (zs0 : List Int) (c1 : Value) (zs1 : List Int) (w : World) (hI0 : Ints w.heap.size w c0 zs0) (hN0 : I64s zs0) (hL0 : zs0.length ≤ 9223372036854775807) (hI1 : Ints w.heap.size w c1 zs1) (hN1 : I64s zs1) (hL1 : zs1.length ≤ 9223372036854775807) :
    Calls Try.prog 10 #[.agg #[c0], c1] w fun e w' => e = .returned (.bool true) ∧ Below w.heap.size w w' := by
  obtain ⟨a0, cap0, rfl⟩ := hI0.shape
  obtain ⟨a1, cap1, rfl⟩ := hI1.shape
  have hB0 : Below w.heap.size w (w.alloc (.cells #[.slice a0 zs0.length cap0] 24)) := ((Below.refl _ w).alloc (Nat.le_refl _) _)
  by_cases hs1 : 1048576 < zs1.length
  · skip
    go_enter Try.func10, Try.ntmps10
    go_wp2
    go_ret
    exact ⟨rfl, hB0⟩
  by_cases hs0 : 1048576 < zs0.length
  · skip
    have hm : szI zs0.length 1048576 = -1 := by unfold szI; rw [if_pos (by omega)]
    have Hm := Lib.hid hm
    clear hm
    go_enter Try.func10, Try.ntmps10
    go_wp2_with fail
    refine (szTasks_c _ _ _ _ _ (by omega) (by omega) hL0).mono ?_
    rintro e w1 ⟨he, hb⟩
    rw [Hm.out] at he
    subst he
    go_wp2
    go_ret
    exact ⟨rfl, hB0.trans (hb.mono (by simp; try omega))⟩
  have hk0 : zs0.length * 8 ≤ 140737488351232 := by omega
  have hm0 : zs0.length ≤ 1048576 := by omega
  have hk1 : zs1.length * 8 ≤ 140737488351232 := by omega
  have hm1 : zs1.length ≤ 1048576 := by omega
  have hres0 : (renR zs0 zs1).length * 8 ≤ 140737488351232 := renR_len _ _
  have hm : szI zs0.length 1048576 = 1048576 - zs0.length := by unfold szI; rw [if_neg (by omega)]
  have hn0 : (0 : Int) ≤ 1048576 - zs0.length := by omega
  have Hm := Lib.hid hm
  clear hm
  go_enter Try.func10, Try.ntmps10
  go_wp2_with fail
  obtain ⟨W0, hW0⟩ : ∃ W0, (w.alloc (.cells #[.slice a0 zs0.length cap0] 24)) = W0 := ⟨_, rfl⟩
  have ba0 : Boxed W0 (w.heap.size) 24 (.slice a0 zs0.length cap0) := by rw [← hW0]; simpa using Boxed.new w 24 (.slice a0 zs0.length cap0)
  have hBW : Below w.heap.size w W0 := by rw [← hW0]; exact hB0
  have s0 : w.heap.size + 1 ≤ W0.heap.size := by rw [← hW0]; simp
  clear hB0
  rw [hW0]
  clear hW0
  refine (szTasks_c _ _ _ _ _ (by omega) (by omega) hL0).mono ?_
  rintro e W1 ⟨he, hb⟩
  rw [Hm.out] at he
  subst he
  clear Hm
  have s1 := hb.size
  replace ba0 := boxed_later ba0 hb
  replace hBW := hBW.trans (hb.mono (by omega))
  clear hb
  have k_ba0 := ba0.cell
  go_wp2_with fail
  clear k_ba0
  refine (toTasks_c _ zs0 _ (hI0.later hBW) hm0).mono ?_
  rintro e W2 ⟨v_t1, rfl, ho, hb⟩
  have s2 := hb.size
  replace ba0 := boxed_later ba0 hb
  replace hBW := hBW.trans (hb.mono (by omega))
  have g_t1 := Seg.new ho
  clear ho hb
  have k_ba0 := ba0.cell
  go_wp2_with fail
  clear k_ba0
  refine (toInt64S_c _ zs1 _ (hI1.later hBW) hm1).mono ?_
  rintro e W3 ⟨v_t2, rfl, ho, hb⟩
  have s3 := hb.size
  replace g_t1 := g_t1.below hb
  replace ba0 := boxed_later ba0 hb
  replace hBW := hBW.trans (hb.mono (by omega))
  have g_t2 := Seg.new ho
  clear ho hb
  have k_ba0 := ba0.cell
  go_wp2_with fail
  clear k_ba0
  refine (s_RenumberTasks _ zs0 _ zs1 _ g_t1.ints hN0 hm0 g_t2.ints hN1 hm1).mono ?_
  rintro e W4 ⟨v_w0, rfl, ho, hb⟩
  have s4 := hb.size
  replace g_t1 := g_t1.below hb
  replace g_t2 := g_t2.below hb
  replace ba0 := boxed_later ba0 hb
  replace hBW := hBW.trans (hb.mono (by omega))
  have g_w0 := Seg.new ho
  clear ho hb
  clear g_t1
  clear g_t2
  obtain ⟨a_w0, cap_w0, rfl⟩ := g_w0.ints.shape
  have k_ba0 := (ba0.alloc (.cells #[.slice a_w0 (renR zs0 zs1).length cap_w0] 28)).cell
  go_wp2_with fail
  clear k_ba0
  obtain ⟨W5, hWn⟩ : ∃ W5, W4.alloc (.cells #[.slice a_w0 (renR zs0 zs1).length cap_w0] 28) = W5 := ⟨_, rfl⟩
  have hb : Below W4.heap.size W4 W5 := by rw [← hWn]; exact (Below.refl _ _).alloc (Nat.le_refl _) _
  have bw0 : Boxed W5 W4.heap.size 28 (.slice a_w0 (renR zs0 zs1).length cap_w0) := by rw [← hWn]; exact Boxed.new _ _ _
  have s5 : W4.heap.size + 1 ≤ W5.heap.size := by rw [← hWn]; simp
  rw [hWn]
  clear hWn
  replace g_w0 := g_w0.below hb
  replace ba0 := boxed_later ba0 hb
  replace hBW := hBW.trans (hb.mono (by omega))
  clear hb
  refine (toTasks_c _ zs0 _ (hI0.later hBW) hm0).mono ?_
  rintro e W6 ⟨v_x0, rfl, ho, hb⟩
  have s6 := hb.size
  replace g_w0 := g_w0.below hb
  replace ba0 := boxed_later ba0 hb
  replace bw0 := boxed_later bw0 hb
  replace hBW := hBW.trans (hb.mono (by omega))
  have g_x0 := Seg.new ho
  clear ho hb
  obtain ⟨a_x0, cap_x0, rfl⟩ := g_x0.ints.shape
  have k_ba0 := ba0.cell
  have k_bw0 := bw0.cell
  go_wp2_with fail
  clear k_ba0
  clear k_bw0
  obtain ⟨W7, hWn⟩ : ∃ W7, W6.alloc (.cells #[.slice a_x0 zs0.length cap_x0] 28) = W7 := ⟨_, rfl⟩
  have hb : Below W6.heap.size W6 W7 := by rw [← hWn]; exact (Below.refl _ _).alloc (Nat.le_refl _) _
  have bx0 : Boxed W7 W6.heap.size 28 (.slice a_x0 zs0.length cap_x0) := by rw [← hWn]; exact Boxed.new _ _ _
  have s7 : W6.heap.size + 1 ≤ W7.heap.size := by rw [← hWn]; simp
  rw [hWn]
  clear hWn
  replace g_w0 := g_w0.below hb
  replace g_x0 := g_x0.below hb
  replace ba0 := boxed_later ba0 hb
  replace bw0 := boxed_later bw0 hb
  replace hBW := hBW.trans (hb.mono (by omega))
  clear hb
  refine (toInt64S_c _ zs1 _ (hI1.later hBW) hm1).mono ?_
  rintro e W8 ⟨v_x1, rfl, ho, hb⟩
  have s8 := hb.size
  replace g_w0 := g_w0.below hb
  replace g_x0 := g_x0.below hb
  replace ba0 := boxed_later ba0 hb
  replace bw0 := boxed_later bw0 hb
  replace bx0 := boxed_later bx0 hb
  replace hBW := hBW.trans (hb.mono (by omega))
  have g_x1 := Seg.new ho
  clear ho hb
  have k_ba0 := ba0.cell
  have k_bw0 := bw0.cell
  have k_bx0 := bx0.cell
  go_wp2_with fail
  clear k_ba0
  clear k_bw0
  clear k_bx0
  refine (i_RenumberTasks _ zs0 _ zs1 _ g_x0.ints hN0 hm0 g_x1.ints hN1 hm1).mono ?_
  rintro e W9 ⟨v_g0, rfl, ho, hb⟩
  have s9 := hb.size
  replace g_w0 := g_w0.below hb
  replace g_x0 := g_x0.below hb
  replace g_x1 := g_x1.below hb
  replace ba0 := boxed_later ba0 hb
  replace bw0 := boxed_later bw0 hb
  replace bx0 := boxed_later bx0 hb
  replace hBW := hBW.trans (hb.mono (by omega))
  have g_g0 := Seg.new ho
  clear ho hb
  obtain ⟨a_g0, cap_g0, rfl⟩ := g_g0.ints.shape
  have k_ba0 := (ba0.alloc (.cells #[.slice a_g0 (renR zs0 zs1).length cap_g0] 28)).cell
  have k_bw0 := (bw0.alloc (.cells #[.slice a_g0 (renR zs0 zs1).length cap_g0] 28)).cell
  have k_bx0 := (bx0.alloc (.cells #[.slice a_g0 (renR zs0 zs1).length cap_g0] 28)).cell
  go_wp2_with fail
  clear k_ba0
  clear k_bw0
  clear k_bx0
  obtain ⟨W10, hWn⟩ : ∃ W10, W9.alloc (.cells #[.slice a_g0 (renR zs0 zs1).length cap_g0] 28) = W10 := ⟨_, rfl⟩
  have hb : Below W9.heap.size W9 W10 := by rw [← hWn]; exact (Below.refl _ _).alloc (Nat.le_refl _) _
  have bg0 : Boxed W10 W9.heap.size 28 (.slice a_g0 (renR zs0 zs1).length cap_g0) := by rw [← hWn]; exact Boxed.new _ _ _
  have s10 : W9.heap.size + 1 ≤ W10.heap.size := by rw [← hWn]; simp
  rw [hWn]
  clear hWn
  replace g_w0 := g_w0.below hb
  replace g_x0 := g_x0.below hb
  replace g_x1 := g_x1.below hb
  replace g_g0 := g_g0.below hb
  replace ba0 := boxed_later ba0 hb
  replace bw0 := boxed_later bw0 hb
  replace bx0 := boxed_later bx0 hb
  replace hBW := hBW.trans (hb.mono (by omega))
  clear hb
  refine (eqTasks_d true _ _ _ _ _ g_g0.ints g_w0.ints hres0 (by simp)).mono ?_
  rintro e W11 ⟨rfl, hb⟩
  have s11 := hb.size
  replace g_w0 := g_w0.below hb
  replace g_x0 := g_x0.below hb
  replace g_x1 := g_x1.below hb
  replace g_g0 := g_g0.below hb
  replace ba0 := boxed_later ba0 hb
  replace bw0 := boxed_later bw0 hb
  replace bx0 := boxed_later bx0 hb
  replace bg0 := boxed_later bg0 hb
  replace hBW := hBW.trans (hb.mono (by omega))
  clear hb
  have k_ba0 := ba0.cell
  have k_bw0 := bw0.cell
  have k_bx0 := bx0.cell
  have k_bg0 := bg0.cell
  go_wp2_with fail
  clear k_ba0
  clear k_bw0
  clear k_bx0
  clear k_bg0
  have k_ba0 := ba0.cell
  have k_bw0 := bw0.cell
  have k_bx0 := bx0.cell
  have k_bg0 := bg0.cell
  have p1 : w.heap.size < W11.heap.size := ba0.lt
  have p2 : W6.heap.size < W11.heap.size := bx0.lt
  go_region_held3 (fun w' => w'.cell? ⟨w.heap.size, 0, none⟩ = some (.slice a0 zs0.length cap0) ∧ w'.cell? ⟨W6.heap.size, 0, none⟩ = some (.slice a_x0 zs0.length cap_x0) ∧ Below W11.heap.size W11 w')
    (first
      | exact ⟨k_ba0, k_bx0, (Below.refl _ _).drew⟩
      | (go_split_ands
         refine ⟨?_, ?_, ?_⟩
         · exact (hx.cell (p := ⟨w.heap.size, 0, none⟩) (by show w.heap.size < _; omega)).trans (by assumption)
         · exact (hx.cell (p := ⟨W6.heap.size, 0, none⟩) (by show W6.heap.size < _; omega)).trans (by assumption)
         · exact Below.trans (by assumption) (hx.mono (by omega))))
    (first
      | (go_at_call 17; go_split_ands; have hBW2 : Below W11.heap.size W11 _ := (by assumption); have pW := hBW2.size; refine (toTasks_c _ zs0 _ ((hI0.later hBW).later hBW2) hm0).mono ?_; rintro e W12 ⟨v6, rfl, ho6, hx⟩)
      | (go_at_call 19; go_split_ands; have hBW2 : Below W11.heap.size W11 _ := (by assumption); have pW := hBW2.size; refine (eqTasks_d true _ _ zs0 zs0 _ (g_x0.ints.later hBW2) ho6.ints hk0 (by simp)).mono ?_; rintro e W13 ⟨rfl, hx⟩))
  go_split_ands
  have hb : Below W11.heap.size W11 W13 := (by assumption)
  clear k_ba0
  clear k_bw0
  clear k_bx0
  clear k_bg0
  have s13 := hb.size
  replace g_w0 := g_w0.below hb
  replace g_x0 := g_x0.below hb
  replace g_x1 := g_x1.below hb
  replace g_g0 := g_g0.below hb
  replace ba0 := boxed_later ba0 hb
  replace bw0 := boxed_later bw0 hb
  replace bx0 := boxed_later bx0 hb
  replace bg0 := boxed_later bg0 hb
  replace hBW := hBW.trans (hb.mono (by omega))
  clear hb hx ho6 p1 p2
  have k_ba0 := ba0.cell
  have k_bw0 := bw0.cell
  have k_bx0 := bx0.cell
  have k_bg0 := bg0.cell
  go_wp2_with fail
  clear k_ba0
  clear k_bw0
  clear k_bx0
  clear k_bg0
  refine (toInt64S_c _ zs1 _ (hI1.later hBW) hm1).mono ?_
  rintro e W14 ⟨v_t3, rfl, ho, hb⟩
  have s14 := hb.size
  replace g_w0 := g_w0.below hb
  replace g_x0 := g_x0.below hb
  replace g_x1 := g_x1.below hb
  replace g_g0 := g_g0.below hb
  replace ba0 := boxed_later ba0 hb
  replace bw0 := boxed_later bw0 hb
  replace bx0 := boxed_later bx0 hb
  replace bg0 := boxed_later bg0 hb
  replace hBW := hBW.trans (hb.mono (by omega))
  have g_t3 := Seg.new ho
  clear ho hb
  have k_ba0 := ba0.cell
  have k_bw0 := bw0.cell
  have k_bx0 := bx0.cell
  have k_bg0 := bg0.cell
  go_wp2_with fail
  clear k_ba0
  clear k_bw0
  clear k_bx0
  clear k_bg0
  refine (eqInt64S_d true _ _ _ _ _ g_x1.ints g_t3.ints hk1 (by simp)).mono ?_
  rintro e W15 ⟨rfl, hb⟩
  have s15 := hb.size
  replace g_w0 := g_w0.below hb
  replace g_x0 := g_x0.below hb
  replace g_x1 := g_x1.below hb
  replace g_g0 := g_g0.below hb
  replace g_t3 := g_t3.below hb
  replace ba0 := boxed_later ba0 hb
  replace bw0 := boxed_later bw0 hb
  replace bx0 := boxed_later bx0 hb
  replace bg0 := boxed_later bg0 hb
  replace hBW := hBW.trans (hb.mono (by omega))
  clear hb
  clear g_t3
  have k_ba0 := ba0.cell
  have k_bw0 := bw0.cell
  have k_bx0 := bx0.cell
  have k_bg0 := bg0.cell
  go_wp2_with fail
  clear k_ba0
  clear k_bw0
  clear k_bx0
  clear k_bg0
  refine (markTasks_c _ _ _ (1 : Int) _ g_x0.own hk0 (by omega) (by omega)).mono ?_
  rintro e W16 ⟨rfl, ho, hg⟩
  have s16 := hg.size
  replace hBW := below_marked hBW g_x0 hg (by omega)
  replace g_w0 := g_w0.kept hg (g_x0.apart (by omega))
  replace g_x1 := g_x1.kept hg (g_x0.apart (by omega))
  replace g_g0 := g_g0.kept hg (g_x0.apart (by omega))
  replace ba0 := boxed_marked ba0 g_x0 hg (by omega)
  replace bw0 := boxed_marked bw0 g_x0 hg (by omega)
  replace bx0 := boxed_marked bx0 g_x0 hg (by omega)
  replace bg0 := boxed_marked bg0 g_x0 hg (by omega)
  replace g_x0 := g_x0.marked ho hg
  clear ho hg
  have k_ba0 := ba0.cell
  have k_bw0 := bw0.cell
  have k_bx0 := bx0.cell
  have k_bg0 := bg0.cell
  go_wp2_with fail
  clear k_ba0
  clear k_bw0
  clear k_bx0
  clear k_bg0
  refine (markInt64S_c _ _ _ ((1 : Int) + (zs0.length : Int)) _ g_x1.own hk1 (by omega) (by omega)).mono ?_
  rintro e W17 ⟨rfl, ho, hg⟩
  have s17 := hg.size
  replace hBW := below_marked hBW g_x1 hg (by omega)
  replace g_w0 := g_w0.kept hg (g_x1.apart (by omega))
  replace g_x0 := g_x0.kept hg (g_x1.apart (by omega))
  replace g_g0 := g_g0.kept hg (g_x1.apart (by omega))
  replace ba0 := boxed_marked ba0 g_x1 hg (by omega)
  replace bw0 := boxed_marked bw0 g_x1 hg (by omega)
  replace bx0 := boxed_marked bx0 g_x1 hg (by omega)
  replace bg0 := boxed_marked bg0 g_x1 hg (by omega)
  replace g_x1 := g_x1.marked ho hg
  clear ho hg
  have k_ba0 := ba0.cell
  have k_bw0 := bw0.cell
  have k_bx0 := bx0.cell
  have k_bg0 := bg0.cell
  go_wp2_with fail
  clear k_ba0
  clear k_bw0
  clear k_bx0
  clear k_bg0
  refine (eqTasks_d true _ _ _ _ _ g_g0.ints g_w0.ints hres0 (by simp)).mono ?_
  rintro e W18 ⟨rfl, hb⟩
  have s18 := hb.size
  replace g_w0 := g_w0.below hb
  replace g_x0 := g_x0.below hb
  replace g_x1 := g_x1.below hb
  replace g_g0 := g_g0.below hb
  replace ba0 := boxed_later ba0 hb
  replace bw0 := boxed_later bw0 hb
  replace bx0 := boxed_later bx0 hb
  replace bg0 := boxed_later bg0 hb
  replace hBW := hBW.trans (hb.mono (by omega))
  clear hb
  have k_ba0 := ba0.cell
  have k_bw0 := bw0.cell
  have k_bx0 := bx0.cell
  have k_bg0 := bg0.cell
  go_wp2_with fail
  clear k_ba0
  clear k_bw0
  clear k_bx0
  clear k_bg0
  refine (markTasks_c _ _ _ (1 : Int) _ g_g0.own hres0 (by omega) (by omega)).mono ?_
  rintro e W19 ⟨rfl, ho, hg⟩
  have s19 := hg.size
  replace hBW := below_marked hBW g_g0 hg (by omega)
  replace g_w0 := g_w0.kept hg (g_g0.apart (by omega))
  replace g_x0 := g_x0.kept hg (g_g0.apart (by omega))
  replace g_x1 := g_x1.kept hg (g_g0.apart (by omega))
  replace ba0 := boxed_marked ba0 g_g0 hg (by omega)
  replace bw0 := boxed_marked bw0 g_g0 hg (by omega)
  replace bx0 := boxed_marked bx0 g_g0 hg (by omega)
  replace bg0 := boxed_marked bg0 g_g0 hg (by omega)
  replace g_g0 := g_g0.marked ho hg
  clear ho hg
  have k_ba0 := ba0.cell
  have k_bw0 := bw0.cell
  have k_bx0 := bx0.cell
  have k_bg0 := bg0.cell
  go_wp2_with fail
  clear k_ba0
  clear k_bw0
  clear k_bx0
  clear k_bg0
  refine (heldTasks_c _ _ (1 : Int) _ g_g0.ints hres0 (by omega) (by omega)).mono ?_
  rintro e W20 ⟨rfl, hb⟩
  have s20 := hb.size
  replace g_w0 := g_w0.below hb
  replace g_x0 := g_x0.below hb
  replace g_x1 := g_x1.below hb
  replace g_g0 := g_g0.below hb
  replace ba0 := boxed_later ba0 hb
  replace bw0 := boxed_later bw0 hb
  replace bx0 := boxed_later bx0 hb
  replace bg0 := boxed_later bg0 hb
  replace hBW := hBW.trans (hb.mono (by omega))
  clear hb
  have k_ba0 := ba0.cell
  have k_bw0 := bw0.cell
  have k_bx0 := bx0.cell
  have k_bg0 := bg0.cell
  go_wp2_with fail
  clear k_ba0
  clear k_bw0
  clear k_bx0
  clear k_bg0
  refine (toTasks_c _ zs0 _ (hI0.later hBW) hm0).mono ?_
  rintro e W21 ⟨v_t4, rfl, ho, hb⟩
  have s21 := hb.size
  replace g_w0 := g_w0.below hb
  replace g_x0 := g_x0.below hb
  replace g_x1 := g_x1.below hb
  replace g_g0 := g_g0.below hb
  replace ba0 := boxed_later ba0 hb
  replace bw0 := boxed_later bw0 hb
  replace bx0 := boxed_later bx0 hb
  replace bg0 := boxed_later bg0 hb
  replace hBW := hBW.trans (hb.mono (by omega))
  have g_t4 := Seg.new ho
  clear ho hb
  have k_ba0 := ba0.cell
  have k_bw0 := bw0.cell
  have k_bx0 := bx0.cell
  have k_bg0 := bg0.cell
  go_wp2_with fail
  clear k_ba0
  clear k_bw0
  clear k_bx0
  clear k_bg0
  refine (toInt64S_c _ zs1 _ (hI1.later hBW) hm1).mono ?_
  rintro e W22 ⟨v_t5, rfl, ho, hb⟩
  have s22 := hb.size
  replace g_w0 := g_w0.below hb
  replace g_x0 := g_x0.below hb
  replace g_x1 := g_x1.below hb
  replace g_g0 := g_g0.below hb
  replace g_t4 := g_t4.below hb
  replace ba0 := boxed_later ba0 hb
  replace bw0 := boxed_later bw0 hb
  replace bx0 := boxed_later bx0 hb
  replace bg0 := boxed_later bg0 hb
  replace hBW := hBW.trans (hb.mono (by omega))
  have g_t5 := Seg.new ho
  clear ho hb
  have k_ba0 := ba0.cell
  have k_bw0 := bw0.cell
  have k_bx0 := bx0.cell
  have k_bg0 := bg0.cell
  go_wp2_with fail
  clear k_ba0
  clear k_bw0
  clear k_bx0
  clear k_bg0
  refine (i_RenumberTasks _ zs0 _ zs1 _ g_t4.ints hN0 hm0 g_t5.ints hN1 hm1).mono ?_
  rintro e W23 ⟨v_h0, rfl, ho, hb⟩
  have s23 := hb.size
  replace g_w0 := g_w0.below hb
  replace g_x0 := g_x0.below hb
  replace g_x1 := g_x1.below hb
  replace g_g0 := g_g0.below hb
  replace g_t4 := g_t4.below hb
  replace g_t5 := g_t5.below hb
  replace ba0 := boxed_later ba0 hb
  replace bw0 := boxed_later bw0 hb
  replace bx0 := boxed_later bx0 hb
  replace bg0 := boxed_later bg0 hb
  replace hBW := hBW.trans (hb.mono (by omega))
  have g_h0 := Seg.new ho
  clear ho hb
  clear g_t4
  clear g_t5
  obtain ⟨a_h0, cap_h0, rfl⟩ := g_h0.ints.shape
  have k_ba0 := (ba0.alloc (.cells #[.slice a_h0 (renR zs0 zs1).length cap_h0] 28)).cell
  have k_bw0 := (bw0.alloc (.cells #[.slice a_h0 (renR zs0 zs1).length cap_h0] 28)).cell
  have k_bx0 := (bx0.alloc (.cells #[.slice a_h0 (renR zs0 zs1).length cap_h0] 28)).cell
  have k_bg0 := (bg0.alloc (.cells #[.slice a_h0 (renR zs0 zs1).length cap_h0] 28)).cell
  go_wp2_with fail
  clear k_ba0
  clear k_bw0
  clear k_bx0
  clear k_bg0
  obtain ⟨W24, hWn⟩ : ∃ W24, W23.alloc (.cells #[.slice a_h0 (renR zs0 zs1).length cap_h0] 28) = W24 := ⟨_, rfl⟩
  have hb : Below W23.heap.size W23 W24 := by rw [← hWn]; exact (Below.refl _ _).alloc (Nat.le_refl _) _
  have bh0 : Boxed W24 W23.heap.size 28 (.slice a_h0 (renR zs0 zs1).length cap_h0) := by rw [← hWn]; exact Boxed.new _ _ _
  have s24 : W23.heap.size + 1 ≤ W24.heap.size := by rw [← hWn]; simp
  rw [hWn]
  clear hWn
  replace g_w0 := g_w0.below hb
  replace g_x0 := g_x0.below hb
  replace g_x1 := g_x1.below hb
  replace g_g0 := g_g0.below hb
  replace g_h0 := g_h0.below hb
  replace ba0 := boxed_later ba0 hb
  replace bw0 := boxed_later bw0 hb
  replace bx0 := boxed_later bx0 hb
  replace bg0 := boxed_later bg0 hb
  replace hBW := hBW.trans (hb.mono (by omega))
  clear hb
  refine (eqTasks_d true _ _ _ _ _ g_h0.ints g_w0.ints hres0 (by simp)).mono ?_
  rintro e W25 ⟨rfl, hb⟩
  have s25 := hb.size
  replace g_w0 := g_w0.below hb
  replace g_x0 := g_x0.below hb
  replace g_x1 := g_x1.below hb
  replace g_g0 := g_g0.below hb
  replace g_h0 := g_h0.below hb
  replace ba0 := boxed_later ba0 hb
  replace bw0 := boxed_later bw0 hb
  replace bx0 := boxed_later bx0 hb
  replace bg0 := boxed_later bg0 hb
  replace bh0 := boxed_later bh0 hb
  replace hBW := hBW.trans (hb.mono (by omega))
  clear hb
  have k_ba0 := ba0.cell
  have k_bw0 := bw0.cell
  have k_bx0 := bx0.cell
  have k_bg0 := bg0.cell
  have k_bh0 := bh0.cell
  go_wp2_with fail
  clear k_ba0
  clear k_bw0
  clear k_bx0
  clear k_bg0
  clear k_bh0
  refine (heldTasks_c _ _ (1 : Int) _ g_g0.ints hres0 (by omega) (by omega)).mono ?_
  rintro e W26 ⟨rfl, hb⟩
  have s26 := hb.size
  replace g_w0 := g_w0.below hb
  replace g_x0 := g_x0.below hb
  replace g_x1 := g_x1.below hb
  replace g_g0 := g_g0.below hb
  replace g_h0 := g_h0.below hb
  replace ba0 := boxed_later ba0 hb
  replace bw0 := boxed_later bw0 hb
  replace bx0 := boxed_later bx0 hb
  replace bg0 := boxed_later bg0 hb
  replace bh0 := boxed_later bh0 hb
  replace hBW := hBW.trans (hb.mono (by omega))
  clear hb
  have k_ba0 := ba0.cell
  have k_bw0 := bw0.cell
  have k_bx0 := bx0.cell
  have k_bg0 := bg0.cell
  have k_bh0 := bh0.cell
  go_wp2_with fail
  clear k_ba0
  clear k_bw0
  clear k_bx0
  clear k_bg0
  clear k_bh0
  go_ret
  exact ⟨rfl, hBW⟩

open Go.ChangeShapes Go.WideShapes Go.ChangeAt Go.Joins Go.ChangeMaps

set_option maxRecDepth 100000 in
theorem renumberTasks_lifted (os : Os) (started : os.Started) (H : Type) (enc : TypeId × Value → H) :
    ReturnsInHanded {} Try.checked os 10 .any (Rows.fnExactRenumberTasksSpec.pre6 enc Try.prog Try.f10 Rows.fnExactRenumberTasksRow.domain false) (Rows.fnExactRenumberTasksSpec.post enc Try.prog Try.f10 false true false false) := by
  refine returnsInHanded_of_change (C := Try.checked) ownT started (by kernel_rfl) Try.func10
    (ChangeSpec.witness6 (enc := enc) (C := Try.checked) false ⟨#[], #[(.agg #[.slice none 0 0]), (.slice none 0 0)], []⟩ 8 (by kernel_rfl) (by kernel_rfl) (by kernel_rfl) (by kernel_rfl)) ?_
  intro W base args ds gs before hval0 hW hcnd _
  have hval : ∀ (j : Nat) t v, Try.f10.params[j]? = some t → args[j]? = some v → Value.okWide Try.prog W .any base t v := hval0
  have hW' := hW
  obtain ⟨p, q, hA0, hV, rfl, hfz, hnd⟩ := hW
  have hA : DataW.TrodAll enc Try.prog W 0 (fun _ => true) true Try.f10.params.toList args.toList ds p := hA0
  rw [Try.params10] at hA hval
  obtain ⟨v0, vs0, d0, ds0, p0, q0, hargs, rfl, rfl, h0, r0⟩ := trodAll_cons hA
  obtain ⟨v1, vs1, d1, ds1, p1, q1, rfl, rfl, rfl, h1, r1⟩ := trodAll_cons r0
  obtain ⟨rfl, rfl, rfl⟩ := trodAll_nil r1
  obtain rfl : args = #[v0, v1] := by cases args; simp_all
  obtain ⟨c0, y0, n0, rfl, rfl, rfl, t0⟩ := open_agg1 Try.underlying24 rfl (by kernel_rfl) (by kernel_rfl) (hval 0 24 v0 rfl rfl) h0
  obtain ⟨zs0, hI0, hN0, hl0⟩ := ints_of_trod Try.underlying22 Try.underlying2 (by kernel_rfl) t0
  obtain ⟨zs1, hI1, hN1, hl1⟩ := ints_of_Trod Try.underlying22 Try.underlying2 (by kernel_rfl) (hval 1 22 v1 rfl rfl) h1
  refine (lawRenumberTasks_c c0 zs0 v1 zs1 W hI0 hN0 hl0 hI1 hN1 hl1).mono fun e W' ⟨he, hb⟩ => ?_
  subst he
  exact ⟨_, rfl, law_post rfl laidT (by kernel_rfl) (by kernel_rfl) Try.underlying4 hW' rfl hb⟩

set_option maxHeartbeats 20000000 in
theorem renumberTasks_closed : joinedFacts Try.prog 10 Try.f10 Rows.fnExactRenumberTasksSpec Rows.fnExactRenumberTasksRow = true := by
  unfold joinedFacts
  exact (and_mk (and_mk (and_mk (and_mk (and_mk (and_mk (and_mk (and_mk (and_mk (and_mk (and_mk (and_mk (and_mk (and_mk (and_mk (and_mk (and_mk (and_mk (and_mk (and_mk (and_mk (and_mk (and_mk (and_mk (and_mk (and_mk (and_mk (and_mk (and_mk (and_mk (and_mk (by as_aux_lemma => kernel_rfl) laidT) (by as_aux_lemma => kernel_rfl)) (by as_aux_lemma => kernel_rfl)) (by as_aux_lemma => kernel_rfl)) (by as_aux_lemma => kernel_rfl)) (by as_aux_lemma => kernel_rfl)) (by as_aux_lemma => kernel_rfl)) (by as_aux_lemma => kernel_rfl)) (by as_aux_lemma => kernel_rfl)) (by as_aux_lemma => kernel_rfl)) (by as_aux_lemma => kernel_rfl)) (by as_aux_lemma => kernel_rfl)) (by as_aux_lemma => kernel_rfl)) (by as_aux_lemma => kernel_rfl)) (by as_aux_lemma => kernel_rfl)) (by as_aux_lemma => kernel_rfl)) (by as_aux_lemma => kernel_rfl)) (by as_aux_lemma => kernel_rfl)) (by as_aux_lemma => kernel_rfl)) (by as_aux_lemma => kernel_rfl)) (by as_aux_lemma => kernel_rfl)) (by as_aux_lemma => kernel_rfl)) (by as_aux_lemma => kernel_rfl)) (by as_aux_lemma => kernel_rfl)) mayEnterT) (by rw [liftsFinalT]; rfl)) (by rw [makeT]; rfl)) (by as_aux_lemma => kernel_rfl)) (by as_aux_lemma => kernel_rfl)) (by as_aux_lemma => kernel_rfl)) (by as_aux_lemma => kernel_rfl))

set_option maxHeartbeats 20000000 in
theorem renumberTasks_holds : Rows.FnExactRenumberTasksSaid :=
  OpenClaim.holds_of_wide 10 Try.f10 rfl rfl rfl rfl rfl rfl rfl ⟨rfl, rfl, rfl, rfl, rfl⟩ rfl rfl rfl rfl rfl (by as_aux_lemma => kernel_rfl) Try.func10 renumberTasks_closed
    (of_decide_eq_true (by as_aux_lemma => kernel_rfl)) (by unfold Func.isWrapper; rw [if_neg (of_decide_eq_false (by as_aux_lemma => kernel_rfl))]; exact ⟨rfl, rfl⟩)
    (fun os started H enc _ => renumberTasks_lifted os started H enc)

end Go.Proofs.Ytimnmlidlbenhaa
