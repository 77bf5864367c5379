/-
  The law on GapsOfTurns: at every argument the function answers as its model, writes into no argument, and its answer owns its memory.
  Conditions: none but the row's own.
-/
import Derived.Test.YtbhpflhopajbfaaGot
import Derived.Test.YtbhpflhopajbfaaLaw
namespace Go.Proofs.Ytbhpflhopajbfaa
open Go.RowKit Go.Shelf

set_option maxRecDepth 100000 in
set_option maxHeartbeats 8000000 in
theorem lawGapsOfTurns_c (c0l c0p c0d : Value) (zs0l zs0p zs0d : List Int) (w : World) (hI0 : Jobs3 w.heap.size w c0l c0p c0d zs0l zs0p zs0d) (hN0 : J64 zs0l zs0p zs0d) (hL0l : zs0l.length ≤ 9223372036854775807) (hL0p : zs0p.length ≤ 9223372036854775807) (hL0d : zs0d.length ≤ 9223372036854775807) :
    Calls Try.prog 8 #[.agg #[c0l, c0p, c0d]] w fun e w' => e = .returned (.bool true) ∧ Below w.heap.size w w' := by
  obtain ⟨a0l, cap0l, rfl⟩ := hI0.l.shape
  obtain ⟨a0p, cap0p, rfl⟩ := hI0.p.shape
  obtain ⟨a0d, cap0d, rfl⟩ := hI0.d.shape
  have hB0 : Below w.heap.size w (w.alloc (.cells #[.slice a0l zs0l.length cap0l, .slice a0p zs0p.length cap0p, .slice a0d zs0d.length cap0d] 33)) := ((Below.refl _ w).alloc (Nat.le_refl _) _)
  by_cases hs0 : 1048576 < zs0l.length + zs0p.length + zs0d.length
  · skip
    have hm : szJ zs0l.length zs0p.length zs0d.length 1048576 = -1 := by unfold szJ; rw [if_pos (by omega)]
    have Hm := Lib.hid hm
    clear hm
    go_enter Try.func8, Try.ntmps8
    go_wp2_with fail
    refine (szJobs_c _ _ _ _ _ _ _ _ _ _ _ (by omega) (by omega) hL0l hL0p hL0d).mono ?_
    rintro e w1 ⟨he, hb⟩
    rw [Hm.out] at he
    subst he
    go_wp2
    go_ret
    exact ⟨rfl, hB0.trans (hb.mono (by simp; try omega))⟩
  have hk0l : zs0l.length * 8 ≤ 140737488351232 := by omega
  have hn0l : zs0l.length ≤ 1048576 := by omega
  have hk0p : zs0p.length * 8 ≤ 140737488351232 := by omega
  have hn0p : zs0p.length ≤ 1048576 := by omega
  have hk0d : zs0d.length * 8 ≤ 140737488351232 := by omega
  have hn0d : zs0d.length ≤ 1048576 := by omega
  have hm0 : JLen zs0l zs0p zs0d := ⟨by omega, by omega, by omega⟩
  have hres0 : (gtR zs0l zs0p zs0d).length * 8 ≤ 140737488351232 := gtR_len _ _ _
  have hm : szJ zs0l.length zs0p.length zs0d.length 1048576 = 1048576 - zs0l.length - zs0p.length - zs0d.length := by unfold szJ; rw [if_neg (by omega)]
  have hn0 : (0 : Int) ≤ 1048576 - zs0l.length - zs0p.length - zs0d.length := by omega
  have Hm := Lib.hid hm
  clear hm
  go_enter Try.func8, Try.ntmps8
  go_wp2_with fail
  obtain ⟨W0, hW0⟩ : ∃ W0, (w.alloc (.cells #[.slice a0l zs0l.length cap0l, .slice a0p zs0p.length cap0p, .slice a0d zs0d.length cap0d] 33)) = W0 := ⟨_, rfl⟩
  have ba0 : Box3 W0 (w.heap.size) 33 (.slice a0l zs0l.length cap0l) (.slice a0p zs0p.length cap0p) (.slice a0d zs0d.length cap0d) := by rw [← hW0]; simpa using Box3.new w 33 (.slice a0l zs0l.length cap0l) (.slice a0p zs0p.length cap0p) (.slice a0d zs0d.length cap0d)
  have hBW : Below w.heap.size w W0 := by rw [← hW0]; exact hB0
  have s0 : w.heap.size + 1 ≤ W0.heap.size := by rw [← hW0]; simp
  clear hB0
  rw [hW0]
  clear hW0
  refine (szJobs_c _ _ _ _ _ _ _ _ _ _ _ (by omega) (by omega) hL0l hL0p hL0d).mono ?_
  rintro e W1 ⟨he, hb⟩
  rw [Hm.out] at he
  subst he
  clear Hm
  have s1 := hb.size
  replace ba0 := ba0.later hb
  replace hBW := hBW.trans (hb.mono (by omega))
  clear hb
  have k_ba00 := ba0.c0
  have k_ba01 := ba0.c1
  have k_ba02 := ba0.c2
  go_wp2_with fail
  clear k_ba00 k_ba01 k_ba02
  refine (toJobs_c _ _ _ zs0l zs0p zs0d _ (hI0.later hBW) hm0).mono ?_
  rintro e W2 ⟨v_t1l, v_t1p, v_t1d, mid1_2, mid2_2, rfl, ho1, ho2, ho3, hmo1_2, hmo2_2, hmo3_2, hb⟩
  have s2 := hb.size
  replace ba0 := ba0.later hb
  replace hBW := hBW.trans (hb.mono (by omega))
  have g_t1l := ho1
  have g_t1p := ho2
  have g_t1d := ho3
  clear ho1 ho2 ho3 hb
  have k_ba00 := ba0.c0
  have k_ba01 := ba0.c1
  have k_ba02 := ba0.c2
  go_wp2_with fail
  clear k_ba00 k_ba01 k_ba02
  refine (s_GapsOfTurns _ _ _ zs0l zs0p zs0d _ ⟨g_t1l.ints, g_t1p.ints, g_t1d.ints⟩ hN0 hm0).mono ?_
  rintro e W3 ⟨v_w0, rfl, ho, hb⟩
  have s3 := hb.size
  replace g_t1l := g_t1l.below hb
  replace g_t1p := g_t1p.below hb
  replace g_t1d := g_t1d.below hb
  replace ba0 := ba0.later hb
  replace hBW := hBW.trans (hb.mono (by omega))
  have g_w0 := Seg.new ho
  clear ho hb
  clear g_t1l
  clear g_t1p
  clear g_t1d
  obtain ⟨a_w0, cap_w0, rfl⟩ := g_w0.ints.shape
  have k_ba00 := (ba0.alloc (.cells #[.slice a_w0 (gtR zs0l zs0p zs0d).length cap_w0] 28)).c0
  have k_ba01 := (ba0.alloc (.cells #[.slice a_w0 (gtR zs0l zs0p zs0d).length cap_w0] 28)).c1
  have k_ba02 := (ba0.alloc (.cells #[.slice a_w0 (gtR zs0l zs0p zs0d).length cap_w0] 28)).c2
  go_wp2_with fail
  clear k_ba00 k_ba01 k_ba02
  obtain ⟨W4, hWn⟩ : ∃ W4, W3.alloc (.cells #[.slice a_w0 (gtR zs0l zs0p zs0d).length cap_w0] 28) = W4 := ⟨_, rfl⟩
  have hb : Below W3.heap.size W3 W4 := by rw [← hWn]; exact (Below.refl _ _).alloc (Nat.le_refl _) _
  have bw0 : Boxed W4 W3.heap.size 28 (.slice a_w0 (gtR zs0l zs0p zs0d).length cap_w0) := by rw [← hWn]; exact Boxed.new _ _ _
  have s4 : W3.heap.size + 1 ≤ W4.heap.size := by rw [← hWn]; simp
  rw [hWn]
  clear hWn
  replace g_w0 := g_w0.below hb
  replace ba0 := ba0.later hb
  replace hBW := hBW.trans (hb.mono (by omega))
  clear hb
  refine (toJobs_c _ _ _ zs0l zs0p zs0d _ (hI0.later hBW) hm0).mono ?_
  rintro e W5 ⟨v_x0l, v_x0p, v_x0d, mid1_5, mid2_5, rfl, ho1, ho2, ho3, hmo1_5, hmo2_5, hmo3_5, hb⟩
  have s5 := hb.size
  replace g_w0 := g_w0.below hb
  replace ba0 := ba0.later hb
  replace bw0 := boxed_later bw0 hb
  replace hBW := hBW.trans (hb.mono (by omega))
  have g_x0l := ho1
  have g_x0p := ho2
  have g_x0d := ho3
  clear ho1 ho2 ho3 hb
  obtain ⟨a_x0l, cap_x0l, rfl⟩ := g_x0l.ints.shape
  obtain ⟨a_x0p, cap_x0p, rfl⟩ := g_x0p.ints.shape
  obtain ⟨a_x0d, cap_x0d, rfl⟩ := g_x0d.ints.shape
  have k_ba00 := (ba0.alloc (.cells #[.slice a_x0l zs0l.length cap_x0l, .slice a_x0p zs0p.length cap_x0p, .slice a_x0d zs0d.length cap_x0d] 37)).c0
  have k_ba01 := (ba0.alloc (.cells #[.slice a_x0l zs0l.length cap_x0l, .slice a_x0p zs0p.length cap_x0p, .slice a_x0d zs0d.length cap_x0d] 37)).c1
  have k_ba02 := (ba0.alloc (.cells #[.slice a_x0l zs0l.length cap_x0l, .slice a_x0p zs0p.length cap_x0p, .slice a_x0d zs0d.length cap_x0d] 37)).c2
  have k_bw0 := (bw0.alloc (.cells #[.slice a_x0l zs0l.length cap_x0l, .slice a_x0p zs0p.length cap_x0p, .slice a_x0d zs0d.length cap_x0d] 37)).cell
  go_wp2_with fail
  clear k_ba00 k_ba01 k_ba02
  clear k_bw0
  obtain ⟨W6, hWn⟩ : ∃ W6, W5.alloc (.cells #[.slice a_x0l zs0l.length cap_x0l, .slice a_x0p zs0p.length cap_x0p, .slice a_x0d zs0d.length cap_x0d] 37) = W6 := ⟨_, rfl⟩
  have hb : Below W5.heap.size W5 W6 := by rw [← hWn]; exact (Below.refl _ _).alloc (Nat.le_refl _) _
  have bx0 : Box3 W6 W5.heap.size 37 (.slice a_x0l zs0l.length cap_x0l) (.slice a_x0p zs0p.length cap_x0p) (.slice a_x0d zs0d.length cap_x0d) := by rw [← hWn]; exact Box3.new _ _ _ _ _
  have s6 : W5.heap.size + 1 ≤ W6.heap.size := by rw [← hWn]; simp
  rw [hWn]
  clear hWn
  replace g_w0 := g_w0.below hb
  replace g_x0l := g_x0l.below hb
  replace g_x0p := g_x0p.below hb
  replace g_x0d := g_x0d.below hb
  replace ba0 := ba0.later hb
  replace bw0 := boxed_later bw0 hb
  replace hBW := hBW.trans (hb.mono (by omega))
  clear hb
  refine (i_GapsOfTurns _ _ _ zs0l zs0p zs0d _ ⟨g_x0l.ints, g_x0p.ints, g_x0d.ints⟩ hN0 hm0).mono ?_
  rintro e W7 ⟨v_g0, rfl, ho, hb⟩
  have s7 := hb.size
  replace g_w0 := g_w0.below hb
  replace g_x0l := g_x0l.below hb
  replace g_x0p := g_x0p.below hb
  replace g_x0d := g_x0d.below hb
  replace ba0 := ba0.later hb
  replace bw0 := boxed_later bw0 hb
  replace bx0 := bx0.later hb
  replace hBW := hBW.trans (hb.mono (by omega))
  have g_g0 := Seg.new ho
  clear ho hb
  obtain ⟨a_g0, cap_g0, rfl⟩ := g_g0.ints.shape
  have k_ba00 := (ba0.alloc (.cells #[.slice a_g0 (gtR zs0l zs0p zs0d).length cap_g0] 28)).c0
  have k_ba01 := (ba0.alloc (.cells #[.slice a_g0 (gtR zs0l zs0p zs0d).length cap_g0] 28)).c1
  have k_ba02 := (ba0.alloc (.cells #[.slice a_g0 (gtR zs0l zs0p zs0d).length cap_g0] 28)).c2
  have k_bw0 := (bw0.alloc (.cells #[.slice a_g0 (gtR zs0l zs0p zs0d).length cap_g0] 28)).cell
  have k_bx00 := (bx0.alloc (.cells #[.slice a_g0 (gtR zs0l zs0p zs0d).length cap_g0] 28)).c0
  have k_bx01 := (bx0.alloc (.cells #[.slice a_g0 (gtR zs0l zs0p zs0d).length cap_g0] 28)).c1
  have k_bx02 := (bx0.alloc (.cells #[.slice a_g0 (gtR zs0l zs0p zs0d).length cap_g0] 28)).c2
  go_wp2_with fail
  clear k_ba00 k_ba01 k_ba02
  clear k_bw0
  clear k_bx00 k_bx01 k_bx02
  obtain ⟨W8, hWn⟩ : ∃ W8, W7.alloc (.cells #[.slice a_g0 (gtR zs0l zs0p zs0d).length cap_g0] 28) = W8 := ⟨_, rfl⟩
  have hb : Below W7.heap.size W7 W8 := by rw [← hWn]; exact (Below.refl _ _).alloc (Nat.le_refl _) _
  have bg0 : Boxed W8 W7.heap.size 28 (.slice a_g0 (gtR zs0l zs0p zs0d).length cap_g0) := by rw [← hWn]; exact Boxed.new _ _ _
  have s8 : W7.heap.size + 1 ≤ W8.heap.size := by rw [← hWn]; simp
  rw [hWn]
  clear hWn
  replace g_w0 := g_w0.below hb
  replace g_x0l := g_x0l.below hb
  replace g_x0p := g_x0p.below hb
  replace g_x0d := g_x0d.below hb
  replace g_g0 := g_g0.below hb
  replace ba0 := ba0.later hb
  replace bw0 := boxed_later bw0 hb
  replace bx0 := bx0.later hb
  replace hBW := hBW.trans (hb.mono (by omega))
  clear hb
  refine (eqTasks_d true _ _ _ _ _ g_g0.ints g_w0.ints hres0 (by simp)).mono ?_
  rintro e W9 ⟨rfl, hb⟩
  have s9 := hb.size
  replace g_w0 := g_w0.below hb
  replace g_x0l := g_x0l.below hb
  replace g_x0p := g_x0p.below hb
  replace g_x0d := g_x0d.below hb
  replace g_g0 := g_g0.below hb
  replace ba0 := ba0.later hb
  replace bw0 := boxed_later bw0 hb
  replace bx0 := bx0.later hb
  replace bg0 := boxed_later bg0 hb
  replace hBW := hBW.trans (hb.mono (by omega))
  clear hb
  have k_ba00 := ba0.c0
  have k_ba01 := ba0.c1
  have k_ba02 := ba0.c2
  have k_bw0 := bw0.cell
  have k_bx00 := bx0.c0
  have k_bx01 := bx0.c1
  have k_bx02 := bx0.c2
  have k_bg0 := bg0.cell
  go_wp2_with fail
  clear k_ba00 k_ba01 k_ba02
  clear k_bw0
  clear k_bx00 k_bx01 k_bx02
  clear k_bg0
  have k_ba00 := ba0.c0
  have k_ba01 := ba0.c1
  have k_ba02 := ba0.c2
  have k_bw0 := bw0.cell
  have k_bx00 := bx0.c0
  have k_bx01 := bx0.c1
  have k_bx02 := bx0.c2
  have k_bg0 := bg0.cell
  have p1 : w.heap.size < W9.heap.size := ba0.lt
  have p2 : W5.heap.size < W9.heap.size := bx0.lt
  go_region_held3 (fun w' => w'.cell? ⟨w.heap.size, 0, none⟩ = some (.slice a0l zs0l.length cap0l) ∧ w'.cell? ⟨w.heap.size, 1, none⟩ = some (.slice a0p zs0p.length cap0p) ∧ w'.cell? ⟨w.heap.size, 2, none⟩ = some (.slice a0d zs0d.length cap0d) ∧ w'.cell? ⟨W5.heap.size, 0, none⟩ = some (.slice a_x0l zs0l.length cap_x0l) ∧ w'.cell? ⟨W5.heap.size, 1, none⟩ = some (.slice a_x0p zs0p.length cap_x0p) ∧ w'.cell? ⟨W5.heap.size, 2, none⟩ = some (.slice a_x0d zs0d.length cap_x0d) ∧ Below W9.heap.size W9 w')
    (first
      | exact ⟨k_ba00, k_ba01, k_ba02, k_bx00, k_bx01, k_bx02, (Below.refl _ _).drew⟩
      | (go_split_ands
         refine ⟨?_, ?_, ?_, ?_, ?_, ?_, ?_⟩
         · exact (hx.cell (p := ⟨w.heap.size, 0, none⟩) (by show w.heap.size < _; omega)).trans (by assumption)
         · exact (hx.cell (p := ⟨w.heap.size, 1, none⟩) (by show w.heap.size < _; omega)).trans (by assumption)
         · exact (hx.cell (p := ⟨w.heap.size, 2, none⟩) (by show w.heap.size < _; omega)).trans (by assumption)
         · exact (hx.cell (p := ⟨W5.heap.size, 0, none⟩) (by show W5.heap.size < _; omega)).trans (by assumption)
         · exact (hx.cell (p := ⟨W5.heap.size, 1, none⟩) (by show W5.heap.size < _; omega)).trans (by assumption)
         · exact (hx.cell (p := ⟨W5.heap.size, 2, none⟩) (by show W5.heap.size < _; omega)).trans (by assumption)
         · exact Below.trans (by assumption) (hx.mono (by omega))))
    (first
      | (go_at_call 22; go_split_ands; have hBW2 : Below W9.heap.size W9 _ := (by assumption); have pW := hBW2.size; refine (toJobs_c _ _ _ zs0l zs0p zs0d _ ((hI0.later hBW).later hBW2) hm0).mono ?_; rintro e W10 ⟨v6l, v6p, v6d, m61, m62, rfl, ho61, ho62, ho63, hmo61, hmo62, hmo63, hx⟩)
      | (go_at_call 25; go_split_ands; have hBW2 : Below W9.heap.size W9 _ := (by assumption); have pW := hBW2.size; refine (eqJobs_t _ _ _ _ _ _ zs0l zs0p zs0d _ ⟨g_x0l.ints.later hBW2, g_x0p.ints.later hBW2, g_x0d.ints.later hBW2⟩ ⟨ho61.ints, ho62.ints, ho63.ints⟩ hk0l hk0p hk0d).mono ?_; rintro e W11 ⟨rfl, hx⟩))
  go_split_ands
  have hb : Below W9.heap.size W9 W11 := (by assumption)
  clear k_ba00 k_ba01 k_ba02
  clear k_bw0
  clear k_bx00 k_bx01 k_bx02
  clear k_bg0
  have s11 := hb.size
  replace g_w0 := g_w0.below hb
  replace g_x0l := g_x0l.below hb
  replace g_x0p := g_x0p.below hb
  replace g_x0d := g_x0d.below hb
  replace g_g0 := g_g0.below hb
  replace ba0 := ba0.later hb
  replace bw0 := boxed_later bw0 hb
  replace bx0 := bx0.later hb
  replace bg0 := boxed_later bg0 hb
  replace hBW := hBW.trans (hb.mono (by omega))
  clear hb hx ho61 ho62 ho63 hmo61 hmo62 hmo63 p1 p2
  have k_ba00 := ba0.c0
  have k_ba01 := ba0.c1
  have k_ba02 := ba0.c2
  have k_bw0 := bw0.cell
  have k_bx00 := bx0.c0
  have k_bx01 := bx0.c1
  have k_bx02 := bx0.c2
  have k_bg0 := bg0.cell
  go_wp2_with fail
  clear k_ba00 k_ba01 k_ba02
  clear k_bw0
  clear k_bx00 k_bx01 k_bx02
  clear k_bg0
  refine (markJobs_c _ _ _ _ _ _ _ _ _ _ (1 : Int) _ g_x0l g_x0p g_x0d (by omega) (by omega) (by omega) hk0l hk0p hk0d (by omega) (by omega)).mono ?_
  rintro e W12 ⟨rfl, ho1, ho2, ho3, ho⟩
  have s12 := ho.size
  replace hBW := ho.below hBW (by omega)
  replace g_w0 := g_w0.outside ho (by omega)
  replace g_g0 := g_g0.outside ho (by omega)
  replace ba0 := ba0.outside ho (by omega)
  replace bw0 := boxed_outside bw0 ho (by omega)
  replace bx0 := bx0.outside ho (by omega)
  replace bg0 := boxed_outside bg0 ho (by omega)
  replace g_x0l := ho1
  replace g_x0p := ho2
  replace g_x0d := ho3
  clear ho1 ho2 ho3 ho
  have k_ba00 := ba0.c0
  have k_ba01 := ba0.c1
  have k_ba02 := ba0.c2
  have k_bw0 := bw0.cell
  have k_bx00 := bx0.c0
  have k_bx01 := bx0.c1
  have k_bx02 := bx0.c2
  have k_bg0 := bg0.cell
  go_wp2_with fail
  clear k_ba00 k_ba01 k_ba02
  clear k_bw0
  clear k_bx00 k_bx01 k_bx02
  clear k_bg0
  refine (eqTasks_d true _ _ _ _ _ g_g0.ints g_w0.ints hres0 (by simp)).mono ?_
  rintro e W13 ⟨rfl, hb⟩
  have s13 := hb.size
  replace g_w0 := g_w0.below hb
  replace g_x0l := g_x0l.below hb
  replace g_x0p := g_x0p.below hb
  replace g_x0d := g_x0d.below hb
  replace g_g0 := g_g0.below hb
  replace ba0 := ba0.later hb
  replace bw0 := boxed_later bw0 hb
  replace bx0 := bx0.later hb
  replace bg0 := boxed_later bg0 hb
  replace hBW := hBW.trans (hb.mono (by omega))
  clear hb
  have k_ba00 := ba0.c0
  have k_ba01 := ba0.c1
  have k_ba02 := ba0.c2
  have k_bw0 := bw0.cell
  have k_bx00 := bx0.c0
  have k_bx01 := bx0.c1
  have k_bx02 := bx0.c2
  have k_bg0 := bg0.cell
  go_wp2_with fail
  clear k_ba00 k_ba01 k_ba02
  clear k_bw0
  clear k_bx00 k_bx01 k_bx02
  clear k_bg0
  refine (markTasks_c _ _ _ (1 : Int) _ g_g0.own hres0 (by omega) (by omega)).mono ?_
  rintro e W14 ⟨rfl, ho, hg⟩
  have s14 := hg.size
  replace hBW := below_marked hBW g_g0 hg (by omega)
  replace g_w0 := g_w0.kept hg (g_g0.apart (by omega))
  replace g_x0l := g_x0l.kept hg (g_g0.apart (by omega))
  replace g_x0p := g_x0p.kept hg (g_g0.apart (by omega))
  replace g_x0d := g_x0d.kept hg (g_g0.apart (by omega))
  replace ba0 := ba0.marked g_g0 hg (by omega)
  replace bw0 := boxed_marked bw0 g_g0 hg (by omega)
  replace bx0 := bx0.marked g_g0 hg (by omega)
  replace bg0 := boxed_marked bg0 g_g0 hg (by omega)
  replace g_g0 := g_g0.marked ho hg
  clear ho hg
  have k_ba00 := ba0.c0
  have k_ba01 := ba0.c1
  have k_ba02 := ba0.c2
  have k_bw0 := bw0.cell
  have k_bx00 := bx0.c0
  have k_bx01 := bx0.c1
  have k_bx02 := bx0.c2
  have k_bg0 := bg0.cell
  go_wp2_with fail
  clear k_ba00 k_ba01 k_ba02
  clear k_bw0
  clear k_bx00 k_bx01 k_bx02
  clear k_bg0
  refine (heldTasks_c _ _ (1 : Int) _ g_g0.ints hres0 (by omega) (by omega)).mono ?_
  rintro e W15 ⟨rfl, hb⟩
  have s15 := hb.size
  replace g_w0 := g_w0.below hb
  replace g_x0l := g_x0l.below hb
  replace g_x0p := g_x0p.below hb
  replace g_x0d := g_x0d.below hb
  replace g_g0 := g_g0.below hb
  replace ba0 := ba0.later hb
  replace bw0 := boxed_later bw0 hb
  replace bx0 := bx0.later hb
  replace bg0 := boxed_later bg0 hb
  replace hBW := hBW.trans (hb.mono (by omega))
  clear hb
  have k_ba00 := ba0.c0
  have k_ba01 := ba0.c1
  have k_ba02 := ba0.c2
  have k_bw0 := bw0.cell
  have k_bx00 := bx0.c0
  have k_bx01 := bx0.c1
  have k_bx02 := bx0.c2
  have k_bg0 := bg0.cell
  go_wp2_with fail
  clear k_ba00 k_ba01 k_ba02
  clear k_bw0
  clear k_bx00 k_bx01 k_bx02
  clear k_bg0
  refine (toJobs_c _ _ _ zs0l zs0p zs0d _ (hI0.later hBW) hm0).mono ?_
  rintro e W16 ⟨v_t2l, v_t2p, v_t2d, mid1_16, mid2_16, rfl, ho1, ho2, ho3, hmo1_16, hmo2_16, hmo3_16, hb⟩
  have s16 := hb.size
  replace g_w0 := g_w0.below hb
  replace g_x0l := g_x0l.below hb
  replace g_x0p := g_x0p.below hb
  replace g_x0d := g_x0d.below hb
  replace g_g0 := g_g0.below hb
  replace ba0 := ba0.later hb
  replace bw0 := boxed_later bw0 hb
  replace bx0 := bx0.later hb
  replace bg0 := boxed_later bg0 hb
  replace hBW := hBW.trans (hb.mono (by omega))
  have g_t2l := ho1
  have g_t2p := ho2
  have g_t2d := ho3
  clear ho1 ho2 ho3 hb
  have k_ba00 := ba0.c0
  have k_ba01 := ba0.c1
  have k_ba02 := ba0.c2
  have k_bw0 := bw0.cell
  have k_bx00 := bx0.c0
  have k_bx01 := bx0.c1
  have k_bx02 := bx0.c2
  have k_bg0 := bg0.cell
  go_wp2_with fail
  clear k_ba00 k_ba01 k_ba02
  clear k_bw0
  clear k_bx00 k_bx01 k_bx02
  clear k_bg0
  refine (i_GapsOfTurns _ _ _ zs0l zs0p zs0d _ ⟨g_t2l.ints, g_t2p.ints, g_t2d.ints⟩ hN0 hm0).mono ?_
  rintro e W17 ⟨v_h0, rfl, ho, hb⟩
  have s17 := hb.size
  replace g_w0 := g_w0.below hb
  replace g_x0l := g_x0l.below hb
  replace g_x0p := g_x0p.below hb
  replace g_x0d := g_x0d.below hb
  replace g_g0 := g_g0.below hb
  replace g_t2l := g_t2l.below hb
  replace g_t2p := g_t2p.below hb
  replace g_t2d := g_t2d.below hb
  replace ba0 := ba0.later hb
  replace bw0 := boxed_later bw0 hb
  replace bx0 := bx0.later hb
  replace bg0 := boxed_later bg0 hb
  replace hBW := hBW.trans (hb.mono (by omega))
  have g_h0 := Seg.new ho
  clear ho hb
  clear g_t2l
  clear g_t2p
  clear g_t2d
  obtain ⟨a_h0, cap_h0, rfl⟩ := g_h0.ints.shape
  have k_ba00 := (ba0.alloc (.cells #[.slice a_h0 (gtR zs0l zs0p zs0d).length cap_h0] 28)).c0
  have k_ba01 := (ba0.alloc (.cells #[.slice a_h0 (gtR zs0l zs0p zs0d).length cap_h0] 28)).c1
  have k_ba02 := (ba0.alloc (.cells #[.slice a_h0 (gtR zs0l zs0p zs0d).length cap_h0] 28)).c2
  have k_bw0 := (bw0.alloc (.cells #[.slice a_h0 (gtR zs0l zs0p zs0d).length cap_h0] 28)).cell
  have k_bx00 := (bx0.alloc (.cells #[.slice a_h0 (gtR zs0l zs0p zs0d).length cap_h0] 28)).c0
  have k_bx01 := (bx0.alloc (.cells #[.slice a_h0 (gtR zs0l zs0p zs0d).length cap_h0] 28)).c1
  have k_bx02 := (bx0.alloc (.cells #[.slice a_h0 (gtR zs0l zs0p zs0d).length cap_h0] 28)).c2
  have k_bg0 := (bg0.alloc (.cells #[.slice a_h0 (gtR zs0l zs0p zs0d).length cap_h0] 28)).cell
  go_wp2_with fail
  clear k_ba00 k_ba01 k_ba02
  clear k_bw0
  clear k_bx00 k_bx01 k_bx02
  clear k_bg0
  obtain ⟨W18, hWn⟩ : ∃ W18, W17.alloc (.cells #[.slice a_h0 (gtR zs0l zs0p zs0d).length cap_h0] 28) = W18 := ⟨_, rfl⟩
  have hb : Below W17.heap.size W17 W18 := by rw [← hWn]; exact (Below.refl _ _).alloc (Nat.le_refl _) _
  have bh0 : Boxed W18 W17.heap.size 28 (.slice a_h0 (gtR zs0l zs0p zs0d).length cap_h0) := by rw [← hWn]; exact Boxed.new _ _ _
  have s18 : W17.heap.size + 1 ≤ W18.heap.size := by rw [← hWn]; simp
  rw [hWn]
  clear hWn
  replace g_w0 := g_w0.below hb
  replace g_x0l := g_x0l.below hb
  replace g_x0p := g_x0p.below hb
  replace g_x0d := g_x0d.below hb
  replace g_g0 := g_g0.below hb
  replace g_h0 := g_h0.below hb
  replace ba0 := ba0.later hb
  replace bw0 := boxed_later bw0 hb
  replace bx0 := bx0.later hb
  replace bg0 := boxed_later bg0 hb
  replace hBW := hBW.trans (hb.mono (by omega))
  clear hb
  refine (eqTasks_d true _ _ _ _ _ g_h0.ints g_w0.ints hres0 (by simp)).mono ?_
  rintro e W19 ⟨rfl, hb⟩
  have s19 := hb.size
  replace g_w0 := g_w0.below hb
  replace g_x0l := g_x0l.below hb
  replace g_x0p := g_x0p.below hb
  replace g_x0d := g_x0d.below hb
  replace g_g0 := g_g0.below hb
  replace g_h0 := g_h0.below hb
  replace ba0 := ba0.later hb
  replace bw0 := boxed_later bw0 hb
  replace bx0 := bx0.later hb
  replace bg0 := boxed_later bg0 hb
  replace bh0 := boxed_later bh0 hb
  replace hBW := hBW.trans (hb.mono (by omega))
  clear hb
  have k_ba00 := ba0.c0
  have k_ba01 := ba0.c1
  have k_ba02 := ba0.c2
  have k_bw0 := bw0.cell
  have k_bx00 := bx0.c0
  have k_bx01 := bx0.c1
  have k_bx02 := bx0.c2
  have k_bg0 := bg0.cell
  have k_bh0 := bh0.cell
  go_wp2_with fail
  clear k_ba00 k_ba01 k_ba02
  clear k_bw0
  clear k_bx00 k_bx01 k_bx02
  clear k_bg0
  clear k_bh0
  refine (heldTasks_c _ _ (1 : Int) _ g_g0.ints hres0 (by omega) (by omega)).mono ?_
  rintro e W20 ⟨rfl, hb⟩
  have s20 := hb.size
  replace g_w0 := g_w0.below hb
  replace g_x0l := g_x0l.below hb
  replace g_x0p := g_x0p.below hb
  replace g_x0d := g_x0d.below hb
  replace g_g0 := g_g0.below hb
  replace g_h0 := g_h0.below hb
  replace ba0 := ba0.later hb
  replace bw0 := boxed_later bw0 hb
  replace bx0 := bx0.later hb
  replace bg0 := boxed_later bg0 hb
  replace bh0 := boxed_later bh0 hb
  replace hBW := hBW.trans (hb.mono (by omega))
  clear hb
  have k_ba00 := ba0.c0
  have k_ba01 := ba0.c1
  have k_ba02 := ba0.c2
  have k_bw0 := bw0.cell
  have k_bx00 := bx0.c0
  have k_bx01 := bx0.c1
  have k_bx02 := bx0.c2
  have k_bg0 := bg0.cell
  have k_bh0 := bh0.cell
  go_wp2_with fail
  clear k_ba00 k_ba01 k_ba02
  clear k_bw0
  clear k_bx00 k_bx01 k_bx02
  clear k_bg0
  clear k_bh0
  go_ret
  exact ⟨rfl, hBW⟩

open Go.ChangeShapes Go.WideShapes Go.ChangeAt Go.Joins Go.ChangeMaps

set_option maxRecDepth 100000 in
theorem gapsOfTurns_lifted (os : Os) (started : os.Started) (H : Type) (enc : TypeId × Value → H) :
    ReturnsInHanded {} Try.checked os 8 .any (Rows.fnExactGapsOfTurnsSpec.pre6 enc Try.prog Try.f8 Rows.fnExactGapsOfTurnsRow.domain false) (Rows.fnExactGapsOfTurnsSpec.post enc Try.prog Try.f8 false true false false) := by
  refine returnsInHanded_of_change (C := Try.checked) ownT started (by kernel_rfl) Try.func8
    (ChangeSpec.witness6 (enc := enc) (C := Try.checked) false ⟨#[], #[(.agg #[.slice none 0 0, .slice none 0 0, .slice none 0 0])], []⟩ 8 (by kernel_rfl) (by kernel_rfl) (by kernel_rfl) (by kernel_rfl)) ?_
  intro W base args ds gs before hval0 hW hcnd _
  have hval : ∀ (j : Nat) t v, Try.f8.params[j]? = some t → args[j]? = some v → Value.okWide Try.prog W .any base t v := hval0
  have hW' := hW
  obtain ⟨p, q, hA0, hV, rfl, hfz, hnd⟩ := hW
  have hA : DataW.TrodAll enc Try.prog W 0 (fun _ => true) true Try.f8.params.toList args.toList ds p := hA0
  rw [Try.params8] at hA hval
  obtain ⟨v0, vs0, d0, ds0, p0, q0, hargs, rfl, rfl, h0, r0⟩ := trodAll_cons hA
  obtain ⟨rfl, rfl, rfl⟩ := trodAll_nil r0
  obtain rfl : args = #[v0] := by cases args; simp_all
  obtain ⟨c0l, c0p, c0d, y0l, y0p, y0d, n0, rfl, rfl, rfl, t0l, t0p, t0d⟩ := open_agg3 Try.underlying33 rfl rfl rfl (by kernel_rfl) (by kernel_rfl) (by kernel_rfl) (by kernel_rfl) (hval 0 33 v0 rfl rfl) h0
  obtain ⟨zs0l, hI0l, hN0l, hl0l⟩ := ints_of_trod Try.underlying22 Try.underlying2 (by kernel_rfl) t0l
  obtain ⟨zs0p, hI0p, hN0p, hl0p⟩ := ints_of_trod Try.underlying22 Try.underlying2 (by kernel_rfl) t0p
  obtain ⟨zs0d, hI0d, hN0d, hl0d⟩ := ints_of_trod Try.underlying22 Try.underlying2 (by kernel_rfl) t0d
  refine (lawGapsOfTurns_c c0l c0p c0d zs0l zs0p zs0d W ⟨hI0l, hI0p, hI0d⟩ ⟨hN0l, hN0p, hN0d⟩ hl0l hl0p hl0d).mono fun e W' ⟨he, hb⟩ => ?_
  subst he
  exact ⟨_, rfl, law_post rfl laidT (by kernel_rfl) (by kernel_rfl) Try.underlying4 hW' rfl hb⟩

set_option maxHeartbeats 20000000 in
theorem gapsOfTurns_closed : joinedFacts Try.prog 8 Try.f8 Rows.fnExactGapsOfTurnsSpec Rows.fnExactGapsOfTurnsRow = true := by
  unfold joinedFacts
  exact (and_mk (and_mk (and_mk (and_mk (and_mk (and_mk (and_mk (and_mk (and_mk (and_mk (and_mk (and_mk (and_mk (and_mk (and_mk (and_mk (and_mk (and_mk (and_mk (and_mk (and_mk (and_mk (and_mk (and_mk (and_mk (and_mk (and_mk (and_mk (and_mk (and_mk (and_mk (by as_aux_lemma => kernel_rfl) laidT) (by as_aux_lemma => kernel_rfl)) (by as_aux_lemma => kernel_rfl)) (by as_aux_lemma => kernel_rfl)) (by as_aux_lemma => kernel_rfl)) (by as_aux_lemma => kernel_rfl)) (by as_aux_lemma => kernel_rfl)) (by as_aux_lemma => kernel_rfl)) (by as_aux_lemma => kernel_rfl)) (by as_aux_lemma => kernel_rfl)) (by as_aux_lemma => kernel_rfl)) (by as_aux_lemma => kernel_rfl)) (by as_aux_lemma => kernel_rfl)) (by as_aux_lemma => kernel_rfl)) (by as_aux_lemma => kernel_rfl)) (by as_aux_lemma => kernel_rfl)) (by as_aux_lemma => kernel_rfl)) (by as_aux_lemma => kernel_rfl)) (by as_aux_lemma => kernel_rfl)) (by as_aux_lemma => kernel_rfl)) (by as_aux_lemma => kernel_rfl)) (by as_aux_lemma => kernel_rfl)) (by as_aux_lemma => kernel_rfl)) (by as_aux_lemma => kernel_rfl)) mayEnterT) (by rw [liftsFinalT]; rfl)) (by rw [makeT]; rfl)) (by as_aux_lemma => kernel_rfl)) (by as_aux_lemma => kernel_rfl)) (by as_aux_lemma => kernel_rfl)) (by as_aux_lemma => kernel_rfl))

set_option maxHeartbeats 20000000 in
theorem gapsOfTurns_holds : Rows.FnExactGapsOfTurnsSaid :=
  OpenClaim.holds_of_wide 8 Try.f8 rfl rfl rfl rfl rfl rfl rfl ⟨rfl, rfl, rfl, rfl, rfl⟩ rfl rfl rfl rfl rfl (by as_aux_lemma => kernel_rfl) Try.func8 gapsOfTurns_closed
    (of_decide_eq_true (by as_aux_lemma => kernel_rfl)) (by unfold Func.isWrapper; rw [if_neg (of_decide_eq_false (by as_aux_lemma => kernel_rfl))]; exact ⟨rfl, rfl⟩)
    (fun os started H enc _ => gapsOfTurns_lifted os started H enc)

end Go.Proofs.Ytbhpflhopajbfaa
