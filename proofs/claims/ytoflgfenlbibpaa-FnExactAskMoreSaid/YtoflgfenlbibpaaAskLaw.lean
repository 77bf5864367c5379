/-
  The law on AskMore: at every argument the function answers as its model, writes into no argument, and its answer owns its memory.
  Conditions: none but the row's own.
-/
import Derived.Test.YtoflgfenlbibpaaAsk
import Derived.Test.YtoflgfenlbibpaaLaw
namespace Go.Proofs.Ytoflgfenlbibpaa
open Go.RowKit Go.Shelf

set_option maxRecDepth 100000 in
set_option maxHeartbeats 8000000 in
theorem lawAskMore_c (c0 : Value) (zs0 : List Int) (c1 : Value) (zs1 : List Int) (w : World) (hI0 : Ints w.heap.size w c0 zs0) (hN0 : I64s zs0) (hL0 : zs0.length ≤ 9223372036854775807) (hI1 : Ints w.heap.size w c1 zs1) (hN1 : I64s zs1) (hL1 : zs1.length ≤ 9223372036854775807) :
    Calls Try.prog 19 #[.agg #[c0], .agg #[c1]] w fun e w' => e = .returned (.bool true) ∧ Below w.heap.size w w' := by
  obtain ⟨a0, cap0, rfl⟩ := hI0.shape
  obtain ⟨a1, cap1, rfl⟩ := hI1.shape
  have hB0 : Below w.heap.size w ((w.alloc (.cells #[.slice a0 zs0.length cap0] 67)).alloc (.cells #[.slice a1 zs1.length cap1] 67)) := (((Below.refl _ w).alloc (Nat.le_refl _) _).alloc (by simp; try omega) _)
  go_enter Try.func19, Try.ntmps19
  go_wp2_with fail
  obtain ⟨W0, hW0⟩ : ∃ W0, ((w.alloc (.cells #[.slice a0 zs0.length cap0] 67)).alloc (.cells #[.slice a1 zs1.length cap1] 67)) = W0 := ⟨_, rfl⟩
  have ba0 : Boxed W0 (w.heap.size) 67 (.slice a0 zs0.length cap0) := by rw [← hW0]; simpa using (Boxed.new w 67 (.slice a0 zs0.length cap0)).alloc _
  have ba1 : Boxed W0 (w.heap.size + 1) 67 (.slice a1 zs1.length cap1) := by rw [← hW0]; simpa using Boxed.new (w.alloc (.cells #[.slice a0 zs0.length cap0] 67)) 67 (.slice a1 zs1.length cap1)
  have hBW : Below w.heap.size w W0 := by rw [← hW0]; exact hB0
  have s0 : w.heap.size + 2 ≤ W0.heap.size := by rw [← hW0]; simp
  clear hB0
  rw [hW0]
  clear hW0
  by_cases hs0 : 1048576 - (zs0.length : Int) < 0
  · have hm : szI zs0.length (1048576) = -1 := by unfold szI; rw [if_pos (by omega)]
    have Hm := Lib.hid hm
    clear hm
    refine (szTasks_c _ _ _ _ _ (by omega) (by omega) hL0).mono ?_
    rintro e W1 ⟨he, hb⟩
    rw [Hm.out] at he
    subst he
    go_wp2
    go_ret
    exact ⟨rfl, hBW.trans (hb.mono (by omega))⟩
  have hm : szI zs0.length (1048576) = 1048576 - (zs0.length : Int) := by unfold szI; rw [if_neg (by omega)]
  have hn0 : (0 : Int) ≤ 1048576 - (zs0.length : Int) := by omega
  have hk0 : zs0.length * 8 ≤ 140737488351232 := by omega
  have hm0 : zs0.length ≤ 1048576 := by omega
  have Hm := Lib.hid hm
  clear hm
  refine (szTasks_c _ _ _ _ _ (by omega) (by omega) hL0).mono ?_
  rintro e W1 ⟨he, hb⟩
  rw [Hm.out] at he
  subst he
  clear Hm
  have s1 := hb.size
  replace ba0 := boxed_later ba0 hb
  replace ba1 := boxed_later ba1 hb
  replace hBW := hBW.trans (hb.mono (by omega))
  clear hb
  have k_ba0 := ba0.cell
  have k_ba1 := ba1.cell
  go_wp2_with fail
  clear k_ba0
  clear k_ba1
  by_cases hs1 : 1048576 - (zs0.length : Int) - (zs1.length : Int) < 0
  · have hm : szI zs1.length (1048576 - (zs0.length : Int)) = -1 := by unfold szI; rw [if_pos (by omega)]
    have Hm := Lib.hid hm
    clear hm
    refine (szTasks_c _ _ _ _ _ (by omega) (by omega) hL1).mono ?_
    rintro e W2 ⟨he, hb⟩
    rw [Hm.out] at he
    subst he
    go_wp2
    go_ret
    exact ⟨rfl, hBW.trans (hb.mono (by omega))⟩
  have hm : szI zs1.length (1048576 - (zs0.length : Int)) = 1048576 - (zs0.length : Int) - (zs1.length : Int) := by unfold szI; rw [if_neg (by omega)]
  have hn1 : (0 : Int) ≤ 1048576 - (zs0.length : Int) - (zs1.length : Int) := by omega
  have hk1 : zs1.length * 8 ≤ 140737488351232 := by omega
  have hm1 : zs1.length ≤ 1048576 := by omega
  have Hm := Lib.hid hm
  clear hm
  refine (szTasks_c _ _ _ _ _ (by omega) (by omega) hL1).mono ?_
  rintro e W2 ⟨he, hb⟩
  rw [Hm.out] at he
  subst he
  clear Hm
  have s2 := hb.size
  replace ba0 := boxed_later ba0 hb
  replace ba1 := boxed_later ba1 hb
  replace hBW := hBW.trans (hb.mono (by omega))
  clear hb
  have k_ba0 := ba0.cell
  have k_ba1 := ba1.cell
  go_wp2_with fail
  clear k_ba0
  clear k_ba1
  have hfw : Try.prog.follows Departure.mixedOrders = true := by kernel_rfl
  refine wp_region_held_drew (S := fun w' => Boxed w' w.heap.size 67 (.slice a0 zs0.length cap0) ∧ Boxed w' (w.heap.size + 1) 67 (.slice a1 zs1.length cap1) ∧ Below w.heap.size w w') hfw ⟨ba0, ba1, hBW.drew⟩ ?_
  intro hS0
  refine wpAnyH_take (i := 0) (v := ?v0) rfl (by kernel_rfl) (by kernel_rfl) (by kernel_rfl) (fun _ _ _ h => h) (.inl ⟨by rfl, ?y0⟩) hS0 ?_
  case y0 =>
    intro w' hS
    (have k1 := hS.1.cell; have k2 := hS.2.1.cell; clear hS)
    go_simp
    try with_reducible rfl
  refine wpAnyH_take (i := 2) (v := ?v2) rfl (by kernel_rfl) (by kernel_rfl) (by kernel_rfl) (fun _ _ _ h => h) (.inl ⟨by rfl, ?y2⟩) hS0 ?_
  case y2 =>
    intro w' hS
    (have k1 := hS.1.cell; have k2 := hS.2.1.cell; clear hS)
    go_simp
    try with_reducible rfl
  refine wpAnyH_ready (rs := [1]) (by kernel_rfl) (by simp) ?_
  refine AllReadyH.cons rfl (fun K' hK' => ?_) AllReadyH.nil
  rw [if_pos (by rfl)]
  go_simp
  refine (toTasks_c _ zs0 _ (hI0.later hS0.2.2) hm0).mono ?_
  rintro e W3 ⟨v_t1, rfl, ho1, hb1⟩
  refine hK'.out _ _ ⟨boxed_later hS0.1 hb1, boxed_later hS0.2.1 hb1, hS0.2.2.trans (hb1.mono hS0.2.2.size)⟩ fun hS1 => ?_
  refine wpAnyH_ready (rs := [3]) (by kernel_rfl) (by simp) ?_
  refine AllReadyH.cons rfl (fun K' hK' => ?_) AllReadyH.nil
  rw [if_pos (by rfl)]
  go_simp
  refine (toTasks_c _ zs1 _ (hI1.later hS1.2.2) hm1).mono ?_
  rintro e W4 ⟨v_t2, rfl, ho2, hb2⟩
  refine hK'.out _ _ ⟨boxed_later hS1.1 hb2, boxed_later hS1.2.1 hb2, hS1.2.2.trans (hb2.mono hS1.2.2.size)⟩ fun hS2 => ?_
  refine wpAnyH_ready (rs := [4]) (by kernel_rfl) (by simp) ?_
  refine AllReadyH.cons rfl (fun K' hK' => ?_) AllReadyH.nil
  rw [if_pos (by rfl)]
  go_simp
  refine (s_AskMore _ zs0 _ zs1 _ (ho1.below hb2).ints hN0 hm0 ho2.ints hN1 hm1).mono ?_
  rintro e W5 ⟨rfl, hb⟩
  refine hK'.out _ _ ⟨boxed_later hS2.1 hb, boxed_later hS2.2.1 hb, hS2.2.2.trans (hb.mono hS2.2.2.size)⟩ fun hS3 => ?_
  refine wpAnyH_take (i := 5) (v := ?vz5) rfl (by kernel_rfl) (by kernel_rfl) (by kernel_rfl) (fun _ _ _ h => h) (.inl ⟨by rfl, ?yz5⟩) hS3 ?_
  case yz5 =>
    intro w' hS
    (clear hS)
    go_simp
    try with_reducible rfl
  refine wpAnyH_take (i := 6) (v := ?vz6) rfl (by kernel_rfl) (by kernel_rfl) (by kernel_rfl) (fun _ _ _ h => h) (.inl ⟨by rfl, ?yz6⟩) hS3 ?_
  case yz6 =>
    intro w' hS
    (clear hS)
    go_simp
    try with_reducible rfl
  refine wpAnyH_take (i := 7) (v := ?vz7) rfl (by kernel_rfl) (by kernel_rfl) (by kernel_rfl) (fun _ _ _ h => h) (.inl ⟨by rfl, ?yz7⟩) hS3 ?_
  case yz7 =>
    intro w' hS
    (clear hS)
    go_simp
    try with_reducible rfl
  refine wpAnyH_take (i := 8) (v := ?vz8) rfl (by kernel_rfl) (by kernel_rfl) (by kernel_rfl) (fun _ _ _ h => h) (.inl ⟨by rfl, ?yz8⟩) hS3 ?_
  case yz8 =>
    intro w' hS
    (clear hS)
    go_simp
    try with_reducible rfl
  refine wpAnyH_take (i := 9) (v := ?vz9) rfl (by kernel_rfl) (by kernel_rfl) (by kernel_rfl) (fun _ _ _ h => h) (.inl ⟨by rfl, ?yz9⟩) hS3 ?_
  case yz9 =>
    intro w' hS
    (clear hS)
    go_simp
    try with_reducible rfl
  refine wpAnyH_done (by kernel_rfl) ?_ _
  replace ba0 := hS3.1
  replace ba1 := hS3.2.1
  replace hBW := hS3.2.2
  have s5 := hBW.size
  clear hb hb1 hb2 ho1 ho2 hS0 hS1 hS2 hS3 hK'
  have k_ba0 := ba0.cell
  have k_ba1 := ba1.cell
  go_wp2_with fail
  clear k_ba0
  clear k_ba1
  refine (toTasks_c _ zs0 _ (hI0.later hBW) hm0).mono ?_
  rintro e W6 ⟨v_x0, rfl, ho, hb⟩
  have s6 := hb.size
  replace ba0 := boxed_later ba0 hb
  replace ba1 := boxed_later ba1 hb
  replace hBW := hBW.trans (hb.mono (by omega))
  have g_x0 := Seg.new ho
  clear ho hb
  obtain ⟨a_x0, cap_x0, rfl⟩ := g_x0.ints.shape
  have k_ba0 := (ba0.alloc (.cells #[.slice a_x0 zs0.length cap_x0] 26)).cell
  have k_ba1 := (ba1.alloc (.cells #[.slice a_x0 zs0.length cap_x0] 26)).cell
  go_wp2_with fail
  clear k_ba0
  clear k_ba1
  obtain ⟨W7, hWn⟩ : ∃ W7, W6.alloc (.cells #[.slice a_x0 zs0.length cap_x0] 26) = W7 := ⟨_, rfl⟩
  have hb : Below W6.heap.size W6 W7 := by rw [← hWn]; exact (Below.refl _ _).alloc (Nat.le_refl _) _
  have bx0 : Boxed W7 W6.heap.size 26 (.slice a_x0 zs0.length cap_x0) := by rw [← hWn]; exact Boxed.new _ _ _
  have s7 : W6.heap.size + 1 ≤ W7.heap.size := by rw [← hWn]; simp
  rw [hWn]
  clear hWn
  replace g_x0 := g_x0.below hb
  replace ba0 := boxed_later ba0 hb
  replace ba1 := boxed_later ba1 hb
  replace hBW := hBW.trans (hb.mono (by omega))
  clear hb
  refine (toTasks_c _ zs1 _ (hI1.later hBW) hm1).mono ?_
  rintro e W8 ⟨v_x1, rfl, ho, hb⟩
  have s8 := hb.size
  replace g_x0 := g_x0.below hb
  replace ba0 := boxed_later ba0 hb
  replace ba1 := boxed_later ba1 hb
  replace bx0 := boxed_later bx0 hb
  replace hBW := hBW.trans (hb.mono (by omega))
  have g_x1 := Seg.new ho
  clear ho hb
  obtain ⟨a_x1, cap_x1, rfl⟩ := g_x1.ints.shape
  have k_ba0 := (ba0.alloc (.cells #[.slice a_x1 zs1.length cap_x1] 26)).cell
  have k_ba1 := (ba1.alloc (.cells #[.slice a_x1 zs1.length cap_x1] 26)).cell
  have k_bx0 := (bx0.alloc (.cells #[.slice a_x1 zs1.length cap_x1] 26)).cell
  go_wp2_with fail
  clear k_ba0
  clear k_ba1
  clear k_bx0
  obtain ⟨W9, hWn⟩ : ∃ W9, W8.alloc (.cells #[.slice a_x1 zs1.length cap_x1] 26) = W9 := ⟨_, rfl⟩
  have hb : Below W8.heap.size W8 W9 := by rw [← hWn]; exact (Below.refl _ _).alloc (Nat.le_refl _) _
  have bx1 : Boxed W9 W8.heap.size 26 (.slice a_x1 zs1.length cap_x1) := by rw [← hWn]; exact Boxed.new _ _ _
  have s9 : W8.heap.size + 1 ≤ W9.heap.size := by rw [← hWn]; simp
  rw [hWn]
  clear hWn
  replace g_x0 := g_x0.below hb
  replace g_x1 := g_x1.below hb
  replace ba0 := boxed_later ba0 hb
  replace ba1 := boxed_later ba1 hb
  replace bx0 := boxed_later bx0 hb
  replace hBW := hBW.trans (hb.mono (by omega))
  clear hb
  refine (i_AskMore _ zs0 _ zs1 _ g_x0.ints hN0 hm0 g_x1.ints hN1 hm1).mono ?_
  rintro e W10 ⟨rfl, hb⟩
  have s10 := hb.size
  replace g_x0 := g_x0.below hb
  replace g_x1 := g_x1.below hb
  replace ba0 := boxed_later ba0 hb
  replace ba1 := boxed_later ba1 hb
  replace bx0 := boxed_later bx0 hb
  replace bx1 := boxed_later bx1 hb
  replace hBW := hBW.trans (hb.mono (by omega))
  clear hb
  have k_ba0 := ba0.cell
  have k_ba1 := ba1.cell
  have k_bx0 := bx0.cell
  have k_bx1 := bx1.cell
  go_wp2_with fail
  clear k_ba0
  clear k_ba1
  clear k_bx0
  clear k_bx1
  have k_ba0 := ba0.cell
  have k_ba1 := ba1.cell
  have k_bx0 := bx0.cell
  have k_bx1 := bx1.cell
  have p1 : w.heap.size < W10.heap.size := ba0.lt
  have p2 : W6.heap.size < W10.heap.size := bx0.lt
  go_region_held3 (fun w' => w'.cell? ⟨w.heap.size, 0, none⟩ = some (.slice a0 zs0.length cap0) ∧ w'.cell? ⟨W6.heap.size, 0, none⟩ = some (.slice a_x0 zs0.length cap_x0) ∧ Below W10.heap.size W10 w')
    (first
      | exact ⟨k_ba0, k_bx0, (Below.refl _ _).drew⟩
      | (go_split_ands
         refine ⟨?_, ?_, ?_⟩
         · exact (hx.cell (p := ⟨w.heap.size, 0, none⟩) (by show w.heap.size < _; omega)).trans (by assumption)
         · exact (hx.cell (p := ⟨W6.heap.size, 0, none⟩) (by show W6.heap.size < _; omega)).trans (by assumption)
         · exact Below.trans (by assumption) (hx.mono (by omega))))
    (first
      | (go_at_call 82; go_split_ands; have hBW2 : Below W10.heap.size W10 _ := (by assumption); have pW := hBW2.size; refine (toTasks_c _ zs0 _ ((hI0.later hBW).later hBW2) hm0).mono ?_; rintro e W11 ⟨v6, rfl, ho6, hx⟩)
      | (go_at_call 83; go_split_ands; have hBW2 : Below W10.heap.size W10 _ := (by assumption); have pW := hBW2.size; refine (eqTasks_d true _ _ zs0 zs0 _ (g_x0.ints.later hBW2) ho6.ints hk0 (by simp)).mono ?_; rintro e W12 ⟨rfl, hx⟩))
  go_split_ands
  have hb : Below W10.heap.size W10 W12 := (by assumption)
  clear k_ba0
  clear k_ba1
  clear k_bx0
  clear k_bx1
  have s12 := hb.size
  replace g_x0 := g_x0.below hb
  replace g_x1 := g_x1.below hb
  replace ba0 := boxed_later ba0 hb
  replace ba1 := boxed_later ba1 hb
  replace bx0 := boxed_later bx0 hb
  replace bx1 := boxed_later bx1 hb
  replace hBW := hBW.trans (hb.mono (by omega))
  clear hb hx ho6 p1 p2
  have k_ba0 := ba0.cell
  have k_ba1 := ba1.cell
  have k_bx0 := bx0.cell
  have k_bx1 := bx1.cell
  go_wp2_with fail
  clear k_ba0
  clear k_ba1
  clear k_bx0
  clear k_bx1
  have k_ba0 := ba0.cell
  have k_ba1 := ba1.cell
  have k_bx0 := bx0.cell
  have k_bx1 := bx1.cell
  have p1 : w.heap.size + 1 < W12.heap.size := ba1.lt
  have p2 : W8.heap.size < W12.heap.size := bx1.lt
  go_region_held3 (fun w' => w'.cell? ⟨w.heap.size + 1, 0, none⟩ = some (.slice a1 zs1.length cap1) ∧ w'.cell? ⟨W8.heap.size, 0, none⟩ = some (.slice a_x1 zs1.length cap_x1) ∧ Below W12.heap.size W12 w')
    (first
      | exact ⟨k_ba1, k_bx1, (Below.refl _ _).drew⟩
      | (go_split_ands
         refine ⟨?_, ?_, ?_⟩
         · exact (hx.cell (p := ⟨w.heap.size + 1, 0, none⟩) (by show w.heap.size + 1 < _; omega)).trans (by assumption)
         · exact (hx.cell (p := ⟨W8.heap.size, 0, none⟩) (by show W8.heap.size < _; omega)).trans (by assumption)
         · exact Below.trans (by assumption) (hx.mono (by omega))))
    (first
      | (go_at_call 82; go_split_ands; have hBW2 : Below W12.heap.size W12 _ := (by assumption); have pW := hBW2.size; refine (toTasks_c _ zs1 _ ((hI1.later hBW).later hBW2) hm1).mono ?_; rintro e W13 ⟨v6, rfl, ho6, hx⟩)
      | (go_at_call 83; go_split_ands; have hBW2 : Below W12.heap.size W12 _ := (by assumption); have pW := hBW2.size; refine (eqTasks_d true _ _ zs1 zs1 _ (g_x1.ints.later hBW2) ho6.ints hk1 (by simp)).mono ?_; rintro e W14 ⟨rfl, hx⟩))
  go_split_ands
  have hb : Below W12.heap.size W12 W14 := (by assumption)
  clear k_ba0
  clear k_ba1
  clear k_bx0
  clear k_bx1
  have s14 := hb.size
  replace g_x0 := g_x0.below hb
  replace g_x1 := g_x1.below hb
  replace ba0 := boxed_later ba0 hb
  replace ba1 := boxed_later ba1 hb
  replace bx0 := boxed_later bx0 hb
  replace bx1 := boxed_later bx1 hb
  replace hBW := hBW.trans (hb.mono (by omega))
  clear hb hx ho6 p1 p2
  have k_ba0 := ba0.cell
  have k_ba1 := ba1.cell
  have k_bx0 := bx0.cell
  have k_bx1 := bx1.cell
  go_wp2_with fail
  clear k_ba0
  clear k_ba1
  clear k_bx0
  clear k_bx1
  go_ret
  exact ⟨rfl, hBW⟩

open Go.ChangeShapes Go.WideShapes Go.ChangeAt Go.Joins Go.ChangeMaps

set_option maxRecDepth 100000 in
theorem askMore_lifted (os : Os) (started : os.Started) (H : Type) (enc : TypeId × Value → H) :
    ReturnsInHanded {} Try.checked os 19 .any (Rows.fnExactAskMoreSpec.pre6 enc Try.prog Try.f19 Rows.fnExactAskMoreRow.domain false) (Rows.fnExactAskMoreSpec.post enc Try.prog Try.f19 false true false false) := by
  refine returnsInHanded_of_change (C := Try.checked) ownT started (by kernel_rfl) Try.func19
    (ChangeSpec.witness6 (enc := enc) (C := Try.checked) false ⟨#[], #[(.agg #[.slice none 0 0]), (.agg #[.slice none 0 0])], []⟩ 8 (by kernel_rfl) (by kernel_rfl) (by kernel_rfl) (by kernel_rfl)) ?_
  intro W base args ds gs before hval0 hW hcnd _
  have hval : ∀ (j : Nat) t v, Try.f19.params[j]? = some t → args[j]? = some v → Value.okWide Try.prog W .any base t v := hval0
  have hW' := hW
  obtain ⟨p, q, hA0, hV, rfl, hfz, hnd⟩ := hW
  have hA : DataW.TrodAll enc Try.prog W 0 (fun _ => true) true Try.f19.params.toList args.toList ds p := hA0
  rw [Try.params19] at hA hval
  obtain ⟨v0, vs0, d0, ds0, p0, q0, hargs, rfl, rfl, h0, r0⟩ := trodAll_cons hA
  obtain ⟨v1, vs1, d1, ds1, p1, q1, rfl, rfl, rfl, h1, r1⟩ := trodAll_cons r0
  obtain ⟨rfl, rfl, rfl⟩ := trodAll_nil r1
  obtain rfl : args = #[v0, v1] := by cases args; simp_all
  obtain ⟨c0, y0, n0, rfl, rfl, rfl, t0⟩ := open_agg1 Try.underlying67 rfl (by kernel_rfl) (by kernel_rfl) (hval 0 67 v0 rfl rfl) h0
  obtain ⟨zs0, hI0, hN0, hl0⟩ := ints_of_trod Try.underlying24 Try.underlying2 (by kernel_rfl) t0
  obtain ⟨c1, y1, n1, rfl, rfl, rfl, t1⟩ := open_agg1 Try.underlying67 rfl (by kernel_rfl) (by kernel_rfl) (hval 1 67 v1 rfl rfl) h1
  obtain ⟨zs1, hI1, hN1, hl1⟩ := ints_of_trod Try.underlying24 Try.underlying2 (by kernel_rfl) t1
  refine (lawAskMore_c c0 zs0 c1 zs1 W hI0 hN0 hl0 hI1 hN1 hl1).mono fun e W' ⟨he, hb⟩ => ?_
  subst he
  exact ⟨_, rfl, law_post rfl laidT (by kernel_rfl) (by kernel_rfl) Try.underlying4 hW' rfl hb⟩

set_option maxHeartbeats 20000000 in
theorem askMore_closed : joinedFacts Try.prog 19 Try.f19 Rows.fnExactAskMoreSpec Rows.fnExactAskMoreRow = true := by
  unfold joinedFacts
  exact (and_mk (and_mk (and_mk (and_mk (and_mk (and_mk (and_mk (and_mk (and_mk (and_mk (and_mk (and_mk (and_mk (and_mk (and_mk (and_mk (and_mk (and_mk (and_mk (and_mk (and_mk (and_mk (and_mk (and_mk (and_mk (and_mk (and_mk (and_mk (and_mk (and_mk (and_mk (by as_aux_lemma => kernel_rfl) laidT) (by as_aux_lemma => kernel_rfl)) (by as_aux_lemma => kernel_rfl)) (by as_aux_lemma => kernel_rfl)) (by as_aux_lemma => kernel_rfl)) (by as_aux_lemma => kernel_rfl)) (by as_aux_lemma => kernel_rfl)) (by as_aux_lemma => kernel_rfl)) (by as_aux_lemma => kernel_rfl)) (by as_aux_lemma => kernel_rfl)) (by as_aux_lemma => kernel_rfl)) (by as_aux_lemma => kernel_rfl)) (by as_aux_lemma => kernel_rfl)) (by as_aux_lemma => kernel_rfl)) (by as_aux_lemma => kernel_rfl)) (by as_aux_lemma => kernel_rfl)) (by as_aux_lemma => kernel_rfl)) (by as_aux_lemma => kernel_rfl)) (by as_aux_lemma => kernel_rfl)) (by as_aux_lemma => kernel_rfl)) (by as_aux_lemma => kernel_rfl)) (by as_aux_lemma => kernel_rfl)) (by as_aux_lemma => kernel_rfl)) (by as_aux_lemma => kernel_rfl)) mayEnterT) (by rw [liftsFinalT]; rfl)) (by rw [makeT]; rfl)) (by as_aux_lemma => kernel_rfl)) (by as_aux_lemma => kernel_rfl)) (by as_aux_lemma => kernel_rfl)) (by as_aux_lemma => kernel_rfl))

set_option maxHeartbeats 20000000 in
theorem askMore_holds : Rows.FnExactAskMoreSaid :=
  OpenClaim.holds_of_wide 19 Try.f19 rfl rfl rfl rfl rfl rfl rfl ⟨rfl, rfl, rfl, rfl, rfl⟩ rfl rfl rfl rfl rfl (by as_aux_lemma => kernel_rfl) Try.func19 askMore_closed
    (of_decide_eq_true (by as_aux_lemma => kernel_rfl)) (by unfold Func.isWrapper; rw [if_neg (of_decide_eq_false (by as_aux_lemma => kernel_rfl))]; exact ⟨rfl, rfl⟩)
    (fun os started H enc _ => askMore_lifted os started H enc)

end Go.Proofs.Ytoflgfenlbibpaa
