/-
  The law on CanWatch: at every argument the function answers as its model, writes into no argument, and its answer owns its memory.
  Conditions: none but the row's own.
-/
import Derived.Test.YtgndbifcncklgaaSfs
import Derived.Test.YtgndbifcncklgaaGnh
import Derived.Test.YtgndbifcncklgaaLaw
namespace Go.Proofs.Ytgndbifcncklgaa
open Go.RowKit Go.Shelf

/-- a post that only goes on -/
def normQ (R : Act → World → Prop) : Exit → Act → World → Prop
  | .normal, a, w => R a w
  | _, _, _ => False
theorem normQ_of {R : Act → World → Prop} {a : Act} {w : World} (h : R a w) : normQ R .normal a w := h
theorem normQ_elim {R : Act → World → Prop} {e : Exit} {a : Act} {w : World} (h : normQ R e a w) : e = .normal ∧ R a w := by
  cases e <;> first | exact ⟨rfl, h⟩ | exact h.elim

set_option maxRecDepth 100000 in
set_option maxHeartbeats 8000000 in
theorem lawCanWatch_c (p0 r0 : Int) (c1 : Value) (zs1 : List Int) (w : World) (hp0 : I64 p0) (hr0 : I64 r0) (hI1 : Ints w.heap.size w c1 zs1) (hN1 : I64s zs1) (hL1 : zs1.length ≤ 9223372036854775807) :
    Calls Try.prog 4 #[.agg #[.int .i64 p0, .int .i64 r0], .agg #[c1]] w fun e w' => e = .returned (.bool true) ∧ Below w.heap.size w w' := by
  obtain ⟨a1, cap1, rfl⟩ := hI1.shape
  have hB0 : Below w.heap.size w ((w.alloc (.cells #[.int .i64 p0, .int .i64 r0] 23)).alloc (.cells #[.slice a1 zs1.length cap1] 26)) := (((Below.refl _ w).alloc (Nat.le_refl _) _).alloc (by simp; try omega) _)
  by_cases hs1 : 1048576 < zs1.length
  · skip
    have hm : szI zs1.length 1048576 = -1 := by unfold szI; rw [if_pos (by omega)]
    have Hm := Lib.hid hm
    clear hm
    go_enter Try.func4, Try.ntmps4
    go_wp2_with fail
    refine (szTasks_c _ _ _ _ _ (by omega) (by omega) hL1).mono ?_
    rintro e w1 ⟨he, hb⟩
    rw [Hm.out] at he
    subst he
    go_wp2
    go_ret
    exact ⟨rfl, hB0.trans (hb.mono (by simp; try omega))⟩
  have hk1 : zs1.length * 8 ≤ 140737488351232 := by omega
  have hm1 : zs1.length ≤ 1048576 := by omega
  have hm : szI zs1.length 1048576 = 1048576 - zs1.length := by unfold szI; rw [if_neg (by omega)]
  have hn1 : (0 : Int) ≤ 1048576 - zs1.length := by omega
  have Hm := Lib.hid hm
  clear hm
  go_enter Try.func4, Try.ntmps4
  go_wp2_with fail
  obtain ⟨W0, hW0⟩ : ∃ W0, ((w.alloc (.cells #[.int .i64 p0, .int .i64 r0] 23)).alloc (.cells #[.slice a1 zs1.length cap1] 26)) = W0 := ⟨_, rfl⟩
  have ba0 : Box2 W0 (w.heap.size) 23 (.int .i64 p0) (.int .i64 r0) := by rw [← hW0]; simpa using (Box2.new w 23 (.int .i64 p0) (.int .i64 r0)).alloc _
  have ba1 : Boxed W0 (w.heap.size + 1) 26 (.slice a1 zs1.length cap1) := by rw [← hW0]; simpa using Boxed.new (w.alloc (.cells #[.int .i64 p0, .int .i64 r0] 23)) 26 (.slice a1 zs1.length cap1)
  have hBW : Below w.heap.size w W0 := by rw [← hW0]; exact hB0
  have s0 : w.heap.size + 2 ≤ W0.heap.size := by rw [← hW0]; simp
  clear hB0
  rw [hW0]
  clear hW0
  refine (szTasks_c _ _ _ _ _ (by omega) (by omega) hL1).mono ?_
  rintro e W1 ⟨he, hb⟩
  rw [Hm.out] at he
  subst he
  clear Hm
  have s1 := hb.size
  replace ba0 := ba0.later hb
  replace ba1 := boxed_later ba1 hb
  replace hBW := hBW.trans (hb.mono (by omega))
  clear hb
  have k_ba0 := ba0.c0
  have k2_ba0 := ba0.c1
  have k_ba1 := ba1.cell
  go_wp2_with fail
  clear k_ba0
  clear k2_ba0
  clear k_ba1
  have hfw : Try.prog.follows Departure.mixedOrders = true := by kernel_rfl
  refine' wp_mono (Q := normQ (fun a' w' => (Box2 w' w.heap.size 23 (.int .i64 p0) (.int .i64 r0) ∧ Boxed w' (w.heap.size + 1) 26 (.slice a1 zs1.length cap1) ∧ Below w.heap.size w w') ∧ ∃ v : Value, a' = { tmps := #[Value.agg #[Value.int IntKind.i64 p0, Value.int IntKind.i64 r0], Value.agg #[Value.slice a1 zs1.length cap1], Value.pointer (some ⟨w.heap.size, 0, none⟩), Value.pointer (some ⟨w.heap.size + 1, 0, none⟩), Value.bool false, Value.int IntKind.i64 (1048576 - (zs1.length : Int)), Value.bool (cwB p0 r0 zs1), Value.int IntKind.i64 (wcC p0 r0 zs1), undef, undef, undef, Value.agg #[Value.slice a1 zs1.length cap1], Value.int IntKind.i64 1048576, Value.int IntKind.i64 (1048576 - (zs1.length : Int)), Value.int IntKind.i64 (1048576 - (zs1.length : Int)), Value.bool (decide (1048576 - (zs1.length : Int) < 0)), Value.tuple #[Value.bool (cwB p0 r0 zs1), Value.int IntKind.i64 (wcC p0 r0 zs1)], Value.agg #[Value.int IntKind.i64 p0, Value.int IntKind.i64 r0], Value.agg #[Value.int IntKind.i64 p0, Value.int IntKind.i64 r0], Value.agg #[Value.slice a1 zs1.length cap1], Value.agg #[v], Value.tuple #[Value.bool (cwB p0 r0 zs1), Value.int IntKind.i64 (wcC p0 r0 zs1)], Value.bool (cwB p0 r0 zs1), Value.int IntKind.i64 (wcC p0 r0 zs1), undef, undef, undef, undef, undef, undef, undef, undef, undef, undef, undef, undef, undef, undef, undef, undef, undef, undef, undef, undef, undef, undef], defers := [] })) ?gA ?gB
  case gA =>
    refine wp_region_held_drew (S := (fun w' => Box2 w' w.heap.size 23 (.int .i64 p0) (.int .i64 r0) ∧ Boxed w' (w.heap.size + 1) 26 (.slice a1 zs1.length cap1) ∧ Below w.heap.size w w')) hfw ⟨ba0, ba1, hBW.drew⟩ ?_
    intro hS0
    obtain ⟨Wd, hWd⟩ : ∃ Wd, W1.drew = Wd := ⟨_, rfl⟩
    rw [hWd] at hS0 ⊢
    clear hWd
    refine wpAnyH_take (i := 0) (v := ?vL10) rfl (by kernel_rfl) (by kernel_rfl) (by kernel_rfl) (fun _ _ _ h => h) (.inl ⟨by first | kernel_rfl | rfl, ?yL10⟩) hS0 ?_
    case yL10 =>
      intro w' hS
      (have k0 := hS.1.c0; have k1 := hS.1.c1; have k2 := hS.2.1.cell; clear hS)
      go_simp
      try with_reducible rfl
    refine wpAnyH_take (i := 2) (v := ?vL12) rfl (by kernel_rfl) (by kernel_rfl) (by kernel_rfl) (fun _ _ _ h => h) (.inl ⟨by first | kernel_rfl | rfl, ?yL12⟩) hS0 ?_
    case yL12 =>
      intro w' hS
      (have k0 := hS.1.c0; have k1 := hS.1.c1; have k2 := hS.2.1.cell; clear hS)
      go_simp
      try with_reducible rfl
    try simp only [Act.put, List.getElem_toArray, List.getElem_cons_zero, List.getElem_cons_succ, List.setIfInBounds_toArray, List.set_cons_zero, List.set_cons_succ]
    refine wpAnyH_ready (rs := [1]) (by kernel_rfl) (by simp) ?_
    refine AllReadyH.cons rfl (fun K' hK' => ?_) AllReadyH.nil
    rw [if_pos (by first | kernel_rfl | rfl)]
    go_simp
    refine (toGround_c p0 r0 _).mono ?_
    rintro e W2 ⟨rfl, hb⟩
    refine hK'.out _ _ ⟨hS0.1.later hb, boxed_later hS0.2.1 hb, hS0.2.2.trans (hb.mono hS0.2.2.size)⟩ fun hS1 => ?_
    clear hK' hb hS0
    refine wpAnyH_ready (rs := [3]) (by kernel_rfl) (by simp) ?_
    refine AllReadyH.cons rfl (fun K' hK' => ?_) AllReadyH.nil
    rw [if_pos (by first | kernel_rfl | rfl)]
    go_simp
    refine (toTasks_c _ zs1 _ (hI1.later hS1.2.2) hm1).mono ?_
    rintro e W3 ⟨v, rfl, ho, hb⟩
    refine hK'.out _ _ ⟨hS1.1.later hb, boxed_later hS1.2.1 hb, hS1.2.2.trans (hb.mono hS1.2.2.size)⟩ fun hS2 => ?_
    clear hK' hS1
    have g_t1 := Seg.new ho
    clear hb
    refine wpAnyH_ready (rs := [4]) (by kernel_rfl) (by simp) ?_
    refine AllReadyH.cons rfl (fun K' hK' => ?_) AllReadyH.nil
    rw [if_pos (by first | kernel_rfl | rfl)]
    go_simp
    refine (s_CanWatch p0 r0 _ zs1 _ hp0 hr0 g_t1.ints hN1 hm1).mono ?_
    rintro e W4 ⟨rfl, hb⟩
    refine hK'.out _ _ ⟨hS2.1.later hb, boxed_later hS2.2.1 hb, hS2.2.2.trans (hb.mono hS2.2.2.size)⟩ fun hS3 => ?_
    clear hK'
    refine wpAnyH_take (i := 5) (v := ?vL25) rfl (by kernel_rfl) (by kernel_rfl) (by kernel_rfl) (fun _ _ _ h => h) (.inl ⟨by first | kernel_rfl | rfl, ?yL25⟩) hS3 ?_
    case yL25 =>
      intro w' hS
      (clear hS)
      go_simp
      try with_reducible rfl
    refine wpAnyH_take (i := 6) (v := ?vL26) rfl (by kernel_rfl) (by kernel_rfl) (by kernel_rfl) (fun _ _ _ h => h) (.inl ⟨by first | kernel_rfl | rfl, ?yL26⟩) hS3 ?_
    case yL26 =>
      intro w' hS
      (clear hS)
      go_simp
      try with_reducible rfl
    refine wpAnyH_take (i := 7) (v := ?vL27) rfl (by kernel_rfl) (by kernel_rfl) (by kernel_rfl) (fun _ _ _ h => h) (.inl ⟨by first | kernel_rfl | rfl, ?yL27⟩) hS3 ?_
    case yL27 =>
      intro w' hS
      (clear hS)
      go_simp
      try with_reducible rfl
    refine wpAnyH_take (i := 8) (v := ?vL28) rfl (by kernel_rfl) (by kernel_rfl) (by kernel_rfl) (fun _ _ _ h => h) (.inl ⟨by first | kernel_rfl | rfl, ?yL28⟩) hS3 ?_
    case yL28 =>
      intro w' hS
      (clear hS)
      go_simp
      try with_reducible rfl
    refine wpAnyH_take (i := 9) (v := ?vL29) rfl (by kernel_rfl) (by kernel_rfl) (by kernel_rfl) (fun _ _ _ h => h) (.inl ⟨by first | kernel_rfl | rfl, ?yL29⟩) hS3 ?_
    case yL29 =>
      intro w' hS
      (clear hS)
      go_simp
      try with_reducible rfl
    try simp only [Act.put, List.getElem_toArray, List.getElem_cons_zero, List.getElem_cons_succ, List.setIfInBounds_toArray, List.set_cons_zero, List.set_cons_succ]
    refine wpAnyH_done (by kernel_rfl) ?_ _
    exact normQ_of ⟨hS3, v, rfl⟩
  rintro e a' W4 hn4
  obtain ⟨rfl, ⟨ba0, ba1, hBW⟩, v_t1, rfl⟩ := normQ_elim hn4
  have s4 : w.heap.size + 2 ≤ W4.heap.size := ba1.lt
  dsimp only
  have k_ba0 := ba0.c0
  have k2_ba0 := ba0.c1
  have k_ba1 := ba1.cell
  go_wp2_with fail
  clear k_ba0
  clear k2_ba0
  clear k_ba1
  refine (toTasks_c _ zs1 _ (hI1.later hBW) hm1).mono ?_
  rintro e W5 ⟨v_x1, rfl, ho, hb⟩
  have s5 := hb.size
  replace ba0 := ba0.later hb
  replace ba1 := boxed_later ba1 hb
  replace hBW := hBW.trans (hb.mono (by omega))
  have g_x1 := Seg.new ho
  clear ho hb
  obtain ⟨a_x1, cap_x1, rfl⟩ := g_x1.ints.shape
  have k_ba0 := ba0.c0
  have k2_ba0 := ba0.c1
  have k_ba1 := ba1.cell
  go_wp2_with fail
  clear k_ba0
  clear k2_ba0
  clear k_ba1
  obtain ⟨W6, hWn⟩ : ∃ W6, W5.alloc (.cells #[.slice a_x1 zs1.length cap_x1] 32) = W6 := ⟨_, rfl⟩
  have hb : Below W5.heap.size W5 W6 := by rw [← hWn]; exact (Below.refl _ _).alloc (Nat.le_refl _) _
  have bx1 : Boxed W6 W5.heap.size 32 (.slice a_x1 zs1.length cap_x1) := by rw [← hWn]; exact Boxed.new _ _ _
  have s6 : W5.heap.size + 1 ≤ W6.heap.size := by rw [← hWn]; simp
  rw [hWn]
  clear hWn
  replace g_x1 := g_x1.below hb
  replace ba0 := ba0.later hb
  replace ba1 := boxed_later ba1 hb
  replace hBW := hBW.trans (hb.mono (by omega))
  clear hb
  refine wp_region_held_drew (S := (fun w' => Box2 w' w.heap.size 23 (.int .i64 p0) (.int .i64 r0) ∧ Boxed w' (w.heap.size + 1) 26 (.slice a1 zs1.length cap1) ∧ Boxed w' W5.heap.size 32 (.slice a_x1 zs1.length cap_x1) ∧ Below W6.heap.size W6 w')) hfw ⟨ba0, ba1, bx1, (Below.refl _ _).drew⟩ ?_
  intro hS0
  obtain ⟨Wd, hWd⟩ : ∃ Wd, W6.drew = Wd := ⟨_, rfl⟩
  rw [hWd] at hS0 ⊢
  clear hWd
  refine wpAnyH_take (i := 0) (v := ?vL70) rfl (by kernel_rfl) (by kernel_rfl) (by kernel_rfl) (fun _ _ _ h => h) (.inl ⟨by first | kernel_rfl | rfl, ?yL70⟩) hS0 ?_
  case yL70 =>
    intro w' hS
    (have k0 := hS.1.c0; have k1 := hS.1.c1; have k2 := hS.2.2.1.cell; clear hS)
    go_simp
    try with_reducible rfl
  refine wpAnyH_take (i := 2) (v := ?vL72) rfl (by kernel_rfl) (by kernel_rfl) (by kernel_rfl) (fun _ _ _ h => h) (.inl ⟨by first | kernel_rfl | rfl, ?yL72⟩) hS0 ?_
  case yL72 =>
    intro w' hS
    (have k0 := hS.1.c0; have k1 := hS.1.c1; have k2 := hS.2.2.1.cell; clear hS)
    go_simp
    try with_reducible rfl
  try simp only [Act.put, List.getElem_toArray, List.getElem_cons_zero, List.getElem_cons_succ, List.setIfInBounds_toArray, List.set_cons_zero, List.set_cons_succ]
  refine wpAnyH_ready (rs := [1]) (by kernel_rfl) (by simp) ?_
  refine AllReadyH.cons rfl (fun K' hK' => ?_) AllReadyH.nil
  rw [if_pos (by first | kernel_rfl | rfl)]
  go_simp
  refine (toGround_c p0 r0 _).mono ?_
  rintro e W7 ⟨rfl, hb⟩
  refine hK'.out _ _ ⟨hS0.1.later hb, boxed_later hS0.2.1 hb, boxed_later hS0.2.2.1 hb, hS0.2.2.2.trans (hb.mono hS0.2.2.2.size)⟩ fun hS1 => ?_
  clear hK' hb hS0
  refine wpAnyH_ready (rs := [3]) (by kernel_rfl) (by simp) ?_
  refine AllReadyH.cons rfl (fun K' hK' => ?_) AllReadyH.nil
  rw [if_pos (by first | kernel_rfl | rfl)]
  go_simp
  refine (i_CanWatch p0 r0 _ zs1 _ hp0 hr0 (g_x1.below hS1.2.2.2).ints hN1 hm1).mono ?_
  rintro e W8 ⟨rfl, hb⟩
  refine hK'.out _ _ ⟨hS1.1.later hb, boxed_later hS1.2.1 hb, boxed_later hS1.2.2.1 hb, hS1.2.2.2.trans (hb.mono hS1.2.2.2.size)⟩ fun hS2 => ?_
  clear hK' hb hS1
  refine wpAnyH_take (i := 4) (v := ?vL84) rfl (by kernel_rfl) (by kernel_rfl) (by kernel_rfl) (fun _ _ _ h => h) (.inl ⟨by first | kernel_rfl | rfl, ?yL84⟩) hS2 ?_
  case yL84 =>
    intro w' hS
    (clear hS)
    go_simp
    try with_reducible rfl
  refine wpAnyH_take (i := 5) (v := ?vL85) rfl (by kernel_rfl) (by kernel_rfl) (by kernel_rfl) (fun _ _ _ h => h) (.inl ⟨by first | kernel_rfl | rfl, ?yL85⟩) hS2 ?_
  case yL85 =>
    intro w' hS
    (clear hS)
    go_simp
    try with_reducible rfl
  refine wpAnyH_take (i := 6) (v := ?vL86) rfl (by kernel_rfl) (by kernel_rfl) (by kernel_rfl) (fun _ _ _ h => h) (.inl ⟨by first | kernel_rfl | rfl, ?yL86⟩) hS2 ?_
  case yL86 =>
    intro w' hS
    (clear hS)
    go_simp
    try with_reducible rfl
  refine wpAnyH_take (i := 7) (v := ?vL87) rfl (by kernel_rfl) (by kernel_rfl) (by kernel_rfl) (fun _ _ _ h => h) (.inl ⟨by first | kernel_rfl | rfl, ?yL87⟩) hS2 ?_
  case yL87 =>
    intro w' hS
    (clear hS)
    go_simp
    try with_reducible rfl
  refine wpAnyH_take (i := 8) (v := ?vL88) rfl (by kernel_rfl) (by kernel_rfl) (by kernel_rfl) (fun _ _ _ h => h) (.inl ⟨by first | kernel_rfl | rfl, ?yL88⟩) hS2 ?_
  case yL88 =>
    intro w' hS
    (clear hS)
    go_simp
    try with_reducible rfl
  try simp only [Act.put, List.getElem_toArray, List.getElem_cons_zero, List.getElem_cons_succ, List.setIfInBounds_toArray, List.set_cons_zero, List.set_cons_succ]
  refine wpAnyH_done (by kernel_rfl) ?_ _
  obtain ⟨ba0, ba1, bx1, hb⟩ := hS2
  have s8 := hb.size
  replace g_x1 := g_x1.below hb
  replace hBW := hBW.trans (hb.mono (by omega))
  clear hb
  have k_ba0 := ba0.c0
  have k2_ba0 := ba0.c1
  have k_ba1 := ba1.cell
  have k_bx1 := bx1.cell
  go_wp2_with fail
  clear k_ba0
  clear k2_ba0
  clear k_ba1
  clear k_bx1
  have k_ba0 := ba0.c0
  have k2_ba0 := ba0.c1
  have k_ba1 := ba1.cell
  have k_bx1 := bx1.cell
  have p1 : w.heap.size + 1 < W8.heap.size := ba1.lt
  have p2 : W5.heap.size < W8.heap.size := bx1.lt
  go_region_held3 (fun w' => w'.cell? ⟨w.heap.size + 1, 0, none⟩ = some (.slice a1 zs1.length cap1) ∧ w'.cell? ⟨W5.heap.size, 0, none⟩ = some (.slice a_x1 zs1.length cap_x1) ∧ Below W8.heap.size W8 w')
    (first
      | exact ⟨k_ba1, k_bx1, (Below.refl _ _).drew⟩
      | (go_split_ands
         refine ⟨?_, ?_, ?_⟩
         · exact (hx.cell (p := ⟨w.heap.size + 1, 0, none⟩) (by show w.heap.size + 1 < _; omega)).trans (by assumption)
         · exact (hx.cell (p := ⟨W5.heap.size, 0, none⟩) (by show W5.heap.size < _; omega)).trans (by assumption)
         · exact Below.trans (by assumption) (hx.mono (by omega))))
    (first
      | (go_at_call 19; go_split_ands; have hBW2 : Below W8.heap.size W8 _ := (by assumption); have pW := hBW2.size; refine (toTasks_c _ zs1 _ ((hI1.later hBW).later hBW2) hm1).mono ?_; rintro e W9 ⟨v6, rfl, ho6, hx⟩)
      | (go_at_call 21; go_split_ands; have hBW2 : Below W8.heap.size W8 _ := (by assumption); have pW := hBW2.size; refine (eqTasks_d true _ _ zs1 zs1 _ (g_x1.ints.later hBW2) ho6.ints hk1 (by simp)).mono ?_; rintro e W10 ⟨rfl, hx⟩))
  go_split_ands
  have hb : Below W8.heap.size W8 W10 := (by assumption)
  clear k_ba0
  clear k2_ba0
  clear k_ba1
  clear k_bx1
  have s10 := hb.size
  replace g_x1 := g_x1.below hb
  replace ba0 := ba0.later hb
  replace ba1 := boxed_later ba1 hb
  replace bx1 := boxed_later bx1 hb
  replace hBW := hBW.trans (hb.mono (by omega))
  clear hb hx ho6 p1 p2
  have k_ba0 := ba0.c0
  have k2_ba0 := ba0.c1
  have k_ba1 := ba1.cell
  have k_bx1 := bx1.cell
  go_wp2_with fail
  clear k_ba0
  clear k2_ba0
  clear k_ba1
  clear k_bx1
  go_ret
  exact ⟨rfl, hBW⟩

open Go.ChangeShapes Go.WideShapes Go.ChangeAt Go.Joins Go.ChangeMaps

set_option maxRecDepth 100000 in
theorem canWatch_lifted (os : Os) (started : os.Started) (H : Type) (enc : TypeId × Value → H) :
    ReturnsInHanded {} Try.checked os 4 .any (Rows.fnExactCanWatchSpec.pre6 enc Try.prog Try.f4 Rows.fnExactCanWatchRow.domain false) (Rows.fnExactCanWatchSpec.post enc Try.prog Try.f4 false true false false) := by
  refine returnsInHanded_of_change (C := Try.checked) ownT started (by kernel_rfl) Try.func4
    (ChangeSpec.witness6 (enc := enc) (C := Try.checked) false ⟨#[], #[(.agg #[.int .i64 0, .int .i64 0]), (.agg #[.slice none 0 0])], []⟩ 8 (by kernel_rfl) (by kernel_rfl) (by kernel_rfl) (by kernel_rfl)) ?_
  intro W base args ds gs before hval0 hW hcnd _
  have hval : ∀ (j : Nat) t v, Try.f4.params[j]? = some t → args[j]? = some v → Value.okWide Try.prog W .any base t v := hval0
  have hW' := hW
  obtain ⟨p, q, hA0, hV, rfl, hfz, hnd⟩ := hW
  have hA : DataW.TrodAll enc Try.prog W 0 (fun _ => true) true Try.f4.params.toList args.toList ds p := hA0
  rw [Try.params4] at hA hval
  obtain ⟨v0, vs0, d0, ds0, p0, q0, hargs, rfl, rfl, h0, r0⟩ := trodAll_cons hA
  obtain ⟨v1, vs1, d1, ds1, p1, q1, rfl, rfl, rfl, h1, r1⟩ := trodAll_cons r0
  obtain ⟨rfl, rfl, rfl⟩ := trodAll_nil r1
  obtain rfl : args = #[v0, v1] := by cases args; simp_all
  obtain ⟨x0, y0, rfl, _, rfl, hx0, hy0⟩ := open_ground Try.underlying23 rfl rfl rfl rfl Try.underlying2 (by kernel_rfl) (by kernel_rfl) (hval 0 23 v0 rfl rfl) h0
  obtain ⟨c1, y1, n1, rfl, rfl, rfl, t1⟩ := open_agg1 Try.underlying26 rfl (by kernel_rfl) (by kernel_rfl) (hval 1 26 v1 rfl rfl) h1
  obtain ⟨zs1, hI1, hN1, hl1⟩ := ints_of_trod Try.underlying24 Try.underlying2 (by kernel_rfl) t1
  refine (lawCanWatch_c x0 y0 c1 zs1 W hx0 hy0 hI1 hN1 hl1).mono fun e W' ⟨he, hb⟩ => ?_
  subst he
  exact ⟨_, rfl, law_post rfl laidT (by kernel_rfl) (by kernel_rfl) Try.underlying4 hW' rfl hb⟩

set_option maxHeartbeats 20000000 in
theorem canWatch_closed : joinedFacts Try.prog 4 Try.f4 Rows.fnExactCanWatchSpec Rows.fnExactCanWatchRow = true := by
  unfold joinedFacts
  exact (and_mk (and_mk (and_mk (and_mk (and_mk (and_mk (and_mk (and_mk (and_mk (and_mk (and_mk (and_mk (and_mk (and_mk (and_mk (and_mk (and_mk (and_mk (and_mk (and_mk (and_mk (and_mk (and_mk (and_mk (and_mk (and_mk (and_mk (and_mk (and_mk (and_mk (and_mk (by as_aux_lemma => kernel_rfl) laidT) (by as_aux_lemma => kernel_rfl)) (by as_aux_lemma => kernel_rfl)) (by as_aux_lemma => kernel_rfl)) (by as_aux_lemma => kernel_rfl)) (by as_aux_lemma => kernel_rfl)) (by as_aux_lemma => kernel_rfl)) (by as_aux_lemma => kernel_rfl)) (by as_aux_lemma => kernel_rfl)) (by as_aux_lemma => kernel_rfl)) (by as_aux_lemma => kernel_rfl)) (by as_aux_lemma => kernel_rfl)) (by as_aux_lemma => kernel_rfl)) (by as_aux_lemma => kernel_rfl)) (by as_aux_lemma => kernel_rfl)) (by as_aux_lemma => kernel_rfl)) (by as_aux_lemma => kernel_rfl)) (by as_aux_lemma => kernel_rfl)) (by as_aux_lemma => kernel_rfl)) (by as_aux_lemma => kernel_rfl)) (by as_aux_lemma => kernel_rfl)) (by as_aux_lemma => kernel_rfl)) (by as_aux_lemma => kernel_rfl)) (by as_aux_lemma => kernel_rfl)) mayEnterT) (by rw [liftsFinalT]; rfl)) (by rw [makeT]; rfl)) (by as_aux_lemma => kernel_rfl)) (by as_aux_lemma => kernel_rfl)) (by as_aux_lemma => kernel_rfl)) (by as_aux_lemma => kernel_rfl))

set_option maxHeartbeats 20000000 in
theorem canWatch_holds : Rows.FnExactCanWatchSaid :=
  OpenClaim.holds_of_wide 4 Try.f4 rfl rfl rfl rfl rfl rfl rfl ⟨rfl, rfl, rfl, rfl, rfl⟩ rfl rfl rfl rfl rfl (by as_aux_lemma => kernel_rfl) Try.func4 canWatch_closed
    (of_decide_eq_true (by as_aux_lemma => kernel_rfl)) (by unfold Func.isWrapper; rw [if_neg (of_decide_eq_false (by as_aux_lemma => kernel_rfl))]; exact ⟨rfl, rfl⟩)
    (fun os started H enc _ => canWatch_lifted os started H enc)

end Go.Proofs.Ytgndbifcncklgaa
