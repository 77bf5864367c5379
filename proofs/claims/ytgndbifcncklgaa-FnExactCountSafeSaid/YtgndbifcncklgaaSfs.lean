/-
  The program's watcher of a ground and tasks, and whether some route serves them: watcherOf, canWatch.
  Conditions: a ground and tasks, as many as places.
-/
import Derived.Test.YtgndbifcncklgaaSfr
import Derived.Test.YtgndbifcncklgaaSfc
import Derived.Test.YtgndbifcncklgaaTop
import Derived.Test.YtgndbifcncklgaaCount
namespace Go.Proofs.Ytgndbifcncklgaa
open Go.RowKit Go.Shelf
attribute [local go_sem] Oper.semAt_some

theorem alloc_map_new (W : World) : (W.alloc (.map #[] 0)).heap[W.heap.size]? = some (.map #[] 0) := World.alloc_heap_new W _

set_option maxRecDepth 100000 in
set_option maxHeartbeats 8000000 in
theorem watcherOf_c (p r : Nat) (c0 : Value) (zs : List Int) (w : World) (hI : Ints w.heap.size w c0 zs) (ht : tasksOk zs = true) :
    Calls Try.prog 54 #[.agg #[.int .i64 (p : Int), .int .i64 (r : Int)], .agg #[c0]] w fun e w' =>
      ∃ b bo mk m9, e = .returned (.pointer (some ⟨b, 0, none⟩)) ∧ Wat w' b p r bo mk ∧ Outl w' bo zs m9 ∧ w'.heap[mk]? = some (.map #[] 0) ∧ w.heap.size ≤ mk ∧ Below w.heap.size w w' := by
  obtain ⟨a, cap, rfl⟩ := hI.shape
  have hmm := @run_makeMap Try.prog
  have hfw : Try.prog.follows Departure.mixedOrders = true := by kernel_rfl
  have b0 := Box2.new w 30 (.int .i64 (p : Int)) (.int .i64 (r : Int))
  have hB0 : Below w.heap.size w (w.alloc (.cells #[.int .i64 (p : Int), .int .i64 (r : Int)] 30)) := (Below.refl _ w).alloc (Nat.le_refl _) _
  obtain ⟨W1, hW1⟩ : ∃ W1, (w.alloc (.cells #[.int .i64 (p : Int), .int .i64 (r : Int)] 30)).alloc (.cells #[.slice a zs.length cap] 32) = W1 := ⟨_, rfl⟩
  have bG : Box2 W1 w.heap.size 30 (.int .i64 (p : Int)) (.int .i64 (r : Int)) := by rw [← hW1]; exact b0.alloc _
  have bT : Boxed W1 (w.heap.size + 1) 32 (.slice a zs.length cap) := by rw [← hW1]; exact boxed_at (by simp)
  have hB1 : Below w.heap.size w W1 := by rw [← hW1]; exact hB0.alloc (by simp) _
  clear b0 hB0
  go_enter Try.func54, Try.ntmps54
  go_wp2_with fail
  refine wp_region_held_drew (S := fun w' => Box2 w' w.heap.size 30 (.int .i64 (p : Int)) (.int .i64 (r : Int)) ∧ Boxed w' (w.heap.size + 1) 32 (.slice a zs.length cap) ∧ Below w.heap.size w w') hfw ⟨bG, bT, hB1.drew⟩ ?_
  intro hS0
  clear hW1 bG bT hB1
  obtain ⟨Wd, hWd⟩ : ∃ Wd, W1.drew = Wd := ⟨_, rfl⟩
  rw [hWd] at hS0 ⊢
  clear hWd
  refine wpAnyH_take (i := 0) (v := ?va10) rfl (by kernel_rfl) (by kernel_rfl) (by kernel_rfl) (fun _ _ _ h => h) (.inl ⟨by first | kernel_rfl | rfl, ?ya10⟩) hS0 ?_
  case ya10 =>
    intro w' hS
    (have k0 := hS.1.c0; have k1 := hS.1.c1; have k2 := hS.2.1.cell; clear hS)
    go_simp
    try with_reducible rfl
  refine wpAnyH_take (i := 1) (v := ?va11) rfl (by kernel_rfl) (by kernel_rfl) (by kernel_rfl) (fun _ _ _ h => h) (.inl ⟨by first | kernel_rfl | rfl, ?ya11⟩) hS0 ?_
  case ya11 =>
    intro w' hS
    (have k0 := hS.1.c0; have k1 := hS.1.c1; have k2 := hS.2.1.cell; clear hS)
    go_simp
    try with_reducible rfl
  try simp only [Act.put, List.getElem_toArray, List.getElem_cons_zero, List.getElem_cons_succ, List.setIfInBounds_toArray, List.set_cons_zero, List.set_cons_succ]
  refine wpAnyH_ready (rs := [2, 3]) (by kernel_rfl) (by simp) ?_
  refine AllReadyH.cons rfl (fun K' hK' => ?_) (AllReadyH.cons rfl (fun K' hK' => ?_) AllReadyH.nil)
  all_goals rw [if_pos (by first | kernel_rfl | rfl)]
  · go_simp
    refine (outlookOf_c _ zs _ (hI.later hS0.2.2) ht).mono ?_
    rintro e w2 ⟨bo, m9, rfl, hO, hm9, hbo, hbm, hb⟩
    have hb2 := hS0.2.2.trans (hb.mono hS0.2.2.size)
    have hs2 := hb2.size
    refine hK'.out _ _ ⟨hS0.1.later hb, boxed_later hS0.2.1 hb, hb2⟩ fun hS1 => ?_
    try simp only [id]
    refine wpAnyH_ready (rs := [3]) (by kernel_rfl) (by simp) ?_
    refine AllReadyH.cons rfl (fun K' hK' => ?_) AllReadyH.nil
    rw [if_pos (by first | kernel_rfl | rfl)]
    go_simp
    refine hK'.out _ _ ⟨hS1.1.alloc _, hS1.2.1.alloc _, hb2.alloc hs2 _⟩ fun hS2 => ?_
    try simp only [id]
    refine wpAnyH_take (i := 4) (v := ?va24) rfl (by kernel_rfl) (by kernel_rfl) (by kernel_rfl) (fun _ _ _ h => h) (.inl ⟨by first | kernel_rfl | rfl, ?ya24⟩) hS2 ?_
    case ya24 =>
      intro w' hS
      (clear hS)
      go_simp
      try with_reducible rfl
    try simp only [Act.put, List.getElem_toArray, List.getElem_cons_zero, List.getElem_cons_succ, List.setIfInBounds_toArray, List.set_cons_zero, List.set_cons_succ]
    refine wpAnyH_ready (rs := [5]) (by kernel_rfl) (by simp) ?_
    refine AllReadyH.cons rfl (fun K' hK' => ?_) AllReadyH.nil
    rw [if_pos (by first | kernel_rfl | rfl)]
    go_simp
    have hbm2 : Below (w2.alloc (.map #[] 0)).heap.size (w2.alloc (.map #[] 0)) ((w2.alloc (.map #[] 0)).alloc (.cells #[.int .i64 (p : Int), .int .i64 (r : Int), .pointer (some ⟨bo, 0, none⟩), .map (some w2.heap.size)] 105)) := (Below.refl _ _).alloc (Nat.le_refl _) _
    have hbm1 : Below w2.heap.size w2 (w2.alloc (.map #[] 0)) := (Below.refl _ _).alloc (Nat.le_refl _) _
    have hW3 : Wat ((w2.alloc (.map #[] 0)).alloc (.cells #[.int .i64 (p : Int), .int .i64 (r : Int), .pointer (some ⟨bo, 0, none⟩), .map (some w2.heap.size)] 105)) (w2.alloc (.map #[] 0)).heap.size p r bo w2.heap.size := World.alloc_heap_new _ _
    have hO3 := (hO.later hbm1).later hbm2
    have hm3 := (hbm2.block _ (by simp)).trans (alloc_map_new w2)
    have hb4 := (hb2.alloc hs2 (.map #[] 0)).trans (hbm2.mono (by simp; omega))
    refine hK'.out _ _ ⟨(hS1.1.alloc _).alloc _, (hS1.2.1.alloc _).alloc _, hb4⟩ fun hS3 => ?_
    try simp only [id]
    refine wpAnyH_take (i := 6) (v := ?va36) rfl (by kernel_rfl) (by kernel_rfl) (by kernel_rfl) (fun _ _ _ h => h) (.inl ⟨by first | kernel_rfl | rfl, ?ya36⟩) hS3 ?_
    case ya36 =>
      intro w' hS
      (clear hS)
      go_simp
      try with_reducible rfl
    try simp only [Act.put, List.getElem_toArray, List.getElem_cons_zero, List.getElem_cons_succ, List.setIfInBounds_toArray, List.set_cons_zero, List.set_cons_succ]
    refine wpAnyH_done (by kernel_rfl) ?_ _
    rw [World.size_alloc] at hW3
    go_wp2
    go_ret
    exact ⟨_, _, _, _, rfl, hW3, hO3, hm3, hs2, hb4⟩
  · go_simp
    have hs0 := hS0.2.2.size
    have hb1 := hS0.2.2.alloc hs0 (.map #[] 0)
    refine hK'.out _ _ ⟨hS0.1.alloc _, hS0.2.1.alloc _, hb1⟩ fun hS1 => ?_
    try simp only [id]
    refine wpAnyH_ready (rs := [2]) (by kernel_rfl) (by simp) ?_
    refine AllReadyH.cons rfl (fun K' hK' => ?_) AllReadyH.nil
    rw [if_pos (by first | kernel_rfl | rfl)]
    go_simp
    refine (outlookOf_c _ zs _ (hI.later hb1) ht).mono ?_
    rintro e w2 ⟨bo, m9, rfl, hO, hm9, hbo, hbm, hb⟩
    have hb2 := hb1.trans (hb.mono hb1.size)
    have hs2 := hb2.size
    have hm1 := (hb.block Wd.heap.size (by simp)).trans (alloc_map_new Wd)
    refine hK'.out _ _ ⟨hS1.1.later hb, boxed_later hS1.2.1 hb, hb2⟩ fun hS2 => ?_
    try simp only [id]
    refine wpAnyH_take (i := 4) (v := ?va44) rfl (by kernel_rfl) (by kernel_rfl) (by kernel_rfl) (fun _ _ _ h => h) (.inl ⟨by first | kernel_rfl | rfl, ?ya44⟩) hS2 ?_
    case ya44 =>
      intro w' hS
      (clear hS)
      go_simp
      try with_reducible rfl
    try simp only [Act.put, List.getElem_toArray, List.getElem_cons_zero, List.getElem_cons_succ, List.setIfInBounds_toArray, List.set_cons_zero, List.set_cons_succ]
    refine wpAnyH_ready (rs := [5]) (by kernel_rfl) (by simp) ?_
    refine AllReadyH.cons rfl (fun K' hK' => ?_) AllReadyH.nil
    rw [if_pos (by first | kernel_rfl | rfl)]
    go_simp
    have hbm2 : Below w2.heap.size w2 (w2.alloc (.cells #[.int .i64 (p : Int), .int .i64 (r : Int), .pointer (some ⟨bo, 0, none⟩), .map (some Wd.heap.size)] 105)) := (Below.refl _ _).alloc (Nat.le_refl _) _
    have hW3 : Wat (w2.alloc (.cells #[.int .i64 (p : Int), .int .i64 (r : Int), .pointer (some ⟨bo, 0, none⟩), .map (some Wd.heap.size)] 105)) w2.heap.size p r bo Wd.heap.size := World.alloc_heap_new _ _
    have hO3 := hO.later hbm2
    have hm3 := (hbm2.block _ (Array.getElem?_eq_some_iff.1 hm1).1).trans hm1
    have hb4 := hb2.trans (hbm2.mono hs2)
    refine hK'.out _ _ ⟨hS2.1.alloc _, hS2.2.1.alloc _, hb4⟩ fun hS3 => ?_
    try simp only [id]
    refine wpAnyH_take (i := 6) (v := ?va56) rfl (by kernel_rfl) (by kernel_rfl) (by kernel_rfl) (fun _ _ _ h => h) (.inl ⟨by first | kernel_rfl | rfl, ?ya56⟩) hS3 ?_
    case ya56 =>
      intro w' hS
      (clear hS)
      go_simp
      try with_reducible rfl
    try simp only [Act.put, List.getElem_toArray, List.getElem_cons_zero, List.getElem_cons_succ, List.setIfInBounds_toArray, List.set_cons_zero, List.set_cons_succ]
    refine wpAnyH_done (by kernel_rfl) ?_ _
    go_wp2
    go_ret
    exact ⟨_, _, _, _, rfl, hW3, hO3, hm3, hs0, hb4⟩

theorem unkW_bd {zs : List Int} (ht : tasksOk zs = true) (h : (zs.length : Int) * cntL zs ≤ 20000) (K : KnW) : unkW zs K ≤ 20000 := by
  have h1 : unkW zs K ≤ cntN zs * zs.length := by
    unfold unkW
    refine Nat.le_trans List.countP_le_length ?_
    unfold allW
    simp only [List.length_flatMap, List.length_map, List.length_range]
    rw [List.map_const', List.sum_replicate_nat, allSt_length]
    exact Nat.le_refl _
  have h2 := cntL_cntN (pos_of ht)
  rw [h2] at h
  have h3 : ((cntN zs * zs.length : Nat) : Int) ≤ 20000 := by rw [Int.natCast_mul, Int.mul_comm]; exact h
  omega

set_option maxRecDepth 100000 in
set_option maxHeartbeats 8000000 in
open Classical in
theorem canWatch_c (r : Nat) (c0 : Value) (zs : List Int) (w : World) (hI : Ints w.heap.size w c0 zs) (ht : tasksOk zs = true) (hn6 : zs.length ≤ 6) (hr : r < 32768) (hcap : (zs.length : Int) * cntL zs ≤ 20000) :
    Calls Try.prog 58 #[.agg #[.int .i64 (zs.length : Int), .int .i64 (r : Int)], .agg #[c0]] w fun e w' => e = .returned (.bool (decide (CanW zs r))) ∧ Below w.heap.size w w' := by
  obtain ⟨a, cap, rfl⟩ := hI.shape
  have b0 := Box2.new w 30 (.int .i64 (zs.length : Int)) (.int .i64 (r : Int))
  have hB0 : Below w.heap.size w (w.alloc (.cells #[.int .i64 (zs.length : Int), .int .i64 (r : Int)] 30)) := (Below.refl _ w).alloc (Nat.le_refl _) _
  obtain ⟨W1, hW1⟩ : ∃ W1, (w.alloc (.cells #[.int .i64 (zs.length : Int), .int .i64 (r : Int)] 30)).alloc (.cells #[.slice a zs.length cap] 32) = W1 := ⟨_, rfl⟩
  have bG : Box2 W1 w.heap.size 30 (.int .i64 (zs.length : Int)) (.int .i64 (r : Int)) := by rw [← hW1]; exact b0.alloc _
  have bT : Boxed W1 (w.heap.size + 1) 32 (.slice a zs.length cap) := by rw [← hW1]; exact boxed_at (by simp)
  have hB1 : Below w.heap.size w W1 := by rw [← hW1]; exact hB0.alloc (by simp) _
  clear b0 hB0
  have c0 := bG.c0
  have c1 := bG.c1
  have cT := bT.cell
  go_enter Try.func58, Try.ntmps58
  go_wp2_with fail
  refine (watcherOf_c zs.length r _ zs _ (hI.later hB1) ht).mono ?_
  rintro e w2 ⟨b, bo, mk, m9, rfl, hW, hO, hM, hmk, hb⟩
  have hs1 := hB1.size
  have hB2 := hB1.trans (hb.mono hs1)
  clear c0 c1 cT bG bT hW1
  go_wp2_with fail
  refine (firstStart_c w2 b bo mk m9 0 zs r (fun _ => none) ht hn6 hr (by have := unkW_bd ht hcap (fun _ => none); omega) hW hO (KMapW.new hM) (KGoodW.none_ zs r)).mono ?_
  rintro e w3 ⟨K, Bc, _, _, _, hgr, hres⟩
  have hB3 := hB2.grown hgr hB2.size (fun j e => by cases e; omega)
  clear hW hO hM hgr hb
  rcases hres with ⟨p, hp, hs, _, rfl⟩ | ⟨hno, rfl⟩
  · have Hd := Lib.hid (show decide (CanW zs r) = true from decide_eq_true ⟨p, hp, hs⟩)
    clear hs hp
    unfold wV wC
    go_wp2
    go_ret
    exact ⟨by rw [Hd.out]; rfl, hB3.alloc hB3.size _⟩
  · have Hd := Lib.hid (show decide (CanW zs r) = false from decide_eq_false (fun ⟨p, hp, hs⟩ => hno p hp hs))
    clear hno
    unfold wV wC
    go_wp2
    go_ret
    exact ⟨by rw [Hd.out]; rfl, hB3.alloc hB3.size _⟩

set_option maxRecDepth 100000 in
set_option maxHeartbeats 8000000 in
theorem checkWatched_c (p r : Int) (c0 : Value) (zs : List Int) (w : World) (hI : Ints w.heap.size w c0 zs) (hN : I64s zs) (hm : zs.length ≤ 1048576) :
    Calls Try.prog 53 #[.agg #[.int .i64 p, .int .i64 r], .agg #[c0]] w fun e w' => e = .returned (.int .i64 (wcC p r zs)) ∧ Below w.heap.size w w' := by
  obtain ⟨a, cap, rfl⟩ := hI.shape
  have b0 := Box2.new w 30 (.int .i64 p) (.int .i64 r)
  have hB0 : Below w.heap.size w (w.alloc (.cells #[.int .i64 p, .int .i64 r] 30)) := (Below.refl _ w).alloc (Nat.le_refl _) _
  obtain ⟨W1, hW1⟩ : ∃ W1, (w.alloc (.cells #[.int .i64 p, .int .i64 r] 30)).alloc (.cells #[.slice a zs.length cap] 32) = W1 := ⟨_, rfl⟩
  have bG : Box2 W1 w.heap.size 30 (.int .i64 p) (.int .i64 r) := by rw [← hW1]; exact b0.alloc _
  have bT : Boxed W1 (w.heap.size + 1) 32 (.slice a zs.length cap) := by rw [← hW1]; exact boxed_at (by simp)
  have hB1 : Below w.heap.size w W1 := by rw [← hW1]; exact hB0.alloc (by simp) _
  clear b0 hB0
  have c0 := bG.c0
  have c1 := bG.c1
  have cT := bT.cell
  cases hg : gOk p r
  · have Hg := Lib.hid hg
    have Hc := Lib.hid (show wcC p r zs = 1 by unfold wcC; rw [hg]; rfl)
    clear hg
    go_enter Try.func53, Try.ntmps53
    go_wp2_with fail
    refine (isGround_c p r _).mono ?_
    rintro e w2 ⟨rfl, hb⟩
    rw [Hg.out]
    go_wp2
    go_ret
    exact ⟨ret_int (by rw [Hc.out]), hB1.trans (hb.mono hB1.size)⟩
  have Hg := Lib.hid hg
  cases ht : tasksOk zs
  · have Ht := Lib.hid ht
    have Hc := Lib.hid (show wcC p r zs = 1 by unfold wcC; rw [hg, ht]; rfl)
    clear hg ht
    go_enter Try.func53, Try.ntmps53
    go_wp2_with fail
    refine (isGround_c p r _).mono ?_
    rintro e w2 ⟨rfl, hb⟩
    rw [Hg.out]
    have bT2 := boxed_later bT hb
    have hB2 := hB1.trans (hb.mono hB1.size)
    have cT2 := bT2.cell
    go_wp2_with fail
    refine (isTasks_c _ zs _ (hI.later hB2) (by omega)).mono ?_
    rintro e w3 ⟨rfl, hb3⟩
    rw [Ht.out]
    go_wp2
    go_ret
    exact ⟨ret_int (by rw [Hc.out]), hB2.trans (hb3.mono hB2.size)⟩
  have Ht := Lib.hid ht
  have hl8 := tasksOk_len ht
  go_enter Try.func53, Try.ntmps53
  go_wp2_with fail
  refine (isGround_c p r _).mono ?_
  rintro e w2 ⟨rfl, hb⟩
  rw [Hg.out]
  have bG2 := bG.later hb
  have bT2 := boxed_later bT hb
  have hB2 := hB1.trans (hb.mono hB1.size)
  have cT2 := bT2.cell
  clear c0 c1 cT bG bT hB1 hb hW1
  go_wp2_with fail
  refine (isTasks_c _ zs _ (hI.later hB2) (by omega)).mono ?_
  rintro e w3 ⟨rfl, hb3⟩
  rw [Ht.out]
  have bG3 := bG2.later hb3
  have bT3 := boxed_later bT2 hb3
  have hB3 := hB2.trans (hb3.mono hB2.size)
  clear cT2 bG2 bT2 hB2 hb3
  have c0 := bG3.c0
  have c1 := bG3.c1
  have cT := bT3.cell
  by_cases hlp : (zs.length : Int) = p
  · have hq : ((zs.length : Int) != p) = false := by simp [hlp]
    have Hlp := Lib.hid hlp
    have Hc := Lib.hid (show wcC p r zs = if 20000 < p * cntL zs then 3 else 0 by unfold wcC; rw [hg, ht, if_pos hlp]; rfl)
    clear hg hlp
    go_wp2_with fail
    refine (i_CountStates _ zs _ (hI.later hB3) hN hm).mono ?_
    rintro e w4 ⟨rfl, hb4⟩
    have bG4 := bG3.later hb4
    have hB4 := hB3.trans (hb4.mono hB3.size)
    have d0 := bG4.c0
    have hcC : countC zs = 0 := by unfold countC; rw [Ht.out]; rfl
    have hcR : countR zs = cntL zs := by unfold countR; rw [Ht.out]; rfl
    rw [hcC, hcR]
    have hbd := cntP_top ht (Nat.le_refl zs.length)
    have hc0 : 0 ≤ cntL zs ∧ cntL zs ≤ 1000000000000000 := by
      have h2 := cntL_cntN (pos_of ht)
      refine ⟨by omega, ?_⟩
      unfold cntL
      omega
    obtain ⟨c, hcl⟩ : ∃ c, cntL zs = c := ⟨_, rfl⟩
    rw [hcl] at Hc hc0 ⊢
    clear hcC hcR hbd hcl c0 c1 cT bG3 bT3 hB3 hb4
    have hlp2 : p = (zs.length : Int) := Hlp.out.symm
    have hm0 : 0 ≤ p * c := Int.mul_nonneg (by omega) hc0.1
    have hm1 : p * c ≤ 8 * c := Int.mul_le_mul_of_nonneg_right (by omega) hc0.1
    obtain ⟨x, hx⟩ : ∃ x, p * c = x := ⟨_, rfl⟩
    have hw : IntKind.i64.wrap (p * c) = x := by rw [IntKind.wrap_i64]; omega
    rw [hx] at Hc hm0 hm1
    have Hx := Lib.hid hx
    clear hx hlp2 hm0 hm1 hc0
    by_cases hb : 20000 < x
    · rw [if_pos hb] at Hc
      go_wp2
      go_ret
      exact ⟨ret_int (by rw [Hc.out]), hB4⟩
    · rw [if_neg hb] at Hc
      go_wp2
      go_ret
      exact ⟨ret_int (by rw [Hc.out]), hB4⟩
  · have hq : ((zs.length : Int) != p) = true := by simpa using hlp
    have Hc := Lib.hid (show wcC p r zs = 2 by unfold wcC; rw [hg, ht, if_neg hlp]; rfl)
    clear hg hlp
    go_wp2
    go_ret
    exact ⟨ret_int (by rw [Hc.out]), hB3⟩

set_option maxRecDepth 100000 in
set_option maxHeartbeats 8000000 in
open Classical in
theorem i_CanWatch (p r : Int) (c0 : Value) (zs : List Int) (w : World) (_hp : I64 p) (_hr : I64 r) (hI : Ints w.heap.size w c0 zs) (hN : I64s zs) (hm : zs.length ≤ 1048576) :
    Calls Try.prog 23 #[.agg #[.int .i64 p, .int .i64 r], .agg #[c0]] w fun e w' => e = .returned (.tuple #[.bool (cwB p r zs), .int .i64 (wcC p r zs)]) ∧ Below w.heap.size w w' := by
  obtain ⟨a, cap, rfl⟩ := hI.shape
  have b0 := Box2.new w 30 (.int .i64 p) (.int .i64 r)
  have hB0 : Below w.heap.size w (w.alloc (.cells #[.int .i64 p, .int .i64 r] 30)) := (Below.refl _ w).alloc (Nat.le_refl _) _
  obtain ⟨W1, hW1⟩ : ∃ W1, (w.alloc (.cells #[.int .i64 p, .int .i64 r] 30)).alloc (.cells #[.slice a zs.length cap] 32) = W1 := ⟨_, rfl⟩
  have bG : Box2 W1 w.heap.size 30 (.int .i64 p) (.int .i64 r) := by rw [← hW1]; exact b0.alloc _
  have bT : Boxed W1 (w.heap.size + 1) 32 (.slice a zs.length cap) := by rw [← hW1]; exact boxed_at (by simp)
  have hB1 : Below w.heap.size w W1 := by rw [← hW1]; exact hB0.alloc (by simp) _
  clear b0 hB0
  have c0 := bG.c0
  have c1 := bG.c1
  have cT := bT.cell
  by_cases hc : wcC p r zs = 0
  · obtain ⟨m, rfl, rfl, hn6, hm5, _, ht, hcap⟩ := wc_ok hc
    have Hr := Lib.hid (show cwB (zs.length : Int) (m : Int) zs = decide (CanW zs m) by unfold cwB; simp [hc])
    have Hc := Lib.hid hc
    clear hc
    go_enter Try.func23, Try.ntmps23
    go_wp2_with fail
    refine (checkWatched_c _ _ _ zs _ (hI.later hB1) hN hm).mono ?_
    rintro e w1 ⟨he, hb⟩
    rw [Hc.out] at he
    subst he
    have hB2 := hB1.trans (hb.mono hB1.size)
    have bG2 := bG.later hb
    have bT2 := boxed_later bT hb
    have d0 := bG2.c0
    have d1 := bG2.c1
    have dT := bT2.cell
    clear c0 c1 cT hW1
    go_wp2_with fail
    refine (canWatch_c m _ zs _ (hI.later hB2) ht hn6 hm5 hcap).mono ?_
    rintro e w2 ⟨rfl, hb2⟩
    obtain ⟨d, hd⟩ : ∃ d, decide (CanW zs m) = d := ⟨_, rfl⟩
    rw [hd] at Hr ⊢
    clear hd d0 d1 dT
    go_wp2
    go_ret2
    exact ⟨by rw [Hr.out, Hc.out]; rfl, hB2.trans (hb2.mono hB2.size)⟩
  · have Hr := Lib.hid (show cwB p r zs = false by unfold cwB; simp [hc])
    have hq : (wcC p r zs != 0) = true := by simpa using hc
    obtain ⟨x, hx⟩ : ∃ x, wcC p r zs = x := ⟨_, rfl⟩
    have Hx := Lib.hid hx
    rw [hx] at hq
    clear hx hc
    go_enter Try.func23, Try.ntmps23
    go_wp2_with fail
    refine (checkWatched_c _ _ _ zs _ (hI.later hB1) hN hm).mono ?_
    rintro e w1 ⟨rfl, hb⟩
    rw [Hx.out]
    clear c0 c1 cT hW1
    go_wp2
    go_ret2
    exact ⟨by rw [Hr.out, Hx.out]; rfl, hB1.trans (hb.mono hB1.size)⟩

end Go.Proofs.Ytgndbifcncklgaa
