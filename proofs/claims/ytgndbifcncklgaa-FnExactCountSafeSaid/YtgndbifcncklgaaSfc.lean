/-
  The model's l09Begin, l09Code, CanWatch, CountSafe.
  Conditions: none but the sizes of lists.
-/
import Derived.Test.YtgndbifcncklgaaSfb
namespace Go.Proofs.Ytgndbifcncklgaa
open Go.RowKit Go.Shelf
attribute [local go_sem] Oper.semAt_some

/-- the code of a ground and tasks -/
def wcC (p r : Int) (zs : List Int) : Int := if gOk p r && tasksOk zs then (if (zs.length : Int) = p then (if 20000 < p * cntL zs then 3 else 0) else 2) else 1
theorem wc_ok {p r : Int} {zs : List Int} (h : wcC p r zs = 0) : ∃ m : Nat, p = (zs.length : Int) ∧ r = m ∧ zs.length ≤ 6 ∧ m < 32768 ∧ gOk p r = true ∧ tasksOk zs = true ∧ (zs.length : Int) * cntL zs ≤ 20000 := by
  unfold wcC at h
  cases hg : gOk p r
  · rw [hg] at h; simp at h
  cases ht : tasksOk zs
  · rw [hg, ht] at h; simp at h
  rw [hg, ht] at h
  simp only [Bool.and_self, if_true] at h
  by_cases hl : (zs.length : Int) = p
  · rw [if_pos hl] at h
    by_cases hb : 20000 < p * cntL zs
    · rw [if_pos hb] at h; simp at h
    · obtain ⟨n, m, e1, e2, h1, h2, h3⟩ := gOk_nat hg
      refine ⟨m, hl.symm, e2, by omega, Nat.lt_of_lt_of_le h3 (gTop_le n h2), rfl, rfl, ?_⟩
      rw [hl]; omega
  · rw [if_neg hl] at h; simp at h
theorem wc_bd (p r : Int) (zs : List Int) : 0 ≤ wcC p r zs ∧ wcC p r zs ≤ 3 := by
  unfold wcC
  split
  · split
    · split <;> omega
    · omega
  · omega
/-- some whole state is safe -/
def CanW (zs : List Int) (r : Nat) : Prop := ∃ at' : Nat, at' < zs.length ∧ SafeW zs r (zs, at')
open Classical in
noncomputable def cwB (p r : Int) (zs : List Int) : Bool := decide (wcC p r zs = 0 ∧ CanW zs r.toNat)
noncomputable def csN (p r : Int) (zs : List Int) : Int := if wcC p r zs = 0 then ((cntT (safB zs r.toNat) : Nat) : Int) else 0
/-- what l09Begin hands back -/
def BeginPost (w : World) (zs : List Int) (r : Nat) (e : Ending) (w' : World) : Prop :=
  ((∃ at' : Nat, at' < zs.length ∧ SafeW zs r (zs, at') ∧ (∀ k, k < at' → ¬ SafeW zs r (zs, k)) ∧ e = .returned (.int .i64 (numW zs (zs, at')))) ∨ ((∀ k, k < zs.length → ¬ SafeW zs r (zs, k)) ∧ e = .returned (.int .i64 (-1)))) ∧ Below w.heap.size w w'

set_option maxRecDepth 100000 in
set_option maxHeartbeats 8000000 in
theorem l09Begin_c (r g : Nat) (c0 : Value) (zs : List Int) (w : World) (hI : Ints w.heap.size w c0 zs) (ht : tasksOk zs = true) (hq2 : (zs.length : Int) * cntL zs ≤ 20000)
    (hL : OwnB 0 w (.slice (some ⟨g, 0, none⟩) (cntW zs) (cntW zs)) (safB zs r)) :
    Calls Try.prog 57 #[.agg #[.int .i64 (zs.length : Int), .int .i64 (r : Int)], .agg #[c0], .slice (some ⟨g, 0, none⟩) (cntW zs) (cntW zs)] w (BeginPost w zs r) := by
  obtain ⟨a, cap, rfl⟩ := hI.shape
  have hp := pos_of ht
  have hcn := cntL_cntN hp
  have hl8 := tasksOk_len ht
  obtain ⟨N, hN⟩ : ∃ N, cntW zs = N := ⟨_, rfl⟩
  have hNi : (zs.length : Int) * cntL zs = (N : Int) := by rw [← hN, hcn]; unfold cntW; simp
  have hN4 : N ≤ 20000 := by omega
  have HN := Lib.hid hN
  have hsl := safB_length zs r
  rw [hN] at hL hsl ⊢
  obtain ⟨p, hpl⟩ : ∃ p, zs.length = p := ⟨_, rfl⟩
  have hfull := isSt_full hp
  have b0 := Box2.new w 30 (.int .i64 (p : Int)) (.int .i64 (r : Int))
  have hB0 : Below w.heap.size w (w.alloc (.cells #[.int .i64 (p : Int), .int .i64 (r : Int)] 30)) := (Below.refl _ w).alloc (Nat.le_refl _) _
  obtain ⟨W1, hW1⟩ : ∃ W1, (w.alloc (.cells #[.int .i64 (p : Int), .int .i64 (r : Int)] 30)).alloc (.cells #[.slice a zs.length cap] 32) = W1 := ⟨_, rfl⟩
  have bG : Box2 W1 w.heap.size 30 (.int .i64 (p : Int)) (.int .i64 (r : Int)) := by rw [← hW1]; exact b0.alloc _
  have bT : Boxed W1 (w.heap.size + 1) 32 (.slice a zs.length cap) := by rw [← hW1]; exact boxed_at (by simp)
  have hB1 : Below w.heap.size w W1 := by rw [← hW1]; exact hB0.alloc (by simp) _
  have Hpl := Lib.hid hpl
  have hIp : Ints w.heap.size w (.slice a p cap) zs := by rw [hpl] at hI; exact hI
  rw [hpl] at bT hW1 hl8 ⊢
  clear b0 hB0 hN hcn hI hNi hq2
  have HL := Lib.hid hL
  have Hsl := Lib.hid hsl
  clear hL hsl
  go_enter Try.func57, Try.ntmps57
  go_wp2
  clear hW1
  go_loopw [7] (fun i wr => ∃ k : Nat, k ≤ p ∧ i = .int .i64 k ∧ (∀ j, j < k → ¬ SafeW zs r (zs, j)) ∧ Box2 wr w.heap.size 30 (.int .i64 (p : Int)) (.int .i64 (r : Int)) ∧ Boxed wr (w.heap.size + 1) 32 (.slice a p cap) ∧ Below w.heap.size w wr) (fun i _ => p - (intOf i).toNat)
  case atStart => exact ⟨0, Nat.zero_le _, rfl, fun j h => by omega, bG, bT, hB1⟩
  case round =>
    obtain ⟨k, hk, rfl, hno, bGr, bTr, hB⟩ := hrel
    clear bG bT hB1
    have c0 := bGr.c0
    have cT := bTr.cell
    have Hno := Lib.hid hno
    clear hno
    by_cases hlt : k < p
    · have hki : (k : Int) < (p : Int) := by omega
      go_wp2_with fail
      refine (l09Number_c _ zs _ zs k _ (hIp.later hB) ht (hIp.later hB) hfull (by omega)).mono ?_
      rintro e w2 ⟨rfl, hb⟩
      have bG2 := bGr.later hb
      have bT2 := boxed_later bTr hb
      have hB2 := hB.trans (hb.mono hB.size)
      obtain ⟨q, g1, g2, g3⟩ := numW_nat (x := (zs, k)) hp hfull (by show k < zs.length; omega)
      have hqN : q < N := by rw [← HN.out]; exact g2
      have hsq : bAt (safB zs r) (q : Int) = true ↔ SafeW zs r (zs, k) := by rw [safB_at g2, g3]
      have hcq : w2.cell? ⟨g, q, none⟩ = some (.bool (bAt (safB zs r) (q : Int))) := ho_cell (HL.out.below9 hB2) Hsl.out hqN
      have hqi : (q : Int) < (N : Int) := by omega
      have Hg1 := Lib.hid g1
      rw [g1]
      clear g1 g2 g3 hb bGr bTr hB c0 cT
      cases hbq : bAt (safB zs r) (q : Int)
      · rw [hbq] at hcq hsq
        have hns : ¬ SafeW zs r (zs, k) := fun h => by have := hsq.2 h; cases this
        clear hsq hbq
        go_wp2_with fail
        go_roundw
        case rel => exact ⟨k + 1, by omega, by simp, fun j hj => (by
          by_cases e : j = k
          · rw [e]; exact hns
          · exact Hno.out j (by omega)), bG2, bT2, hB2⟩
        case measure => simp [intOf]; omega
      · rw [hbq] at hcq hsq
        have hs := hsq.1 rfl
        clear hsq hbq
        go_wp2_with fail
        go_ret
        exact ⟨.inl ⟨k, by omega, hs, Hno.out, by rw [Hg1.out]; rfl⟩, hB2⟩
    · have hkp : k = p := by omega
      go_wp2_with fail
      go_ret
      exact ⟨.inr ⟨fun j hj => Hno.out j (by rw [hkp, ← Hpl.out]; exact hj), rfl⟩, hB⟩

set_option maxRecDepth 100000 in
set_option maxHeartbeats 8000000 in
theorem l09Code_c (p r : Int) (c0 : Value) (zs : List Int) (w : World) (hI : Ints w.heap.size w c0 zs) (hm : zs.length ≤ 1048576) :
    Calls Try.prog 51 #[.agg #[.int .i64 p, .int .i64 r], .agg #[c0]] w fun e w' => e = .returned (.int .i64 (wcC p r zs)) ∧ Below w.heap.size w w' := by
  obtain ⟨a, cap, rfl⟩ := hI.shape
  have hfw : Try.prog.follows Departure.mixedOrders = true := by kernel_rfl
  have b0 := Box2.new w 30 (.int .i64 p) (.int .i64 r)
  have hB0 : Below w.heap.size w (w.alloc (.cells #[.int .i64 p, .int .i64 r] 30)) := (Below.refl _ w).alloc (Nat.le_refl _) _
  obtain ⟨W1, hW1⟩ : ∃ W1, (w.alloc (.cells #[.int .i64 p, .int .i64 r] 30)).alloc (.cells #[.slice a zs.length cap] 32) = W1 := ⟨_, rfl⟩
  have bG : Box2 W1 w.heap.size 30 (.int .i64 p) (.int .i64 r) := by rw [← hW1]; exact b0.alloc _
  have bT : Boxed W1 (w.heap.size + 1) 32 (.slice a zs.length cap) := by rw [← hW1]; exact boxed_at (by simp)
  have hB1 : Below w.heap.size w W1 := by rw [← hW1]; exact hB0.alloc (by simp) _
  clear b0 hB0
  have c0 := bG.c0
  have c1 := bG.c1
  have cT := bT.cell
  cases hg : gOk p r
  · have Hg := Lib.hid hg
    have Hc := Lib.hid (show wcC p r zs = 1 by unfold wcC; rw [hg]; rfl)
    clear hg
    go_enter Try.func51, Try.ntmps51
    go_wp2_with fail
    refine (l09Is_c p r _).mono ?_
    rintro e w2 ⟨rfl, hb⟩
    rw [Hg.out]
    go_wp2
    go_ret
    exact ⟨ret_int (by rw [Hc.out]), hB1.trans (hb.mono hB1.size)⟩
  have Hg := Lib.hid hg
  cases ht : tasksOk zs
  · have Ht := Lib.hid ht
    have Hc := Lib.hid (show wcC p r zs = 1 by unfold wcC; rw [hg, ht]; rfl)
    clear hg ht
    go_enter Try.func51, Try.ntmps51
    go_wp2_with fail
    refine (l09Is_c p r _).mono ?_
    rintro e w2 ⟨rfl, hb⟩
    rw [Hg.out]
    have bT2 := boxed_later bT hb
    have hB2 := hB1.trans (hb.mono hB1.size)
    have cT2 := bT2.cell
    go_wp2_with fail
    refine (l01Is_c _ zs _ (hI.later hB2) (by omega)).mono ?_
    rintro e w3 ⟨rfl, hb3⟩
    rw [Ht.out]
    go_wp2
    go_ret
    exact ⟨ret_int (by rw [Hc.out]), by first | exact hB2.trans (hb3.mono hB2.size) | exact hB2⟩
  have Ht := Lib.hid ht
  have hl8 := tasksOk_len ht
  go_enter Try.func51, Try.ntmps51
  go_wp2_with fail
  refine (l09Is_c p r _).mono ?_
  rintro e w2 ⟨rfl, hb⟩
  rw [Hg.out]
  have bG2 := bG.later hb
  have bT2 := boxed_later bT hb
  have hB2 := hB1.trans (hb.mono hB1.size)
  have cT2 := bT2.cell
  clear c0 c1 cT bG bT hB1 hb hW1
  go_wp2_with fail
  refine (l01Is_c _ zs _ (hI.later hB2) (by omega)).mono ?_
  rintro e w3 ⟨rfl, hb3⟩
  rw [Ht.out]
  have bG3 := bG2.later hb3
  have bT3 := boxed_later bT2 hb3
  have hB3 := hB2.trans (hb3.mono hB2.size)
  clear cT2 bG2 bT2 hB2 hb3
  by_cases hlp : (zs.length : Int) = p
  · have hq : ((zs.length : Int) != p) = false := by simp [hlp]
    have Hlp := Lib.hid hlp
    have Hc := Lib.hid (show wcC p r zs = if 20000 < p * cntL zs then 3 else 0 by unfold wcC; rw [hg, ht, if_pos hlp]; rfl)
    clear hg hlp
    go_wp2_with fail
    refine wp_region_held_drew (S := fun w' => Box2 w' w.heap.size 30 (.int .i64 p) (.int .i64 r) ∧ Boxed w' (w.heap.size + 1) 32 (.slice a zs.length cap) ∧ Below w.heap.size w w') hfw ⟨bG3, bT3, hB3.drew⟩ ?_
    intro hS0
    refine wpAnyH_take (i := 0) (v := ?vn10) rfl (by kernel_rfl) (by kernel_rfl) (by kernel_rfl) (fun _ _ _ h => h) (.inl ⟨by first | kernel_rfl | rfl, ?yn10⟩) hS0 ?_
    case yn10 =>
      intro w' hS
      (have k0 := hS.1.c0; have k1 := hS.2.1.cell; clear hS)
      go_simp
      try with_reducible rfl
    refine wpAnyH_take (i := 2) (v := ?vn12) rfl (by kernel_rfl) (by kernel_rfl) (by kernel_rfl) (fun _ _ _ h => h) (.inl ⟨by first | kernel_rfl | rfl, ?yn12⟩) hS0 ?_
    case yn12 =>
      intro w' hS
      (have k0 := hS.1.c0; have k1 := hS.2.1.cell; clear hS)
      go_simp
      try with_reducible rfl
    refine wpAnyH_take (i := 3) (v := ?vn13) rfl (by kernel_rfl) (by kernel_rfl) (by kernel_rfl) (fun _ _ _ h => h) (.inl ⟨by first | kernel_rfl | rfl, ?yn13⟩) hS0 ?_
    case yn13 =>
      intro w' hS
      (have k0 := hS.1.c0; have k1 := hS.2.1.cell; clear hS)
      go_simp
      try with_reducible rfl
    try simp only [Act.put, List.getElem_toArray, List.getElem_cons_zero, List.getElem_cons_succ, List.setIfInBounds_toArray, List.set_cons_zero, List.set_cons_succ]
    refine wpAnyH_ready (rs := [1]) (by kernel_rfl) (by simp) ?_
    refine AllReadyH.cons rfl (fun K' hK' => ?_) AllReadyH.nil
    rw [if_pos (by first | kernel_rfl | rfl)]
    go_simp
    refine (l01K_c _ _ _ _).mono ?_
    rintro e w4 ⟨rfl, rfl⟩
    have hS2 : Box2 (w3.drew.alloc (.cells #[.slice a zs.length cap] 32)) w.heap.size 30 (.int .i64 p) (.int .i64 r) ∧ Boxed (w3.drew.alloc (.cells #[.slice a zs.length cap] 32)) (w.heap.size + 1) 32 (.slice a zs.length cap) ∧ Below w.heap.size w (w3.drew.alloc (.cells #[.slice a zs.length cap] 32)) := ⟨hS0.1.alloc _, hS0.2.1.alloc _, hS0.2.2.alloc hS0.2.2.size _⟩
    refine hK'.out _ _ hS2 fun hS1 => ?_
    clear hK' hS1 hS0
    obtain ⟨W5, hW5⟩ : ∃ W5, w3.drew.alloc (.cells #[.slice a zs.length cap] 32) = W5 := ⟨_, rfl⟩
    rw [hW5] at hS2 ⊢
    clear hW5
    refine wpAnyH_take (i := 4) (v := (.bool false)) rfl (by kernel_rfl) (by kernel_rfl) (by kernel_rfl) (fun _ _ _ h => h) (.inl ⟨by first | kernel_rfl | rfl, ?yn24⟩) hS2 ?_
    case yn24 =>
      intro w' hS
      (clear hS)
      go_simp
      first | done | (simp; done) | (simp; omega) | omega | (simp [*]; done)
    refine wpAnyH_take (i := 5) (v := ?vn35) rfl (by kernel_rfl) (by kernel_rfl) (by kernel_rfl) (fun _ _ _ h => h) (.inl ⟨by first | kernel_rfl | rfl, ?yn35⟩) hS2 ?_
    case yn35 =>
      intro w' hS
      (clear hS)
      go_simp
      try with_reducible rfl
    try simp only [Act.put, List.getElem_toArray, List.getElem_cons_zero, List.getElem_cons_succ, List.setIfInBounds_toArray, List.set_cons_zero, List.set_cons_succ]
    refine wpAnyH_done (by kernel_rfl) ?_ _
    obtain ⟨bG5, bT5, hB5⟩ := hS2
    have c0 := bG5.c0
    have c1 := bG5.c1
    have cT := bT5.cell
    go_wp2_with fail
    rw [← Hlp.out]
    refine (l09Size_c zs.length r _ zs _ hl8.2 (hI.later hB5) ht).mono ?_
    rintro e w6 ⟨rfl, hb6⟩
    rw [← Hlp.out] at Hc
    have hB6 := hB5.trans (hb6.mono hB5.size)
    obtain ⟨x, hx⟩ : ∃ x, (zs.length : Int) * cntL zs = x := ⟨_, rfl⟩
    rw [hx] at Hc ⊢
    clear hx c0 c1 cT
    by_cases hb : 20000 < x
    · rw [if_pos hb] at Hc
      go_wp2
      go_ret
      exact ⟨ret_int (by rw [Hlp.out] at Hc; rw [Hc.out]), hB6⟩
    · rw [if_neg hb] at Hc
      go_wp2
      go_ret
      exact ⟨ret_int (by rw [Hlp.out] at Hc; rw [Hc.out]), hB6⟩
  · have hq : ((zs.length : Int) != p) = true := by simpa using hlp
    have Hc := Lib.hid (show wcC p r zs = 2 by unfold wcC; rw [hg, ht, if_neg hlp]; rfl)
    clear hg hlp
    go_wp2_with fail
    refine wp_region_held_drew (S := fun w' => Box2 w' w.heap.size 30 (.int .i64 p) (.int .i64 r) ∧ Boxed w' (w.heap.size + 1) 32 (.slice a zs.length cap) ∧ Below w.heap.size w w') hfw ⟨bG3, bT3, hB3.drew⟩ ?_
    intro hS0
    refine wpAnyH_take (i := 0) (v := ?vy10) rfl (by kernel_rfl) (by kernel_rfl) (by kernel_rfl) (fun _ _ _ h => h) (.inl ⟨by first | kernel_rfl | rfl, ?yy10⟩) hS0 ?_
    case yy10 =>
      intro w' hS
      (have k0 := hS.1.c0; have k1 := hS.2.1.cell; clear hS)
      go_simp
      try with_reducible rfl
    refine wpAnyH_take (i := 2) (v := ?vy12) rfl (by kernel_rfl) (by kernel_rfl) (by kernel_rfl) (fun _ _ _ h => h) (.inl ⟨by first | kernel_rfl | rfl, ?yy12⟩) hS0 ?_
    case yy12 =>
      intro w' hS
      (have k0 := hS.1.c0; have k1 := hS.2.1.cell; clear hS)
      go_simp
      try with_reducible rfl
    refine wpAnyH_take (i := 3) (v := ?vy13) rfl (by kernel_rfl) (by kernel_rfl) (by kernel_rfl) (fun _ _ _ h => h) (.inl ⟨by first | kernel_rfl | rfl, ?yy13⟩) hS0 ?_
    case yy13 =>
      intro w' hS
      (have k0 := hS.1.c0; have k1 := hS.2.1.cell; clear hS)
      go_simp
      try with_reducible rfl
    try simp only [Act.put, List.getElem_toArray, List.getElem_cons_zero, List.getElem_cons_succ, List.setIfInBounds_toArray, List.set_cons_zero, List.set_cons_succ]
    refine wpAnyH_ready (rs := [1]) (by kernel_rfl) (by simp) ?_
    refine AllReadyH.cons rfl (fun K' hK' => ?_) AllReadyH.nil
    rw [if_pos (by first | kernel_rfl | rfl)]
    go_simp
    refine (l01K_c _ _ _ _).mono ?_
    rintro e w4 ⟨rfl, rfl⟩
    have hS2 : Box2 (w3.drew.alloc (.cells #[.slice a zs.length cap] 32)) w.heap.size 30 (.int .i64 p) (.int .i64 r) ∧ Boxed (w3.drew.alloc (.cells #[.slice a zs.length cap] 32)) (w.heap.size + 1) 32 (.slice a zs.length cap) ∧ Below w.heap.size w (w3.drew.alloc (.cells #[.slice a zs.length cap] 32)) := ⟨hS0.1.alloc _, hS0.2.1.alloc _, hS0.2.2.alloc hS0.2.2.size _⟩
    refine hK'.out _ _ hS2 fun hS1 => ?_
    clear hK' hS1 hS0
    obtain ⟨W5, hW5⟩ : ∃ W5, w3.drew.alloc (.cells #[.slice a zs.length cap] 32) = W5 := ⟨_, rfl⟩
    rw [hW5] at hS2 ⊢
    clear hW5
    refine wpAnyH_take (i := 4) (v := (.bool true)) rfl (by kernel_rfl) (by kernel_rfl) (by kernel_rfl) (fun _ _ _ h => h) (.inl ⟨by first | kernel_rfl | rfl, ?yy24⟩) hS2 ?_
    case yy24 =>
      intro w' hS
      (clear hS)
      go_simp
      first | done | (simp; done) | (simp; omega) | omega | (simp [*]; done)
    refine wpAnyH_take (i := 5) (v := ?vy35) rfl (by kernel_rfl) (by kernel_rfl) (by kernel_rfl) (fun _ _ _ h => h) (.inl ⟨by first | kernel_rfl | rfl, ?yy35⟩) hS2 ?_
    case yy35 =>
      intro w' hS
      (clear hS)
      go_simp
      try with_reducible rfl
    try simp only [Act.put, List.getElem_toArray, List.getElem_cons_zero, List.getElem_cons_succ, List.setIfInBounds_toArray, List.set_cons_zero, List.set_cons_succ]
    refine wpAnyH_done (by kernel_rfl) ?_ _
    obtain ⟨bG5, bT5, hB5⟩ := hS2
    go_wp2
    go_ret
    exact ⟨ret_int (by rw [Hc.out]), hB5⟩

set_option maxRecDepth 100000 in
set_option maxHeartbeats 8000000 in
open Classical in
theorem s_CanWatch (p r : Int) (c0 : Value) (zs : List Int) (w : World) (_hp : I64 p) (_hr : I64 r) (hI : Ints w.heap.size w c0 zs) (_hN : I64s zs) (hm : zs.length ≤ 1048576) :
    Calls Try.prog 22 #[.agg #[.int .i64 p, .int .i64 r], .agg #[c0]] w fun e w' => e = .returned (.tuple #[.bool (cwB p r zs), .int .i64 (wcC p r zs)]) ∧ Below w.heap.size w w' := by
  obtain ⟨a, cap, rfl⟩ := hI.shape
  have hfw : Try.prog.follows Departure.mixedOrders = true := by kernel_rfl
  have b0 := Box2.new w 30 (.int .i64 p) (.int .i64 r)
  have hB0 : Below w.heap.size w (w.alloc (.cells #[.int .i64 p, .int .i64 r] 30)) := (Below.refl _ w).alloc (Nat.le_refl _) _
  obtain ⟨W1, hW1⟩ : ∃ W1, (w.alloc (.cells #[.int .i64 p, .int .i64 r] 30)).alloc (.cells #[.slice a zs.length cap] 32) = W1 := ⟨_, rfl⟩
  have bG : Box2 W1 w.heap.size 30 (.int .i64 p) (.int .i64 r) := by rw [← hW1]; exact b0.alloc _
  have bT : Boxed W1 (w.heap.size + 1) 32 (.slice a zs.length cap) := by rw [← hW1]; exact boxed_at (by simp)
  have hB1 : Below w.heap.size w W1 := by rw [← hW1]; exact hB0.alloc (by simp) _
  clear b0 hB0
  have c0 := bG.c0
  have c1 := bG.c1
  have cT := bT.cell
  have hbd := wc_bd p r zs
  go_enter Try.func22, Try.ntmps22
  go_wp2_with fail
  refine (l09Code_c p r _ zs _ (hI.later hB1) hm).mono ?_
  rintro e w2 ⟨rfl, hb⟩
  have bG2 := bG.later hb
  have bT2 := boxed_later bT hb
  have hB2 := hB1.trans (hb.mono hB1.size)
  clear hb bG bT hB1 c0 c1 cT hW1
  by_cases hc : wcC p r zs = 0
  · have Hc := Lib.hid hc
    rw [hc]
    obtain ⟨m, e1, e2, h6, hmm, _, ht, hq2⟩ := wc_ok hc
    subst e1
    subst e2
    clear hc hbd
    go_wp2_with fail
    refine wp_region_held_drew (S := fun w' => Box2 w' w.heap.size 30 (.int .i64 (zs.length : Int)) (.int .i64 (m : Int)) ∧ Boxed w' (w.heap.size + 1) 32 (.slice a zs.length cap) ∧ Below w.heap.size w w') hfw ⟨bG2, bT2, hB2.drew⟩ ?_
    intro hS0
    refine wpAnyH_take (i := 0) (v := ?va10) rfl (by kernel_rfl) (by kernel_rfl) (by kernel_rfl) (fun _ _ _ h => h) (.inl ⟨by first | kernel_rfl | rfl, ?ya10⟩) hS0 ?_
    case ya10 =>
      intro w' hS
      (have k0 := hS.1.c0; have k2 := hS.1.c1; have k1 := hS.2.1.cell; clear hS)
      go_simp
      try with_reducible rfl
    refine wpAnyH_take (i := 1) (v := ?va11) rfl (by kernel_rfl) (by kernel_rfl) (by kernel_rfl) (fun _ _ _ h => h) (.inl ⟨by first | kernel_rfl | rfl, ?ya11⟩) hS0 ?_
    case ya11 =>
      intro w' hS
      (have k0 := hS.1.c0; have k2 := hS.1.c1; have k1 := hS.2.1.cell; clear hS)
      go_simp
      try with_reducible rfl
    refine wpAnyH_take (i := 2) (v := ?va12) rfl (by kernel_rfl) (by kernel_rfl) (by kernel_rfl) (fun _ _ _ h => h) (.inl ⟨by first | kernel_rfl | rfl, ?ya12⟩) hS0 ?_
    case ya12 =>
      intro w' hS
      (have k0 := hS.1.c0; have k2 := hS.1.c1; have k1 := hS.2.1.cell; clear hS)
      go_simp
      try with_reducible rfl
    refine wpAnyH_take (i := 3) (v := ?va13) rfl (by kernel_rfl) (by kernel_rfl) (by kernel_rfl) (fun _ _ _ h => h) (.inl ⟨by first | kernel_rfl | rfl, ?ya13⟩) hS0 ?_
    case ya13 =>
      intro w' hS
      (have k0 := hS.1.c0; have k2 := hS.1.c1; have k1 := hS.2.1.cell; clear hS)
      go_simp
      try with_reducible rfl
    try simp only [Act.put, List.getElem_toArray, List.getElem_cons_zero, List.getElem_cons_succ, List.setIfInBounds_toArray, List.set_cons_zero, List.set_cons_succ]
    refine wpAnyH_ready (rs := [4]) (by kernel_rfl) (by simp) ?_
    refine AllReadyH.cons rfl (fun K' hK' => ?_) AllReadyH.nil
    rw [if_pos (by first | kernel_rfl | rfl)]
    go_simp
    refine (l09Safe_c m _ zs _ hmm (hI.later hS0.2.2) ht h6 hq2).mono ?_
    rintro e w3 ⟨g, rfl, hOb, hb3⟩
    have hS3 : Box2 w3 w.heap.size 30 (.int .i64 (zs.length : Int)) (.int .i64 (m : Int)) ∧ Boxed w3 (w.heap.size + 1) 32 (.slice a zs.length cap) ∧ Below w.heap.size w w3 := ⟨hS0.1.later hb3, boxed_later hS0.2.1 hb3, hS0.2.2.trans (hb3.mono hS0.2.2.size)⟩
    refine hK'.out _ _ hS3 fun hS1 => ?_
    clear hK' hS1 hS0 hb3
    refine wpAnyH_ready (rs := [5]) (by kernel_rfl) (by simp) ?_
    refine AllReadyH.cons rfl (fun K' hK' => ?_) AllReadyH.nil
    rw [if_pos (by first | kernel_rfl | rfl)]
    go_simp
    refine (l09Begin_c m g _ zs _ (hI.later hS3.2.2) ht hq2 (hOb.base (Nat.zero_le _))).mono ?_
    rintro e w4 ⟨hres, hb4⟩
    have hS4 : Box2 w4 w.heap.size 30 (.int .i64 (zs.length : Int)) (.int .i64 (m : Int)) ∧ Boxed w4 (w.heap.size + 1) 32 (.slice a zs.length cap) ∧ Below w.heap.size w w4 := ⟨hS3.1.later hb4, boxed_later hS3.2.1 hb4, hS3.2.2.trans (hb4.mono hS3.2.2.size)⟩
    rcases hres with ⟨at', h1, h2, _, rfl⟩ | ⟨hno, rfl⟩
    · have Hb := Lib.hid (show cwB (zs.length : Int) (m : Int) zs = true by unfold cwB; exact decide_eq_true ⟨Hc.out, at', h1, by rw [Int.toNat_natCast]; exact h2⟩)
      have hnn : 0 ≤ numW zs (zs, at') := by
        obtain ⟨q, g1, _, _⟩ := numW_nat (x := (zs, at')) (pos_of ht) (isSt_full (pos_of ht)) h1
        rw [g1]; omega
      obtain ⟨x, hx⟩ : ∃ x, numW zs (zs, at') = x := ⟨_, rfl⟩
      rw [hx] at hnn ⊢
      refine hK'.out _ _ hS4 fun hS1 => ?_
      clear hK' hS1 hS3 hb4 hOb hx
      refine wpAnyH_take (i := 6) (v := (.bool true)) rfl (by kernel_rfl) (by kernel_rfl) (by kernel_rfl) (fun _ _ _ h => h) (.inl ⟨by first | kernel_rfl | rfl, ?ya26⟩) hS4 ?_
      case ya26 =>
        intro w' hS
        (clear hS)
        go_simp
        first | done | (simp; done) | (simp; omega) | omega | (simp [*]; done)
      refine wpAnyH_take (i := 7) (v := ?va37) rfl (by kernel_rfl) (by kernel_rfl) (by kernel_rfl) (fun _ _ _ h => h) (.inl ⟨by first | kernel_rfl | rfl, ?ya37⟩) hS4 ?_
      case ya37 =>
        intro w' hS
        (clear hS)
        go_simp
        try with_reducible rfl
      refine wpAnyH_take (i := 8) (v := ?va38) rfl (by kernel_rfl) (by kernel_rfl) (by kernel_rfl) (fun _ _ _ h => h) (.inl ⟨by first | kernel_rfl | rfl, ?ya38⟩) hS4 ?_
      case ya38 =>
        intro w' hS
        (clear hS)
        go_simp
        try with_reducible rfl
      try simp only [Act.put, List.getElem_toArray, List.getElem_cons_zero, List.getElem_cons_succ, List.setIfInBounds_toArray, List.set_cons_zero, List.set_cons_succ]
      refine wpAnyH_done (by kernel_rfl) ?_ _
      go_wp2
      go_ret2
      exact ⟨by rw [Hb.out, Hc.out]; rfl, hS4.2.2⟩
    · have Hb := Lib.hid (show cwB (zs.length : Int) (m : Int) zs = false by unfold cwB; exact decide_eq_false (fun h => by obtain ⟨_, k, k1, k2⟩ := h; rw [Int.toNat_natCast] at k2; exact hno k k1 k2))
      refine hK'.out _ _ hS4 fun hS1 => ?_
      clear hK' hS1 hS3 hb4 hOb
      refine wpAnyH_take (i := 6) (v := (.bool false)) rfl (by kernel_rfl) (by kernel_rfl) (by kernel_rfl) (fun _ _ _ h => h) (.inl ⟨by first | kernel_rfl | rfl, ?yb26⟩) hS4 ?_
      case yb26 =>
        intro w' hS
        (clear hS)
        go_simp
        first | done | (simp; done) | (simp; omega) | omega | (simp [*]; done)
      refine wpAnyH_take (i := 7) (v := ?vb37) rfl (by kernel_rfl) (by kernel_rfl) (by kernel_rfl) (fun _ _ _ h => h) (.inl ⟨by first | kernel_rfl | rfl, ?yb37⟩) hS4 ?_
      case yb37 =>
        intro w' hS
        (clear hS)
        go_simp
        try with_reducible rfl
      refine wpAnyH_take (i := 8) (v := ?vb38) rfl (by kernel_rfl) (by kernel_rfl) (by kernel_rfl) (fun _ _ _ h => h) (.inl ⟨by first | kernel_rfl | rfl, ?yb38⟩) hS4 ?_
      case yb38 =>
        intro w' hS
        (clear hS)
        go_simp
        try with_reducible rfl
      try simp only [Act.put, List.getElem_toArray, List.getElem_cons_zero, List.getElem_cons_succ, List.setIfInBounds_toArray, List.set_cons_zero, List.set_cons_succ]
      refine wpAnyH_done (by kernel_rfl) ?_ _
      go_wp2
      go_ret2
      exact ⟨by rw [Hb.out, Hc.out]; rfl, hS4.2.2⟩
  · have Hb := Lib.hid (show cwB p r zs = false by unfold cwB; exact decide_eq_false (fun h => hc h.1))
    obtain ⟨x, hx⟩ : ∃ x, wcC p r zs = x := ⟨_, rfl⟩
    have Hx := Lib.hid hx
    rw [hx] at hc hbd ⊢
    have hq : (x != 0) = true := by simpa using hc
    clear hc hx
    go_wp2
    go_ret2
    exact ⟨by rw [Hb.out, Hx.out]; rfl, hB2⟩

theorem cntT_take_succ {bs : List Bool} {k : Nat} (h : k < bs.length) : cntT (bs.take (k + 1)) = cntT (bs.take k) + (if bAt bs (k : Int) then 1 else 0) := by
  have h2 : bs[k] = bAt bs (k : Int) := by have h2 := bAt_nat bs h; rw [List.getElem?_eq_getElem h] at h2; simpa using h2
  have h1 : bs.take (k + 1) = bs.take k ++ [bAt bs (k : Int)] := by rw [← h2]; exact (List.take_append_getElem h).symm
  unfold cntT
  rw [h1, List.countP_append]
  cases bAt bs (k : Int) <;> simp
theorem cntT_le (bs : List Bool) : cntT bs ≤ bs.length := List.countP_le_length ..

set_option maxRecDepth 100000 in
set_option maxHeartbeats 8000000 in
theorem s_CountSafe (p r : Int) (c0 : Value) (zs : List Int) (w : World) (_hp : I64 p) (_hr : I64 r) (hI : Ints w.heap.size w c0 zs) (_hN : I64s zs) (hm : zs.length ≤ 1048576) :
    Calls Try.prog 17 #[.agg #[.int .i64 p, .int .i64 r], .agg #[c0]] w fun e w' => e = .returned (.tuple #[.int .i64 (csN p r zs), .int .i64 (wcC p r zs)]) ∧ Below w.heap.size w w' := by
  obtain ⟨a, cap, rfl⟩ := hI.shape
  have b0 := Box2.new w 30 (.int .i64 p) (.int .i64 r)
  have hB0 : Below w.heap.size w (w.alloc (.cells #[.int .i64 p, .int .i64 r] 30)) := (Below.refl _ w).alloc (Nat.le_refl _) _
  obtain ⟨W1, hW1⟩ : ∃ W1, (w.alloc (.cells #[.int .i64 p, .int .i64 r] 30)).alloc (.cells #[.slice a zs.length cap] 32) = W1 := ⟨_, rfl⟩
  have bG : Box2 W1 w.heap.size 30 (.int .i64 p) (.int .i64 r) := by rw [← hW1]; exact b0.alloc _
  have bT : Boxed W1 (w.heap.size + 1) 32 (.slice a zs.length cap) := by rw [← hW1]; exact boxed_at (by simp)
  have hB1 : Below w.heap.size w W1 := by rw [← hW1]; exact hB0.alloc (by simp) _
  clear b0 hB0
  have c0 := bG.c0
  have c1 := bG.c1
  have cT := bT.cell
  have hbd := wc_bd p r zs
  go_enter Try.func17, Try.ntmps17
  go_wp2_with fail
  refine (l09Code_c p r _ zs _ (hI.later hB1) hm).mono ?_
  rintro e w2 ⟨rfl, hb⟩
  have bG2 := bG.later hb
  have bT2 := boxed_later bT hb
  have hB2 := hB1.trans (hb.mono hB1.size)
  clear hb bG bT hB1 c0 c1 cT hW1
  by_cases hc : wcC p r zs = 0
  · have Hc := Lib.hid hc
    rw [hc]
    obtain ⟨m, e1, e2, h6, hmm, _, ht, hq2⟩ := wc_ok hc
    subst e1
    subst e2
    have Hr := Lib.hid (show csN (zs.length : Int) (m : Int) zs = ((cntT (safB zs m) : Nat) : Int) by unfold csN; rw [if_pos hc, Int.toNat_natCast])
    have hcn := cntL_cntN (pos_of ht)
    clear hc hbd
    have c0 := bG2.c0
    have c1 := bG2.c1
    have cT := bT2.cell
    go_wp2_with fail
    refine (l09Safe_c m _ zs _ hmm (hI.later hB2) ht h6 hq2).mono ?_
    rintro e w3 ⟨g, rfl, hOb, hb3⟩
    have hB3 := hB2.trans (hb3.mono hB2.size)
    obtain ⟨N, hN⟩ : ∃ N, cntW zs = N := ⟨_, rfl⟩
    have hNi : (zs.length : Int) * cntL zs = (N : Int) := by rw [← hN, hcn]; unfold cntW; simp
    have hN4 : N ≤ 20000 := by omega
    have hsl := safB_length zs m
    rw [hN] at hOb hsl ⊢
    have hcle := cntT_le (safB zs m)
    obtain ⟨bs, hbs⟩ : ∃ bs, safB zs m = bs := ⟨_, rfl⟩
    rw [hbs] at hOb hsl Hr hcle
    clear hN hNi hcn hb3 bG2 bT2 hB2 c0 c1 cT hbs hq2
    have Hsl := Lib.hid hsl
    clear hcle
    clear hsl
    go_wp2
    go_loopw [8, 21] (fun c i wr => ∃ k : Nat, k ≤ N ∧ i = .int .i64 k ∧ c = .int .i64 ((cntT (bs.take k) : Nat) : Int) ∧ OwnB w2.heap.size wr (.slice (some ⟨g, 0, none⟩) N N) bs ∧ Below w.heap.size w wr) (fun _ i _ => N - (intOf i).toNat)
    case atStart => exact ⟨0, Nat.zero_le _, rfl, by simp [cntT], hOb, hB3⟩
    case round =>
      obtain ⟨k, hk, rfl, rfl, ho, hB⟩ := hrel
      by_cases hlt : k < N
      · have hki : (k : Int) < (N : Int) := by omega
        have hk4 : (k : Int) < 20000 := by omega
        have hck := ho_cell ho Hsl.out hlt
        have Hs := Lib.hid (cntT_take_succ (bs := bs) (k := k) (by rw [Hsl.out]; exact hlt))
        have hle : cntT (bs.take k) ≤ 20000 := Nat.le_trans (cntT_le _) (by rw [List.length_take]; omega)
        obtain ⟨x, hx⟩ : ∃ x, cntT (bs.take k) = x := ⟨_, rfl⟩
        rw [hx] at hle Hs ⊢
        clear hx
        cases hb : bAt bs (k : Int)
        · rw [hb] at hck Hs
          clear hb
          go_wp2
          go_roundw
          case rel => exact ⟨k + 1, by omega, by simp, by rw [Hs.out]; simp, ho, hB⟩
          case measure => simp [intOf]; omega
        · rw [hb] at hck Hs
          clear hb
          go_wp2
          go_roundw
          case rel => exact ⟨k + 1, by omega, by simp, by rw [Hs.out]; simp, ho, hB⟩
          case measure => simp [intOf]; omega
      · obtain rfl : k = N := by omega
        have Ht := Lib.hid (show bs.take k = bs from List.take_of_length_le (by rw [Hsl.out]; exact Nat.le_refl _))
        obtain ⟨x, hx⟩ : ∃ x, cntT (bs.take k) = x := ⟨_, rfl⟩
        have Hx := Lib.hid (show cntT bs = x by rw [← hx, Ht.out])
        rw [hx]
        clear hx
        go_wp2
        go_ret2
        exact ⟨by rw [Hr.out, Hx.out, Hc.out]; rfl, hB⟩
  · have Hb := Lib.hid (show csN p r zs = 0 by unfold csN; rw [if_neg hc])
    obtain ⟨x, hx⟩ : ∃ x, wcC p r zs = x := ⟨_, rfl⟩
    have Hx := Lib.hid hx
    rw [hx] at hc hbd ⊢
    have hq : (x != 0) = true := by simpa using hc
    clear hc hx
    go_wp2
    go_ret2
    exact ⟨by rw [Hb.out, Hx.out]; rfl, hB2⟩

end Go.Proofs.Ytgndbifcncklgaa
