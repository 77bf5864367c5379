/-
  The model's list of safe states.
  Conditions: a ground and tasks, as many as places, with at most 20000 states.
-/
import Derived.Test.YtgndbifcncklgaaSfa
import Derived.Test.YtgndbifcncklgaaCsl
namespace Go.Proofs.Ytgndbifcncklgaa
open Go.RowKit Go.Shelf
attribute [local go_sem] Oper.semAt_some

/-- the list while it is filled -/
def iwT (zs : List Int) (n k : Nat) : List Bool := (List.range n).map fun i => if i < k then iwB zs i else false
theorem iwT_length (zs : List Int) (n k : Nat) : (iwT zs n k).length = n := by simp [iwT]
theorem iwT_zero (zs : List Int) (n : Nat) : iwT zs n 0 = List.replicate n false := List.ext_getElem (by simp [iwT]) fun i h1 h2 => by simp [iwT]
theorem iwT_all (zs : List Int) (n : Nat) : iwT zs n n = (List.range n).map (iwB zs) := List.ext_getElem (by simp [iwT]) fun i h1 h2 => by
  have : i < n := by simpa [iwT] using h1
  simp [iwT, this]
theorem iwT_succ (zs : List Int) {n k : Nat} : iwT zs n (k + 1) = (iwT zs n k).set k (iwB zs k) := List.ext_getElem (by simp [iwT]) fun i h1 h2 => by
  simp only [iwT, List.getElem_map, List.getElem_range, List.getElem_set]
  by_cases e : k = i
  · subst e; simp
  · rw [if_neg e]
    by_cases h : i < k
    · rw [if_pos h, if_pos (by omega)]
    · rw [if_neg h, if_neg (by omega)]
theorem iwT_at {zs : List Int} {n k : Nat} (h : k < n) : (iwT zs n k)[k]? = some false := by simp [iwT, h]
theorem eq_ite {x y : Int} {W : World} : (if x = y then Result.ok (Next.value (Value.bool true)) W else Result.ok (Next.value (Value.bool false)) W) = Result.ok (Next.value (Value.bool (x == y))) W := ite_ok

set_option maxRecDepth 100000 in
set_option maxHeartbeats 32000000 in
theorem l09Safe_c (r : Nat) (c0 : Value) (zs : List Int) (w : World) (hr : r < 32768) (hI : Ints w.heap.size w c0 zs) (ht : tasksOk zs = true) (hn6 : zs.length ≤ 6) (hq2 : (zs.length : Int) * cntL zs ≤ 20000) :
    Calls Try.prog 52 #[.agg #[.int .i64 (zs.length : Int), .int .i64 (r : Int)], .agg #[c0]] w fun e w' => ∃ b, e = .returned (.slice (some ⟨b, 0, none⟩) (cntW zs) (cntW zs)) ∧ OwnB w.heap.size w' (.slice (some ⟨b, 0, none⟩) (cntW zs) (cntW zs)) (safB zs r) ∧ Below w.heap.size w w' := by
  obtain ⟨a, cap, rfl⟩ := hI.shape
  obtain ⟨i0, hi, hz0, hz1, hz2⟩ := info_partsB Try.infoB
  have hp := pos_of ht
  have hcn := cntL_cntN hp
  have hl8 := tasksOk_len ht
  have hpos : 0 < zs.length := by omega
  have hfw : Try.prog.follows Departure.mixedOrders = true := by kernel_rfl
  obtain ⟨N, hN⟩ : ∃ N, cntW zs = N := ⟨_, rfl⟩
  have hNi : (zs.length : Int) * cntL zs = (N : Int) := by rw [← hN, hcn]; unfold cntW; simp
  have hN4 : N ≤ 20000 := by omega
  have HN := Lib.hid hN
  obtain ⟨p, hpl⟩ : ∃ p, zs.length = p := ⟨_, rfl⟩
  have Hpl := Lib.hid hpl
  have b0 := Box2.new w 30 (.int .i64 (p : Int)) (.int .i64 (r : Int))
  have hB0 : Below w.heap.size w (w.alloc (.cells #[.int .i64 (p : Int), .int .i64 (r : Int)] 30)) := (Below.refl _ w).alloc (Nat.le_refl _) _
  obtain ⟨W1, hW1⟩ : ∃ W1, (w.alloc (.cells #[.int .i64 (p : Int), .int .i64 (r : Int)] 30)).alloc (.cells #[.slice a zs.length cap] 32) = W1 := ⟨_, rfl⟩
  have bG : Box2 W1 w.heap.size 30 (.int .i64 (p : Int)) (.int .i64 (r : Int)) := by rw [← hW1]; exact b0.alloc _
  have bT : Boxed W1 (w.heap.size + 1) 32 (.slice a zs.length cap) := by rw [← hW1]; exact boxed_at (by simp)
  have hB1 : Below w.heap.size w W1 := by rw [← hW1]; exact hB0.alloc (by simp) _
  clear b0 hB0 hN hcn
  rw [hpl] at hn6 hpos hl8 hNi hq2 bT hW1 ⊢
  have c0 := bG.c0
  have c1 := bG.c1
  have cT := bT.cell
  go_enter Try.func52, Try.ntmps52
  go_wp2_with fail
  refine (l09Size_c p r _ zs _ (by omega) (by have h := hI.later hB1; rw [hpl] at h; exact h) ht).mono ?_
  rintro e w2 ⟨rfl, hb⟩
  rw [hNi]
  have bG2 := bG.later hb
  have bT2 := boxed_later bT hb
  have hB2 := hB1.trans (hb.mono hB1.size)
  clear hb bG bT hB1 c0 c1 cT hW1
  obtain ⟨W3, hrun, hoC0, hgr⟩ := run_make_full (P := Try.prog) w2 (w.heap.size + 2) 56 4 i0 (.bool false) 1 Try.underlying56 hi hz0 hz1 .i64 .i64 N (by rw [hz2]; omega) (by unfold maxLen; omega) bT2.lt
  obtain ⟨g, hg⟩ : ∃ g, w2.heap.size = g := ⟨_, rfl⟩
  rw [hg] at hrun hoC0
  have hob := ownB_made (by rw [Nat.mul_one] at hoC0; exact hoC0)
  rw [← iwT_zero zs N] at hob
  have bG3 := bG2.kept hgr (by simp)
  have bT3 := bT2.kept hgr (by simp)
  have hB3 := hB2.grown hgr hB2.size (fun j e => by cases e)
  have hgl : w.heap.size + 1 < g := by rw [← hg]; exact bT2.lt
  clear hoC0 hgr bG2 bT2 hB2 hg
  go_wp2
  clear hrun
  have hIp : Ints w.heap.size w (.slice a p cap) zs := by rw [hpl] at hI; exact hI
  clear hI
  go_loopw [22] (fun i wr => ∃ k : Nat, k ≤ N ∧ i = .int .i64 k ∧ OwnB (w.heap.size + 2) wr (.slice (some ⟨g, 0, none⟩) N N) (iwT zs N k) ∧ Box2 wr w.heap.size 30 (.int .i64 (p : Int)) (.int .i64 (r : Int)) ∧ Boxed wr (w.heap.size + 1) 32 (.slice a p cap) ∧ Below w.heap.size w wr) (fun i _ => N - (intOf i).toNat)
  case atStart => exact ⟨0, Nat.zero_le _, rfl, hob, bG3, bT3, hB3⟩
  case round =>
    obtain ⟨k, hk, rfl, ho, bG, bT, hB⟩ := hrel
    clear hob bG3 bT3 hB3
    by_cases hlt : k < N
    · have hkN : k < cntW zs := by rw [HN.out]; exact hlt
      have hki : (k : Int) < (N : Int) := by omega
      have cT := bT.cell
      have hk4 : (k : Int) < 20000 := by omega
      go_wp2_with fail
      refine (l09State_c _ zs k _ (hIp.later hB) ht hkN).mono ?_
      rintro e w4 ⟨v, rfl, hv, hb⟩
      have ho1 := ho.below9 hb
      have bG1 := bG.later hb
      have bT1 := boxed_later bT hb
      have hB1 := hB.trans (hb.mono hB.size)
      have hs1 := hb.size
      have hst := ofW_st hp k
      have hat := ofW_at (zs := zs) (by omega) k
      have Hiw := Lib.hid (show iwB zs k = (nth (ofW zs k).1 (ofW zs k).2 == nth zs (ofW zs k).2) from rfl)
      obtain ⟨st, at', hx⟩ : ∃ st at', ofW zs k = (st, at') := ⟨_, _, rfl⟩
      rw [hx] at hv hst hat Hiw
      simp only at hv hst hat Hiw
      rw [hx]
      simp only
      obtain ⟨gv, cv, rfl, hgv, hgv2⟩ := hv.shape (by rw [hst.1]; omega)
      have hsl := hst.1
      rw [hsl, hpl] at hv ⊢
      have cS := hv.cellAt (j := at') (by rw [hsl]; exact hat)
      have hatp : at' < p := by omega
      obtain ⟨bz, oz, hae, hbz, hcz⟩ := (hIp.below hB1).at_ (k := at') (by omega)
      subst hae
      have cZ := hcz at' (by omega)
      have cT1 := bT1.cell
      have hati : (at' : Int) < (p : Int) := by omega
      have hgw : g < w4.heap.size := (ho1.blk g rfl).2
      have hgr : g < wr.heap.size := (ho.blk g rfl).2
      have hf := ho1.frozen k
      have hcG := ho1.cellAt (iwT_at hlt)
      have Hs := Lib.hid (iwT_succ zs (n := N) (k := k))
      replace cS : w4.drew.cell? ⟨gv, at', none⟩ = some (.int .i64 (nth st at')) := cS
      replace cZ : w4.drew.cell? ⟨bz, oz + at', none⟩ = some (.int .i64 (nth zs at')) := cZ
      replace cT1 : w4.drew.cell? ⟨w.heap.size + 1, 0, none⟩ = some (.slice (some ⟨bz, oz, none⟩) p cap) := cT1
      replace hf : w4.drew.frozen? ⟨g, k, none⟩ = false := hf
      replace hcG : w4.drew.cell? ⟨g, k, none⟩ = some (.bool false) := hcG
      have HO := Lib.hid ho1
      have HG := Lib.hid bG1
      have HT := Lib.hid bT1
      have HB := Lib.hid hB1
      clear hcz hst hsl hx hv ho bG bT hB cT hb ho1 bG1 bT1 hB1 hat
      go_wp2_with fail
      refine wp_region_held_drew (S := fun w' => w'.cell? ⟨gv, at', none⟩ = some (.int .i64 (nth st at')) ∧ w'.cell? ⟨bz, oz + at', none⟩ = some (.int .i64 (nth zs at')) ∧ w'.cell? ⟨w.heap.size + 1, 0, none⟩ = some (.slice (some ⟨bz, oz, none⟩) p cap)) hfw ⟨cS, cZ, cT1⟩ ?_
      intro hS0
      refine wpAnyH_take (i := 0) (v := ?va10) rfl (by kernel_rfl) (by kernel_rfl) (by kernel_rfl) (fun _ _ _ h => h) (.inl ⟨by first | kernel_rfl | rfl, ?ya10⟩) hS0 ?_
      case ya10 =>
        intro w' hS
        (obtain ⟨q0, q1, qx⟩ := hS)
        go_simp
        try with_reducible rfl
      refine wpAnyH_take (i := 1) (v := ?va11) rfl (by kernel_rfl) (by kernel_rfl) (by kernel_rfl) (fun _ _ _ h => h) (.inl ⟨by first | kernel_rfl | rfl, ?ya11⟩) hS0 ?_
      case ya11 =>
        intro w' hS
        (obtain ⟨q0, q1, qx⟩ := hS)
        go_simp
        try with_reducible rfl
      refine wpAnyH_take (i := 2) (v := ?va12) rfl (by kernel_rfl) (by kernel_rfl) (by kernel_rfl) (fun _ _ _ h => h) (.inl ⟨by first | kernel_rfl | rfl, ?ya12⟩) hS0 ?_
      case ya12 =>
        intro w' hS
        (obtain ⟨q0, q1, qx⟩ := hS)
        go_simp
        try with_reducible rfl
      refine wpAnyH_take (i := 3) (v := ?va13) rfl (by kernel_rfl) (by kernel_rfl) (by kernel_rfl) (fun _ _ _ h => h) (.inl ⟨by first | kernel_rfl | rfl, ?ya13⟩) hS0 ?_
      case ya13 =>
        intro w' hS
        (obtain ⟨q0, q1, qx⟩ := hS)
        go_simp
        try with_reducible rfl
      refine wpAnyH_take (i := 4) (v := ?va14) rfl (by kernel_rfl) (by kernel_rfl) (by kernel_rfl) (fun _ _ _ h => h) (.inl ⟨by first | kernel_rfl | rfl, ?ya14⟩) hS0 ?_
      case ya14 =>
        intro w' hS
        (obtain ⟨q0, q1, qx⟩ := hS)
        go_simp
        try with_reducible rfl
      refine wpAnyH_take (i := 5) (v := ?va15) rfl (by kernel_rfl) (by kernel_rfl) (by kernel_rfl) (fun _ _ _ h => h) (.inl ⟨by first | kernel_rfl | rfl, ?ya15⟩) hS0 ?_
      case ya15 =>
        intro w' hS
        (obtain ⟨q0, q1, qx⟩ := hS)
        go_simp
        try with_reducible rfl
      refine wpAnyH_take (i := 6) (v := ?va16) rfl (by kernel_rfl) (by kernel_rfl) (by kernel_rfl) (fun _ _ _ h => h) (.inl ⟨by first | kernel_rfl | rfl, ?ya16⟩) hS0 ?_
      case ya16 =>
        intro w' hS
        (obtain ⟨q0, q1, qx⟩ := hS)
        go_simp
        try with_reducible rfl
      refine wpAnyH_take (i := 7) (v := ?va17) rfl (by kernel_rfl) (by kernel_rfl) (by kernel_rfl) (fun _ _ _ h => h) (.inl ⟨by first | kernel_rfl | rfl, ?ya17⟩) hS0 ?_
      case ya17 =>
        intro w' hS
        (obtain ⟨q0, q1, qx⟩ := hS)
        go_simp
        try with_reducible rfl
      refine wpAnyH_take (i := 8) (v := ?va18) rfl (by kernel_rfl) (by kernel_rfl) (by kernel_rfl) (fun _ _ _ h => h) (.inl ⟨by first | kernel_rfl | rfl, ?ya18⟩) hS0 ?_
      case ya18 =>
        intro w' hS
        (obtain ⟨q0, q1, qx⟩ := hS)
        go_simp
        try with_reducible rfl
      refine wpAnyH_take (i := 9) (v := ?va19) rfl (by kernel_rfl) (by kernel_rfl) (by kernel_rfl) (fun _ _ _ h => h) (.inl ⟨by first | kernel_rfl | rfl, ?ya19⟩) hS0 ?_
      case ya19 =>
        intro w' hS
        (obtain ⟨q0, q1, qx⟩ := hS)
        go_simp
        try with_reducible rfl
      refine wpAnyH_take (i := 10) (v := ?va110) rfl (by kernel_rfl) (by kernel_rfl) (by kernel_rfl) (fun _ _ _ h => h) (.inl ⟨by first | kernel_rfl | rfl, ?ya110⟩) hS0 ?_
      case ya110 =>
        intro w' hS
        (obtain ⟨q0, q1, qx⟩ := hS)
        go_simp
        try with_reducible rfl
      try simp only [Act.put, List.getElem_toArray, List.getElem_cons_zero, List.getElem_cons_succ, List.setIfInBounds_toArray, List.set_cons_zero, List.set_cons_succ]
      refine wpAnyH_take (i := 11) (v := (.bool (iwB zs k))) rfl (by kernel_rfl) (by kernel_rfl) (by kernel_rfl) (fun _ _ _ h => h) (.inl ⟨by first | kernel_rfl | rfl, ?ya211⟩) hS0 ?_
      case ya211 =>
        intro w' hS
        (clear hS; rw [Hiw.out])
        go_simp
        first | done | (simp; done) | (simp; omega) | omega | (simp [*]; done)
      refine wpAnyH_take (i := 12) (v := ?va312) rfl (by kernel_rfl) (by kernel_rfl) (by kernel_rfl) (fun _ _ _ h => h) (.inl ⟨by first | kernel_rfl | rfl, ?ya312⟩) hS0 ?_
      case ya312 =>
        intro w' hS
        (clear hS)
        go_simp
        try with_reducible rfl
      try simp only [Act.put, List.getElem_toArray, List.getElem_cons_zero, List.getElem_cons_succ, List.setIfInBounds_toArray, List.set_cons_zero, List.set_cons_succ]
      refine wpAnyH_ready (rs := [13]) (by kernel_rfl) (by simp) ?_
      refine AllReadyH.cons rfl (fun K' hK' => ?_) AllReadyH.nil
      rw [if_pos (by first | kernel_rfl | rfl)]
      go_simp
      refine hK'.out _ _ ⟨(World.cell?_setCell_far _ _ _ _ (show g ≠ gv by omega)).trans cS, (World.cell?_setCell_far _ _ _ _ (show g ≠ bz by omega)).trans cZ, (World.cell?_setCell_far _ _ _ _ (show g ≠ w.heap.size + 1 by omega)).trans cT1⟩ fun hS1 => ?_
      refine wpAnyH_done (by kernel_rfl) ?_ _
      clear hS1 hS0 hK' cS cZ cT1 hf hcG
      go_wp2
      go_roundw
      case rel => exact ⟨k + 1, by omega, by simp, by rw [Hs.out]; exact (HO.out.stored k (iwB zs k) : OwnB (w.heap.size + 2) (w4.setCell ⟨g, k, none⟩ (.bool (iwB zs k))) _ _), (HG.out.kept (grownBy_setC w4 g k (.bool (iwB zs k))) (by simp; omega) : Box2 (w4.setCell ⟨g, k, none⟩ (.bool (iwB zs k))) _ _ _ _), (boxed_setFar HT.out (by omega) : Boxed (w4.setCell ⟨g, k, none⟩ (.bool (iwB zs k))) _ _ _), ((HB.out.setCell (p := ⟨g, k, none⟩) (by show w.heap.size ≤ g; omega) (.bool (iwB zs k))).drew : Below w.heap.size w (w4.setCell ⟨g, k, none⟩ (.bool (iwB zs k))).drew)⟩
      case measure => simp [intOf]; omega
    · have hkN : k = N := by omega
      rw [hkN, iwT_all] at ho
      have hL : LInvW zs r ((List.range N).map (iwB zs)) := by have := linvW_start r hp (show 0 < zs.length by omega); rwa [HN.out] at this
      obtain ⟨bs0, hbs0⟩ : ∃ bs, (List.range N).map (iwB zs) = bs := ⟨_, rfl⟩
      rw [hbs0] at ho hL
      clear hbs0 hkN
      go_wp2_with fail
      go_loopw [9] (fun mo wr => ∃ (bs : List Bool) (more : Bool), mo = .bool more ∧ OwnB (w.heap.size + 2) wr (.slice (some ⟨g, 0, none⟩) N N) bs ∧ LInvW zs r bs ∧ (more = false → ∀ q : Nat, q < N → bs[q]? = some true → ∃ j, GoW zs r bs (ofW zs q) j) ∧ Box2 wr w.heap.size 30 (.int .i64 (p : Int)) (.int .i64 (r : Int)) ∧ Boxed wr (w.heap.size + 1) 32 (.slice a p cap) ∧ Below w.heap.size w wr)
        (fun mo wr => 2 * trueN wr g N + (match mo with | .bool true => 1 | _ => 0))
      case atStart => exact ⟨bs0, true, rfl, ho, hL, (fun e => by cases e), bG, bT, hB⟩
      case round =>
        clear ho hL bG bT hB
        obtain ⟨bsA, more, rfl, hoA, hLA, hcA, bGA, bTA, hBA⟩ := hrel
        cases more
        · have hd := hLA.done hp (fun q hq => hcA rfl q (by rw [← HN.out]; exact hq))
          subst hd
          go_wp2_with fail
          go_ret
          exact ⟨g, by rw [HN.out]; rfl, by rw [HN.out]; exact hoA.base (by omega), hBA⟩
        · go_wp2_with fail
          go_loopw [9, 48] (fun mo i wr => ∃ (bs : List Bool) (more : Bool) (n : Nat), n ≤ N ∧ i = .int .i64 n ∧ mo = .bool more ∧ OwnB (w.heap.size + 2) wr (.slice (some ⟨g, 0, none⟩) N N) bs ∧ LInvW zs r bs ∧ (more = false → bs = bsA ∧ ∀ k : Nat, k < n → bs[k]? = some true → ∃ j, GoW zs r bs (ofW zs k) j) ∧ (more = true → cntT bs < cntT bsA) ∧ Box2 wr w.heap.size 30 (.int .i64 (p : Int)) (.int .i64 (r : Int)) ∧ Boxed wr (w.heap.size + 1) 32 (.slice a p cap) ∧ Below w.heap.size w wr)
            (fun _ i _ => N - (intOf i).toNat)
          case atStart => exact ⟨bsA, false, 0, Nat.zero_le _, rfl, rfl, hoA, hLA, fun _ => ⟨rfl, by simp⟩, (fun e => by cases e), bGA, bTA, hBA⟩
          case round =>
            obtain ⟨bs, more, n, hn, rfl, rfl, hoB, hLB, hcB, hmB, bGB, bTB, hBB⟩ := hrel
            have hlenB : bs.length = N := by rw [hLB.len, HN.out]
            have hlenA : bsA.length = N := by rw [hLA.len, HN.out]
            by_cases hlt : n < N
            · have hcell := ho_cell hoB hlenB hlt
              have hni : (n : Int) < (N : Int) := by omega
              have hn4 : (n : Int) < 20000 := by omega
              have hnW : n < cntW zs := by rw [HN.out]; exact hlt
              cases hbn : bAt bs n
              · rw [hbn] at hcell
                have hnb : bs[n]? ≠ some true := by rw [bAt_nat bs (by omega), hbn]; simp
                go_wp2_with fail
                go_roundw
                case rel => exact ⟨bs, more, n + 1, by omega, by simp, rfl, hoB, hLB, (fun e => ⟨(hcB e).1, fun k hk h => by by_cases e2 : k = n; exact absurd (e2 ▸ h) hnb; exact (hcB e).2 k (by omega) h⟩), hmB, bGB, bTB, hBB⟩
                case measure => simp [intOf]; omega
              · rw [hbn] at hcell
                have hbt : bs[n]? = some true := by rw [bAt_nat bs (by omega), hbn]
                have HcB := Lib.hid hcB
                have HmB := Lib.hid hmB
                have HLB := Lib.hid hLB
                have HlenB := Lib.hid hlenB
                have HlenA := Lib.hid hlenA
                have Hbt := Lib.hid hbt
                have cT := bTB.cell
                clear hcB hmB hLB hlenB hlenA hbt hbn
                go_wp2_with fail
                refine (l09State_c _ zs n _ (hIp.later hBB) ht hnW).mono ?_
                rintro e w4 ⟨v, rfl, hv, hb⟩
                have ho1 := hoB.below9 hb
                have bG1 := bGB.later hb
                have bT1 := boxed_later bTB hb
                have hB1 := hBB.trans (hb.mono hBB.size)
                have hst := ofW_st hp n
                have hat := ofW_at (zs := zs) (by omega) n
                obtain ⟨st, at', hx⟩ : ∃ st at', ofW zs n = (st, at') := ⟨_, _, rfl⟩
                rw [hx] at hv hst hat
                simp only at hv hst hat
                rw [hx]
                simp only
                have Hx := Lib.hid hx
                have Hst := Lib.hid hst
                obtain ⟨av, cv, rfl⟩ := hv.ints.shape
                have hsl := hst.1
                rw [hsl, hpl] at hv ⊢
                replace hv := hv.base (show 0 ≤ wr.heap.size by omega)
                have hatp : at' < p := by omega
                have Hsl := Lib.hid hsl
                have hv2 : Ints w4.heap.size w4 (.slice av p cv) st := hv.ints
                clear hx hst hsl hat hb hoB bGB bTB hBB cT hv hcell
                go_wp2_with fail
                go_loopw [13, 14] (fun gd to wi => ∃ (j : Nat) (gb : Bool), j ≤ p ∧ to = .int .i64 j ∧ gd = .bool gb ∧ (gb = true → ∃ j', GoW zs r bs (st, at') j') ∧ (gb = false → ∀ j', j' < j → ¬ GoW zs r bs (st, at') j') ∧ OwnB (w.heap.size + 2) wi (.slice (some ⟨g, 0, none⟩) N N) bs ∧ Ints wi.heap.size wi (.slice av p cv) st ∧ Box2 wi w.heap.size 30 (.int .i64 (p : Int)) (.int .i64 (r : Int)) ∧ Boxed wi (w.heap.size + 1) 32 (.slice a p cap) ∧ Below w.heap.size w wi) (fun _ to _ => p - (intOf to).toNat)
                case atStart => exact ⟨0, false, Nat.zero_le _, rfl, rfl, (fun e => by cases e), fun _ j' h => by omega, ho1, hv2, bG1, bT1, hB1⟩
                case round =>
                  obtain ⟨j, gb, hj, rfl, rfl, hgy, hgn, hoi, hvi, bGi, bTi, hBi⟩ := hrel
                  clear ho1 hv2 bG1 bT1 hB1
                  have c0 := bGi.c0
                  have c1 := bGi.c1
                  have cT := bTi.cell
                  by_cases hstop : gb = true ∨ j = p
                  · cases gb
                    · have hjp : j = p := by simpa using hstop
                      have hno : ∀ j', ¬ GoW zs r bs (ofW zs n) j' := fun j' hg2 => (by
                        rw [Hx.out] at hg2
                        have h1 := hg2.1.1
                        exact hgn rfl j' (by rw [hjp, ← Hpl.out]; exact h1) hg2)
                      have hLn : LInvW zs r (bs.set n false) := HLB.out.set hp hno
                      have hct := cntT_set Hbt.out
                      have hcA2 : cntT bs ≤ cntT bsA := by
                        cases more
                        · rw [(HcB.out rfl).1]; exact Nat.le_refl _
                        · exact Nat.le_of_lt (HmB.out rfl)
                      have hfz := hoi.frozen n
                      have hcn2 : wr.cell? ⟨g, n, none⟩ = some (.bool (bAt bs n)) := ho_cell hoi HlenB.out (by omega)
                      have hgl2 := (hoi.blk g rfl).1
                      have Hct := Lib.hid hct
                      have HcA2 := Lib.hid hcA2
                      have hji : ¬ (j : Int) < (p : Int) := by omega
                      clear hgy hgn hno hct hcA2 hstop hvi
                      go_wp2_with fail
                      go_roundw
                      case rel => exact ⟨bs.set n false, true, n + 1, by omega, by simp, rfl, hoi.stored n false, hLn, (fun e => by cases e), (fun _ => Nat.lt_of_lt_of_le Hct.out HcA2.out), bGi.kept (grownBy_setC _ _ _ _) (by simp; omega), boxed_setFar bTi (by omega), hBi.setCell (p := ⟨g, n, none⟩) (by show w.heap.size ≤ g; omega) _⟩
                      case measure => simp [intOf]; omega
                    · have Hsuc := Lib.hid (hgy rfl)
                      clear hgy hgn hstop hvi
                      by_cases hji : (j : Int) < (p : Int)
                      · go_wp2_with fail
                        go_roundw
                        case rel => exact ⟨bs, more, n + 1, by omega, by simp, rfl, hoi, HLB.out, (fun e => ⟨(HcB.out e).1, fun k hk h => by by_cases e2 : k = n; exact e2 ▸ (by rw [Hx.out]; exact Hsuc.out); exact (HcB.out e).2 k (by omega) h⟩), HmB.out, bGi, bTi, hBi⟩
                        case measure => simp [intOf]; omega
                      · go_wp2_with fail
                        go_roundw
                        case rel => exact ⟨bs, more, n + 1, by omega, by simp, rfl, hoi, HLB.out, (fun e => ⟨(HcB.out e).1, fun k hk h => by by_cases e2 : k = n; exact e2 ▸ (by rw [Hx.out]; exact Hsuc.out); exact (HcB.out e).2 k (by omega) h⟩), HmB.out, bGi, bTi, hBi⟩
                        case measure => simp [intOf]; omega
                  · have hgb : gb = false := by cases gb <;> simp at hstop ⊢
                    subst hgb
                    have hjp : j < p := by simp at hstop; omega
                    have hji : (j : Int) < (p : Int) := by omega
                    have Hgn := Lib.hid (hgn rfl)
                    have hnext : ¬ GoW zs r bs (st, at') j → ∀ j', j' < j + 1 → ¬ GoW zs r bs (st, at') j' := fun h j' hj' => by
                      by_cases e : j' = j
                      · rw [e]; exact h
                      · exact Hgn.out j' (by omega)
                    have Hnext := Lib.hid hnext
                    clear hgy hgn hstop hnext
                    go_wp2_with fail
                    refine (l09Near_c p r at' j _ hr (by omega) (by omega)).mono ?_
                    rintro e w5 ⟨rfl, hb5⟩
                    have ho5 := hoi.below9 hb5
                    have bG5 := bGi.later hb5
                    have bT5 := boxed_later bTi hb5
                    have hB5 := hBi.trans (hb5.mono hBi.size)
                    have hv5 := hvi.later hb5
                    clear c0 c1 cT hoi bGi bTi hBi hvi hb5
                    cases hnr : nearB r at' j
                    · have Hno := Lib.hid (Hnext.out (fun h => by have h2 := h.1.2.1; simp only at h2; rw [hnr] at h2; cases h2))
                      clear hnr
                      go_wp2_with fail
                      go_roundw
                      case rel => exact ⟨j + 1, false, by omega, by simp, rfl, (fun e => by cases e), (fun _ => Hno.out), ho5, hv5, bG5, bT5, hB5⟩
                      case measure => simp [intOf]; omega
                    · have Hnr := Lib.hid hnr
                      have cT5 := bT5.cell
                      clear hnr
                      go_wp2_with fail
                      refine (l09Move_c _ zs _ st j _ (hIp.later hB5) ht hv5 Hst.out (by omega)).mono ?_
                      rintro e w6 ⟨rfl, hb6⟩
                      have ho6 := ho5.below9 hb6
                      have bG6 := bG5.later hb6
                      have bT6 := boxed_later bT5 hb6
                      have hB6 := hB5.trans (hb6.mono hB5.size)
                      have hv6 := hv5.later hb6
                      clear cT5 ho5 bG5 bT5 hB5 hv5 hb6
                      by_cases hop : Opn st (j : Int)
                      · have hs2 := Hst.out.step hop
                        obtain ⟨q', g1, g2, g3⟩ := numW_nat (x := (stepL zs st (j : Int), j)) hp hs2 (by show j < zs.length; omega)
                        rw [mvN_yes hop, g1]
                        have hq' : q' < N := by rw [← HN.out]; exact g2
                        have hqi : (q' : Int) < (N : Int) := by omega
                        have hcq := ho_cell ho6 HlenB.out hq'
                        have Hgo : Hid (GoW zs r bs (st, at') j ↔ bAt bs (q' : Int) = true) := Lib.hid ⟨fun h => by have h2 := h.2; unfold stW at h2; rw [g1] at h2; exact h2, fun h => ⟨⟨by show j < zs.length; omega, Hnr.out, hop⟩, by unfold stW; rw [g1]; exact h⟩⟩
                        obtain ⟨bq, hbq⟩ : ∃ bq, bAt bs (q' : Int) = bq := ⟨_, rfl⟩
                        rw [hbq] at hcq Hgo
                        clear hs2 g1 g2 g3 hop hbq
                        cases bq
                        · have Hno := Lib.hid (Hnext.out (fun h => by have := Hgo.out.1 h; first | exact this | cases this))
                          go_wp2_with fail
                          go_roundw
                          case rel => exact ⟨j + 1, false, by omega, by simp, rfl, (fun e => by cases e), (fun _ => Hno.out), ho6, hv6, bG6, bT6, hB6⟩
                          case measure => simp [intOf]; omega
                        · go_wp2_with fail
                          go_roundw
                          case rel => exact ⟨j + 1, true, by omega, by simp, rfl, (fun _ => ⟨j, Hgo.out.2 (by first | trivial | rfl)⟩), (fun e => by cases e), ho6, hv6, bG6, bT6, hB6⟩
                          case measure => simp [intOf]; omega
                      · rw [mvN_no hop]
                        have Hno := Lib.hid (Hnext.out (fun h => hop h.1.2.2))
                        clear hop
                        go_wp2_with fail
                        go_roundw
                        case rel => exact ⟨j + 1, false, by omega, by simp, rfl, (fun e => by cases e), (fun _ => Hno.out), ho6, hv6, bG6, bT6, hB6⟩
                        case measure => simp [intOf]; omega
            · have hnN : n = N := by omega
              go_wp2_with fail
              go_roundw
              case rel => exact ⟨bs, more, rfl, hoB, hLB, fun e k hk h => (hcB e).2 k (by omega) h, bGB, bTB, hBB⟩
              case measure =>
                rw [trueN_eq hoB hlenB, trueN_eq hoA hlenA]
                cases more
                · rw [(hcB rfl).1]; simp
                · have := hmB rfl
                  simp only; omega

end Go.Proofs.Ytgndbifcncklgaa
