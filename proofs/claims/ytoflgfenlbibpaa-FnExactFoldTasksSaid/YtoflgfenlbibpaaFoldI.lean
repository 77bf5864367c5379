/-
  FoldTasks of the program.
  Conditions: lists of at most 1048576 elements.
-/
import Derived.Test.YtoflgfenlbibpaaFold
namespace Go.Proofs.Ytoflgfenlbibpaa
open Go.RowKit Go.Shelf
attribute [local go_sem] Oper.semAt_some

set_option maxRecDepth 100000 in
set_option maxHeartbeats 8000000 in
theorem i_FoldTasks (c0 : Value) (zs : List Int) (i j : Int) (w : World) (hI : Ints w.heap.size w c0 zs) (_hN : I64s zs) (hm : zs.length ≤ 1048576) (hC : CapOk c0 zs.length) (hvi : I64 i) (hvj : I64 j) :
    Calls Try.prog 86 #[.agg #[c0], .int .i64 i, .int .i64 j] w (GivesI w (foldR zs i j) fun v => .tuple #[.agg #[v], .int .i64 (foldC zs i j)]) := by
  obtain ⟨i0, hi, hz0, hz1, hz2⟩ := info_parts Try.infoI2
  obtain ⟨a, cap, rfl⟩ := hI.shape
  obtain ⟨hi0, hi1⟩ := hvi
  obtain ⟨hj0, hj1⟩ := hvj
  go_enter Try.func86, Try.ntmps86
  go_wp2_with fail
  obtain ⟨W0, hW1⟩ : ∃ W0, ((w.alloc (.cells #[.slice a zs.length cap] 26)).alloc (.cells #[.slice none 0 0] 26)) = W0 := ⟨_, rfl⟩
  have hB1 : Below w.heap.size w W0 := by rw [← hW1]; exact (((Below.refl _ w).alloc (Nat.le_refl _) _).alloc (by simp; try omega) _)
  have hs1 : w.heap.size + 2 ≤ W0.heap.size := by rw [← hW1]; simp
  have bT : Boxed W0 (w.heap.size) 26 (.slice a zs.length cap) := by rw [← hW1]; repeat first | (refine boxed_at ?_; (simp; done)) | refine Boxed.alloc ?_ _
  have bQ : Boxed W0 (w.heap.size + 1) 26 (.slice none 0 0) := by rw [← hW1]; repeat first | (refine boxed_at ?_; (simp; done)) | refine Boxed.alloc ?_ _
  rw [hW1]
  clear hW1
  refine (isTasks_c _ zs _ (hI.later hB1) (by omega)).mono ?_
  rintro e w1 ⟨rfl, hb⟩
  have hB2 := hB1.trans (hb.mono (by omega))
  have hs2 := hb.size
  replace bT := boxed_later bT hb
  replace bQ := boxed_later bQ hb
  have cT := bT.cell
  have cQ := bQ.cell
  have fQ := bQ.frozen
  clear hb hB1
  cases ht : tasksOk zs
  · have Hc := Lib.hid (show foldC zs i j = 1 by unfold foldC; rw [ht]; rfl)
    have Hr := Lib.hid (show foldR zs i j = [] by unfold foldR; rw [Hc.out]; rfl)
    clear ht
    go_wp2_with fail
    have k1 := (bQ.set (.slice none 0 0)).cell
    exact bodyPost_ret (v := .tuple #[.agg #[.slice none 0 0], .int .i64 1]) (by simp [results, Try.f86, go_sem, k1]) rfl ⟨_, ret_t2 Hc.out.symm, by rw [Hr.out]; exact ownI_nil _ _, hB2.setCell (p := ⟨w.heap.size + 1, 0, none⟩) (by show w.heap.size ≤ w.heap.size + 1; omega) _⟩
  · have hl := tasksOk_len ht
    have Ht := Lib.hid ht
    clear ht
    by_cases hok : 0 ≤ i ∧ i < j ∧ j < zs.length
    · obtain ⟨p, rfl⟩ : ∃ p : Nat, i = p := ⟨i.toNat, by omega⟩
      obtain ⟨q, rfl⟩ : ∃ q : Nat, j = q := ⟨j.toNat, by omega⟩
      obtain ⟨b, off, rfl, hb, hc⟩ := (hI.below hB2).at_ (show 0 < zs.length by omega)
      have hcp := hc p (by omega)
      have hcq := hc q (by omega)
      have hgp := tasksOk_nth Ht.out (show p < zs.length by omega)
      have hgq := tasksOk_nth Ht.out (show q < zs.length by omega)
      have hk : foldOk zs p q = true := by unfold foldOk; simp; omega
      have hM : foldM zs p q = min (nth zs p) (nth zs q) := by unfold foldM; simp
      obtain ⟨x, hx⟩ : ∃ x : Int, nth zs p = x := ⟨_, rfl⟩
      obtain ⟨y, hy⟩ : ∃ y : Int, nth zs q = y := ⟨_, rfl⟩
      rw [hx] at hcp hgp hM
      rw [hy] at hcq hgq hM
      have Hok := Lib.hid hk
      have HM := Lib.hid hM
      have hpq : p < zs.length ∧ q < zs.length ∧ p < q := by omega
      have hpn := hpq.1
      have hqn := hpq.2.1
      obtain ⟨m, hmm⟩ : ∃ m, (if y < x then y else x) = m := ⟨_, rfl⟩
      have hmn : min x y = m := by rw [← hmm]; omega
      have hmb : 1 ≤ m ∧ m ≤ 40 := by omega
      rw [hmn] at hM
      have HM := Lib.hid hM
      have Hmn := Lib.hid hmn
      clear hc hk hM hx hy hmn
      by_cases hone : m = 1
      · have Hc := Lib.hid (show foldC zs p q = 5 by unfold foldC; rw [Ht.out, if_pos rfl, if_pos Hok.out, if_pos (by rw [HM.out]; exact hone)])
        have Hr := Lib.hid (show foldR zs p q = [] by unfold foldR; rw [Hc.out]; rfl)
        subst hone
        go_wp2_with fail
        go_quiet (fail)
        have bQ : Boxed (w1.drewN nq) (w.heap.size + 1) 26 (.slice none 0 0) := bQ
        have cQ := bQ.cell
        have fQ := bQ.frozen
        have hB3 := below_drewN hB2 nq
        go_wp2_with fail
        have k1 := (bQ.set (.slice none 0 0)).cell
        exact bodyPost_ret (v := .tuple #[.agg #[.slice none 0 0], .int .i64 5]) (by simp [results, Try.f86, go_sem, k1]) rfl ⟨_, ret_t2 Hc.out.symm, by rw [Hr.out]; exact ownI_nil _ _, hB3.setCell (p := ⟨w.heap.size + 1, 0, none⟩) (by show w.heap.size ≤ w.heap.size + 1; omega) _⟩
      · have hc0 : foldC zs p q = 0 := by unfold foldC; rw [Ht.out, if_pos rfl, if_pos Hok.out, if_neg (by rw [HM.out]; exact hone)]
        have Hc := Lib.hid hc0
        have Hr := Lib.hid (show foldR zs p q = foldG zs p q by unfold foldR; rw [if_pos hc0])
        have hb1 : (m == 1) = false := by simpa using hone
        clear hc0
        go_wp2_with fail
        go_quiet (fail)
        have bT : Boxed (w1.drewN nq) w.heap.size 26 (.slice (some ⟨b, off, none⟩) zs.length cap) := bT
        have bQ : Boxed (w1.drewN nq) (w.heap.size + 1) 26 (.slice none 0 0) := bQ
        have hB3 := below_drewN hB2 nq
        have hs4 : w1.heap.size ≤ (w1.drewN nq).heap.size := Nat.le_refl _
        obtain ⟨w3, hw3⟩ : ∃ w3, w1.drewN nq = w3 := ⟨_, rfl⟩
        rw [hw3] at bT bQ hB3 hs4 ⊢
        clear hw3
        have cT := bT.cell
        have cQ := bQ.cell
        have fQ := bQ.frozen
        obtain ⟨_, c', e', hlc, hcm⟩ := hC
        cases e'
        have hqc : q ≤ cap := by omega
        have hqc1 : q + 1 ≤ zs.length := by omega
        have hb2q : (q : Int) + 1 ≤ (zs.length : Int) := by omega
        have hb1q : (0 : Int) ≤ (q : Int) + 1 := by omega
        have hqw : IntKind.i64.wrap ((q : Int) + 1) = (q : Int) + 1 := by rw [IntKind.wrap_i64]; omega
        have hI2 := hI.below hB3
        obtain ⟨o2, ho2, hY⟩ : ∃ o2, (if cap = q + 1 then (some ⟨b, off, none⟩ : Option Addr) else some ⟨b, off + (q + 1), none⟩) = some ⟨b, o2, none⟩ ∧ Ints w.heap.size w3 (.slice (some ⟨b, o2, none⟩) (zs.drop (q + 1)).length (cap - (q + 1))) (zs.drop (q + 1)) := by
          by_cases e : cap = q + 1
          · exact ⟨off, if_pos e, _, _, rfl, .inl (List.drop_eq_nil_iff.2 (by omega))⟩
          · exact ⟨off + (q + 1), if_neg e, ints_drop hI2 (by omega)⟩
        have hX : Ints w.heap.size w3 (.slice (some ⟨b, off, none⟩) q cap) (zs.take q) := ints_take hI2 (by omega)
        have hfw : Try.prog.follows Departure.mixedOrders = true := by kernel_rfl
        have hxl : (zs.take q).length = q := by simp; omega
        have hyl : (zs.drop (q + 1)).length = zs.length - (q + 1) := by simp
        obtain ⟨xs, hxs⟩ : ∃ xs, zs.take q = xs := ⟨_, rfl⟩
        obtain ⟨ys, hys⟩ : ∃ ys, zs.drop (q + 1) = ys := ⟨_, rfl⟩
        have hG : foldG zs p q = (xs ++ ys).set p (m / 2) := by unfold foldG; rw [HM.out, ← hxs, ← hys]; simp
        rw [hxs] at hX hxl
        rw [hys] at hY hyl
        obtain ⟨fs, hfs⟩ : ∃ fs, xs ++ ys = fs := ⟨_, rfl⟩
        rw [hfs] at hG
        have HG := Lib.hid hG
        have Hfs := Lib.hid hfs
        have hfl : 0 < fs.length ∧ p < fs.length ∧ fs.length ≤ 8 := by rw [← hfs, List.length_append]; omega
        have hpf := hfl.2.1
        have hcall : ∀ W bk, Below w3.heap.size w3 W → bk < W.heap.size → W.cell? ⟨bk, 0, none⟩ = some (.slice (some ⟨b, off, none⟩) q cap) → W.cell? ⟨bk, 1, none⟩ = some (.slice (some ⟨b, o2, none⟩) (zs.length - (q + 1)) (cap - (q + 1))) →
            Calls Try.prog 180 #[.slice (some ⟨bk, 0, none⟩) 2 2] W (GivesI W fs id) := fun W bk hW hbk k1 k2 => by
          have hX2 : Ints W.heap.size W (.slice (some ⟨b, off, none⟩) q cap) xs := (hX.below (hW.mono hB3.size)).mono (Nat.le_trans hB3.size hW.size)
          have hY2 := (hY.below (hW.mono hB3.size)).mono (Nat.le_trans hB3.size hW.size)
          rw [← hxl] at hX2 k1
          rw [← hyl] at k2
          rw [← hfs]
          exact concat_c _ _ cap _ xs ys W hX2 hY2 b o2 rfl (by omega) (by omega) (by omega) bk hbk k1 k2
        have Hcall := Lib.hid hcall
        have hmw : IntKind.i64.wrap (m.tdiv 2) = m / 2 := by rw [Int.tdiv_eq_ediv_of_nonneg (by omega), IntKind.wrap_i64]; omega
        clear hcall hG hxs hys hfs hxl hyl hX hY hI2
        go_wp2_with fail
        refine wp_region_held_drew (S := fun w' => Boxed w' w.heap.size 26 (.slice (some ⟨b, off, none⟩) zs.length cap) ∧ Boxed w' (w.heap.size + 1) 26 (.slice none 0 0) ∧ Below w.heap.size w w') hfw ⟨bT, bQ, hB3.drew⟩ ?_
        intro hS0
        refine wpAnyH_take (i := 0) (v := ?v0) rfl (by kernel_rfl) (by kernel_rfl) (by kernel_rfl) (fun _ _ _ h => h) (.inl ⟨by rfl, ?y0⟩) hS0 ?_
        case y0 =>
          intro w' hS
          (have k1 := hS.1.cell; clear hS)
          go_simp
          try with_reducible rfl
        refine wpAnyH_take (i := 1) (v := ?v1) rfl (by kernel_rfl) (by kernel_rfl) (by kernel_rfl) (fun _ _ _ h => h) (.inl ⟨by rfl, ?y1⟩) hS0 ?_
        case y1 =>
          intro w' hS
          (have k1 := hS.1.cell; clear hS)
          go_simp
          try with_reducible rfl
        refine wpAnyH_take (i := 2) (v := ?v2) rfl (by kernel_rfl) (by kernel_rfl) (by kernel_rfl) (fun _ _ _ h => h) (.inl ⟨by rfl, ?y2⟩) hS0 ?_
        case y2 =>
          intro w' hS
          (have k1 := hS.1.cell; clear hS)
          go_simp
          try with_reducible rfl
        refine wpAnyH_take (i := 3) (v := ?v3) rfl (by kernel_rfl) (by kernel_rfl) (by kernel_rfl) (fun _ _ _ h => h) (.inl ⟨by rfl, ?y3⟩) hS0 ?_
        case y3 =>
          intro w' hS
          (have k1 := hS.1.cell; clear hS)
          go_simp
          try with_reducible rfl
        refine wpAnyH_take (i := 4) (v := ?v4) rfl (by kernel_rfl) (by kernel_rfl) (by kernel_rfl) (fun _ _ _ h => h) (.inl ⟨by rfl, ?y4⟩) hS0 ?_
        case y4 =>
          intro w' hS
          (have k1 := hS.1.cell; clear hS)
          go_simp
          try with_reducible rfl
        refine wpAnyH_take (i := 5) (v := ?v5) rfl (by kernel_rfl) (by kernel_rfl) (by kernel_rfl) (fun _ _ _ h => h) (.inl ⟨by rfl, ?y5⟩) hS0 ?_
        case y5 =>
          intro w' hS
          (have k1 := hS.1.cell; clear hS)
          go_simp
          try with_reducible rfl
        refine wpAnyH_take (i := 6) (v := ?v6) rfl (by kernel_rfl) (by kernel_rfl) (by kernel_rfl) (fun _ _ _ h => h) (.inl ⟨by rfl, ?y6⟩) hS0 ?_
        case y6 =>
          intro w' hS
          (have k1 := hS.1.cell; clear hS)
          go_simp
          try with_reducible rfl
        refine wpAnyH_take (i := 7) (v := ?v7) rfl (by kernel_rfl) (by kernel_rfl) (by kernel_rfl) (fun _ _ _ h => h) (.inl ⟨by rfl, ?y7⟩) hS0 ?_
        case y7 =>
          intro w' hS
          (have k1 := hS.1.cell; clear hS)
          go_simp
          try with_reducible rfl
        refine wpAnyH_take (i := 8) (v := ?v8) rfl (by kernel_rfl) (by kernel_rfl) (by kernel_rfl) (fun _ _ _ h => h) (.inl ⟨by rfl, ?y8⟩) hS0 ?_
        case y8 =>
          intro w' hS
          (have k1 := hS.1.cell; clear hS)
          go_simp
          try with_reducible rfl
        refine wpAnyH_ready (rs := [9]) (by kernel_rfl) (by simp) ?_
        refine AllReadyH.cons rfl (fun K' hK' => ?_) AllReadyH.nil
        rw [if_pos (by rfl)]
        go_simp
        have hbA : Below w3.heap.size w3 ((w3.alloc (.cells #[.slice (some ⟨b, off, none⟩) q cap, .slice (some ⟨b, o2, none⟩) (zs.length - (q + 1)) (cap - (q + 1))] 24)).drew) := ((Below.refl _ w3).alloc (Nat.le_refl _) _).drew
        refine hK'.out _ _ ⟨hS0.1.alloc _, hS0.2.1.alloc _, hS0.2.2.alloc hS0.2.2.size _⟩ fun hS1 => ?_
        refine wpAnyH_ready (rs := [10]) (by kernel_rfl) (by simp) ?_
        refine AllReadyH.cons rfl (fun K' hK' => ?_) AllReadyH.nil
        rw [if_pos (by rfl)]
        go_simp
        have m1 : ((w3.alloc (.cells #[.slice (some ⟨b, off, none⟩) q cap, .slice (some ⟨b, o2, none⟩) (zs.length - (q + 1)) (cap - (q + 1))] 24)).drew).cell? ⟨w3.heap.size, 0, none⟩ = some (.slice (some ⟨b, off, none⟩) q cap) := by simp [go_sem]
        have m2 : ((w3.alloc (.cells #[.slice (some ⟨b, off, none⟩) q cap, .slice (some ⟨b, o2, none⟩) (zs.length - (q + 1)) (cap - (q + 1))] 24)).drew).cell? ⟨w3.heap.size, 1, none⟩ = some (.slice (some ⟨b, o2, none⟩) (zs.length - (q + 1)) (cap - (q + 1))) := by simp [go_sem]
        have m3 : w3.heap.size < ((w3.alloc (.cells #[.slice (some ⟨b, off, none⟩) q cap, .slice (some ⟨b, o2, none⟩) (zs.length - (q + 1)) (cap - (q + 1))] 24)).drew).heap.size := by show w3.heap.size < (w3.alloc _).heap.size; simp
        have s1 : Boxed ((w3.alloc (.cells #[.slice (some ⟨b, off, none⟩) q cap, .slice (some ⟨b, o2, none⟩) (zs.length - (q + 1)) (cap - (q + 1))] 24)).drew) w.heap.size 26 (.slice (some ⟨b, off, none⟩) zs.length cap) := hS1.1
        have s2 : Boxed ((w3.alloc (.cells #[.slice (some ⟨b, off, none⟩) q cap, .slice (some ⟨b, o2, none⟩) (zs.length - (q + 1)) (cap - (q + 1))] 24)).drew) (w.heap.size + 1) 26 (.slice none 0 0) := hS1.2.1
        have s3 : Below w.heap.size w ((w3.alloc (.cells #[.slice (some ⟨b, off, none⟩) q cap, .slice (some ⟨b, o2, none⟩) (zs.length - (q + 1)) (cap - (q + 1))] 24)).drew) := hS1.2.2
        clear hS1 hS0
        obtain ⟨w4, hw4⟩ : ∃ w4, (w3.alloc (.cells #[.slice (some ⟨b, off, none⟩) q cap, .slice (some ⟨b, o2, none⟩) (zs.length - (q + 1)) (cap - (q + 1))] 24)).drew = w4 := ⟨_, rfl⟩
        rw [hw4] at hbA m1 m2 m3 s1 s2 s3 ⊢
        clear hw4
        refine (Hcall.out w4 w3.heap.size hbA m3 m1 m2).mono ?_
        rintro e w5 ⟨v, rfl, ho, hb5⟩
        simp only [id]
        obtain ⟨g, cp, rfl, hg1, hg2⟩ := ho.shape hfl.1
        have t1 := boxed_later s1 hb5
        have t2 := boxed_later s2 hb5
        have t3 := s3.trans (hb5.mono s3.size)
        refine hK'.out _ _ ⟨t1, t2, t3⟩ fun hS2 => ?_
        refine wpAnyH_take (i := 11) (v := ?vz11) rfl (by kernel_rfl) (by kernel_rfl) (by kernel_rfl) (fun _ _ _ h => h) (.inl ⟨by rfl, ?yz11⟩) hS2 ?_
        case yz11 =>
          intro w' hS
          (clear hS)
          go_simp
          try with_reducible rfl
        refine wpAnyH_done (by kernel_rfl) ?_ _
        clear hS2 hK' hb5 s1 s2 s3 m1 m2 hbA
        have q1 := ho.cellAt hpf
        have q2 := ho.frozen p
        have q3 := t2.cell
        have q4 := t2.frozen
        have hsz3 := hB3.size
        have hgw : w.heap.size + 2 ≤ g := by omega
        go_wp2_with fail
        obtain ⟨r1, r2⟩ := ho.stored p (m / 2)
        have t5 : Boxed (w5.setCell ⟨g, p, none⟩ (.int .i64 (m / 2))) (w.heap.size + 1) 26 (.slice none 0 0) := boxed_setFar t2 (by omega)
        have t6 : Below w.heap.size w (w5.setCell ⟨g, p, none⟩ (.int .i64 (m / 2))) := t3.setCell (p := ⟨g, p, none⟩) (by show w.heap.size ≤ g; omega) _
        have k1 := (t5.set (.slice (some ⟨g, 0, none⟩) fs.length cp)).cell
        have rr : OwnI w.heap.size ((w5.setCell ⟨g, p, none⟩ (.int .i64 (m / 2))).setCell ⟨w.heap.size + 1, 0, none⟩ (.slice (some ⟨g, 0, none⟩) fs.length cp)) (.slice (some ⟨g, 0, none⟩) fs.length cp) (foldR zs p q) := by
          rw [Hr.out, HG.out]
          exact (r1.kept (grownBy_setCell2 _ _ _ _) (.inr (by simp [Value.ownBlock]; omega))).base (by omega)
        exact bodyPost_ret (v := .tuple #[.agg #[(.slice (some ⟨g, 0, none⟩) fs.length cp)], .int .i64 0]) (by simp [results, Try.f86, go_sem, k1]) rfl ⟨_, ret_t2 Hc.out.symm, rr, t6.setCell (p := ⟨w.heap.size + 1, 0, none⟩) (by show w.heap.size ≤ w.heap.size + 1; omega) _⟩
    · have Hc := Lib.hid (show foldC zs i j = 2 by unfold foldC; rw [Ht.out, if_pos rfl, if_neg (by unfold foldOk; simp; omega)])
      have Hr := Lib.hid (show foldR zs i j = [] by unfold foldR; rw [Hc.out]; rfl)
      by_cases h1 : i < 0
      · go_wp2_with fail
        have k1 := (bQ.set (.slice none 0 0)).cell
        exact bodyPost_ret (v := .tuple #[.agg #[.slice none 0 0], .int .i64 2]) (by simp [results, Try.f86, go_sem, k1]) rfl ⟨_, ret_t2 Hc.out.symm, by rw [Hr.out]; exact ownI_nil _ _, hB2.setCell (p := ⟨w.heap.size + 1, 0, none⟩) (by show w.heap.size ≤ w.heap.size + 1; omega) _⟩
      · by_cases h2 : j ≤ i
        · go_wp2_with fail
          have k1 := (bQ.set (.slice none 0 0)).cell
          exact bodyPost_ret (v := .tuple #[.agg #[.slice none 0 0], .int .i64 2]) (by simp [results, Try.f86, go_sem, k1]) rfl ⟨_, ret_t2 Hc.out.symm, by rw [Hr.out]; exact ownI_nil _ _, hB2.setCell (p := ⟨w.heap.size + 1, 0, none⟩) (by show w.heap.size ≤ w.heap.size + 1; omega) _⟩
        · have h3 : (zs.length : Int) ≤ j := by omega
          go_wp2_with fail
          have k1 := (bQ.set (.slice none 0 0)).cell
          exact bodyPost_ret (v := .tuple #[.agg #[.slice none 0 0], .int .i64 2]) (by simp [results, Try.f86, go_sem, k1]) rfl ⟨_, ret_t2 Hc.out.symm, by rw [Hr.out]; exact ownI_nil _ _, hB2.setCell (p := ⟨w.heap.size + 1, 0, none⟩) (by show w.heap.size ≤ w.heap.size + 1; omega) _⟩

end Go.Proofs.Ytoflgfenlbibpaa
