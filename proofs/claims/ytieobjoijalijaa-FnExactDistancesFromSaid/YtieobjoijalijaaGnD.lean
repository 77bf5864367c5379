/-
  Distances on a ground: the model's l09Distances.
  Conditions: at most 6 places.
-/
import Derived.Test.YtieobjoijalijaaGnB
import Derived.Test.YtieobjoijalijaaShift
namespace Go.Proofs.Ytieobjoijalijaa
open Go.RowKit Go.Shelf
attribute [local go_sem] Oper.semAt_some

/-- the list while it is filled with -1 -/
def fmL (k p : Nat) : List Int := List.replicate k (-1 : Int) ++ List.replicate (p - k) 0
theorem fmL_len {k p : Nat} (h : k ≤ p) : (fmL k p).length = p := by simp [fmL]; omega
theorem nth_rep (n : Nat) (x : Int) {j : Nat} (h : j < n) : nth (List.replicate n x) j = x := by
  unfold nth
  rw [List.getElem?_replicate, if_pos h]; rfl
theorem nth_fmL {k p j : Nat} (hk : k ≤ p) (hj : j < p) : nth (fmL k p) j = if j < k then -1 else 0 := by
  unfold fmL
  by_cases h : j < k
  · rw [if_pos h]
    unfold nth
    rw [List.getElem?_append_left (by simpa using h), List.getElem?_replicate, if_pos h]; rfl
  · rw [if_neg h]
    unfold nth
    rw [List.getElem?_append_right (by simpa using Nat.le_of_not_lt h), List.length_replicate, List.getElem?_replicate, if_pos (by omega)]; rfl
theorem fmL_set {k p : Nat} (h : k < p) : (fmL k p).set k (-1) = fmL (k + 1) p := by
  refine ext_nth (by rw [List.length_set, fmL_len (by omega), fmL_len (by omega)]) fun j hj => ?_
  rw [List.length_set, fmL_len (by omega)] at hj
  rw [nth_fmL (by omega) hj]
  by_cases e : k = j
  · subst e
    rw [nth_set_same _ (by rw [fmL_len (by omega)]; omega), if_pos (by omega)]
  · rw [nth_set_other _ e, nth_fmL (by omega) hj]
    by_cases h2 : j < k
    · rw [if_pos h2, if_pos (by omega)]
    · rw [if_neg h2, if_neg (by omega)]
theorem fmL_zero (p : Nat) : fmL 0 p = List.replicate p 0 := by simp [fmL]
theorem fmL_full (p : Nat) : fmL p p = List.replicate p (-1) := by simp [fmL]

set_option maxRecDepth 100000 in
set_option maxHeartbeats 16000000 in
theorem l09Distances_c (p m i : Nat) (w : World) (hp : p ≤ 6) (hm : m < 32768) (hip : i < p) :
    Calls Try.prog 106 #[.agg #[.int .i64 (p : Int), .int .i64 (m : Int)], .int .i64 (i : Int)] w (GivesI w (dL m p i) id) := by
  obtain ⟨i0, hi, hz0, hz1, hz2⟩ := info_parts Try.infoI
  have hfw : Try.prog.follows Departure.mixedOrders = true := by kernel_rfl
  have b0 := Box2.new w 56 (.int .i64 (p : Int)) (.int .i64 (m : Int))
  have c0 := b0.c0
  have hB0 : Below w.heap.size w (w.alloc (.cells #[.int .i64 (p : Int), .int .i64 (m : Int)] 56)) := (Below.refl _ w).alloc (Nat.le_refl _) _
  go_enter Try.func106, Try.ntmps106
  go_wp2_with (at_make; refine wpList_make_full _ rfl (.tmp 11) (.tmp 11) 22 rfl (w.heap.size + 1) 2 i0 (.int .i64 0) 1 Try.underlying22 hi hz0 hz1 .i64 .i64 _ _ p rfl rfl rfl rfl ?c1 ?c2 ?c3 ?_)
  case c1 => rw [hz2]; omega
  case c2 => unfold maxLen; omega
  case c3 => simp
  intro w1 hown hgrow
  have ho0 := ownI_made hown
  have hB1 : Below w.heap.size w w1 := hB0.grown hgrow hB0.size (by simp)
  have bG1 := b0.kept hgrow (by simp)
  have hw1 : w.heap.size + 1 < w1.heap.size := (ho0.blk (w.heap.size + 1) rfl).2
  clear hown hgrow hB0 b0 c0
  go_wp2_with fail
  obtain ⟨B1, hB1e⟩ : ∃ B1, w1.heap.size = B1 := ⟨_, rfl⟩
  have hL0 : OwnI B1 (w1.alloc (.cells #[.int .i64 (i : Int)] 2)) (.slice (some ⟨B1, 0, none⟩) 1 1) [(i : Int)] := by
    have := World.ownsRow_lit (base := B1) (e := 2) (size := 1) w1 #[.int .i64 (i : Int)] 1 (by omega) (by unfold maxLen; omega) rfl
    rw [hB1e] at this
    exact this
  have hb1 : Below w1.heap.size w1 (w1.alloc (.cells #[.int .i64 (i : Int)] 2)) := (Below.refl _ _).alloc (Nat.le_refl _) _
  have ho1 : OwnI (w.heap.size + 1) (w1.alloc (.cells #[.int .i64 (i : Int)] 2)) (.slice (some ⟨w.heap.size + 1, 0, none⟩) p p) (fmL 0 p) := by rw [fmL_zero]; exact ho0.below hb1
  have bG2 := bG1.later hb1
  have hB2 := hB1.trans (hb1.mono hB1.size)
  have hs2 : B1 < (w1.alloc (.cells #[.int .i64 (i : Int)] 2)).heap.size := by simp [hB1e]
  obtain ⟨W2, hW2⟩ : ∃ W2, w1.alloc (.cells #[.int .i64 (i : Int)] 2) = W2 := ⟨_, rfl⟩
  rw [hW2] at hL0 ho1 bG2 hB2 hs2
  first | rw [hB1e] | skip
  first | rw [hW2] | skip
  rw [hB1e] at hw1
  clear hW2 hb1 ho0 hB1 bG1 hB1e
  go_loopw [17] (fun q wr => ∃ k : Nat, k ≤ p ∧ q = .int .i64 k ∧ OwnI (w.heap.size + 1) wr (.slice (some ⟨w.heap.size + 1, 0, none⟩) p p) (fmL k p) ∧ OwnI B1 wr (.slice (some ⟨B1, 0, none⟩) 1 1) [(i : Int)] ∧ Box2 wr w.heap.size 56 (.int .i64 (p : Int)) (.int .i64 (m : Int)) ∧ Below w.heap.size w wr) (fun q _ => p - (intOf q).toNat)
  case atStart => exact ⟨0, Nat.zero_le _, rfl, ho1, hL0, bG2, hB2⟩
  case round =>
    obtain ⟨k, hk, rfl, ho, hL, bG, hB⟩ := hrel
    clear hL0 ho1 bG2 hB2 hs2
    by_cases hlt : k < p
    · have hki : (k : Int) < (p : Int) := by omega
      have ck := ho.cellAt (j := k) (by rw [fmL_len hk]; exact hlt)
      have fk := ho.frozen k
      have Hs := Lib.hid (fmL_set hlt)
      have st := ho.stored k (-1)
      go_wp2
      go_roundw
      case rel => exact ⟨k + 1, by omega, by simp, by rw [← Hs.out]; exact st.1, hL.kept st.2 (.inr (by simp [Value.ownBlock]; omega)), bG.kept st.2 (by simp), hB.grown st.2 hB.size (fun j e => by have : w.heap.size + 1 = j := (by simpa using e); omega)⟩
      case measure => simp [intOf]; omega
    · obtain rfl : k = p := by omega
      have hii : (i : Int) < (k : Int) := by omega
      have ck := ho.cellAt (j := i) (by rw [fmL_len (Nat.le_refl _)]; exact hip)
      have fk := ho.frozen i
      have st := ho.stored i 0
      have HI := Lib.hid (show (fmL k k).set i 0 = (bOut m k i 0).1 by rw [fmL_full]; rfl)
      have HL := Lib.hid (show [(i : Int)] = (bOut m k i 0).2 from rfl)
      go_wp2
      have hoS := st.1
      rw [HI.out] at hoS
      rw [HL.out] at hL
      have hLS := hL.kept st.2 (.inr (by simp [Value.ownBlock]; omega))
      have bGS := bG.kept st.2 (by simp)
      have hBS := hB.grown st.2 hB.size (fun j e => by have : w.heap.size + 1 = j := (by simpa using e); omega)
      obtain ⟨W3, hW3⟩ : ∃ W3, wr.setCell ⟨w.heap.size + 1, i, none⟩ (.int .i64 0) = W3 := ⟨_, rfl⟩
      rw [hW3] at hoS hLS bGS hBS
      first | rw [hW3] | skip
      clear hW3 st ck fk ho hL bG hB HI HL
      go_loopw [6, 8] (fun v q wr => ∃ t : Nat, t ≤ (bOut m k i t).2.length ∧ q = .int .i64 t ∧ (∀ t', t' < t → t' < (bOut m k i t').2.length) ∧ OwnI (w.heap.size + 1) wr (.slice (some ⟨w.heap.size + 1, 0, none⟩) k k) (bOut m k i t).1 ∧ OwnI B1 wr v (bOut m k i t).2 ∧ Box2 wr w.heap.size 56 (.int .i64 (k : Int)) (.int .i64 (m : Int)) ∧ Below w.heap.size w wr) (fun _ q _ => k + 1 - (intOf q).toNat)
      case atStart => exact ⟨0, Nat.zero_le _, rfl, fun t' h => by omega, hoS, hLS, bGS, hBS⟩
      case round =>
        obtain ⟨t, ht, rfl, hall, ho, hL, bG, hB⟩ := hrel
        clear hoS hLS bGS hBS
        have hinv := bOut_inv m hip t hall
        have hle := hinv.le
        by_cases htl : t < (bOut m k i t).2.length
        · have Hall := Lib.hid hall
          have hft := hinv.at_ t htl
          obtain ⟨f, hf⟩ : ∃ f : Nat, nth (bOut m k i t).2 t = f := ⟨(nth (bOut m k i t).2 t).toNat, by omega⟩
          have HN := Lib.hid (show bOut m k i (t + 1) = bIn m (f : Int) k (bOut m k i t) by rw [← hf]; rfl)
          have Htl := Lib.hid htl
          obtain ⟨s, hs⟩ : ∃ s, bOut m k i t = s := ⟨_, rfl⟩
          have Hs := Lib.hid hs
          rw [hs] at ho hL hinv hf htl ht HN hft hle
          clear hall hs
          obtain ⟨gl, cl, rfl, _, _⟩ := hL.shape (by omega)
          have hti : (t : Int) < (s.2.length : Int) := by omega
          have hf6 : f < k := by omega
          have hjk : nth s.2 t = (f : Int) := hf
          have Hinv := Lib.hid hinv
          clear hinv hft
          go_wp2
          go_loopw [6, 9] (fun v q wi => ∃ j : Nat, j ≤ k ∧ q = .int .i64 j ∧ OwnI (w.heap.size + 1) wi (.slice (some ⟨w.heap.size + 1, 0, none⟩) k k) (bIn m f j s).1 ∧ OwnI B1 wi v (bIn m f j s).2 ∧ Box2 wi w.heap.size 56 (.int .i64 (k : Int)) (.int .i64 (m : Int)) ∧ Below w.heap.size w wi) (fun _ q _ => k - (intOf q).toNat)
          case atStart => exact ⟨0, Nat.zero_le _, rfl, ho, hL, bG, hB⟩
          case round =>
            obtain ⟨j, hj, rfl, hoi, hLi, bGi, hBi⟩ := hrel
            clear ho hL bG hB
            have hin := Hinv.out.into (m := m) (f := (f : Int)) htl hf.symm j hj
            have Hst := Lib.hid (show bIn m (f : Int) (j + 1) s = bStep m (f : Int) j (bIn m (f : Int) j s) from rfl)
            by_cases hlt : j < k
            · have hji : (j : Int) < (k : Int) := by omega
              obtain ⟨ds, qs, hdq⟩ : ∃ ds qs, bIn m (f : Int) j s = (ds, qs) := ⟨_, _, rfl⟩
              rw [hdq] at hoi hLi hin Hst
              simp only at hoi hLi hin
              obtain ⟨hv, hlen, hqt⟩ := hin
              have htq : t < qs.length := by omega
              have hdl : ds.length = k := hv.len
              have hq7 : qs.length ≤ 6 := Nat.le_trans hv.le hp
              have hat := hv.at_ t htq
              simp only at hat
              rw [hqt, hf, Int.toNat_natCast] at hat
              clear hdq hv
              obtain ⟨gq, cq, rfl, hgq, hgq2⟩ := hLi.shape (by omega)
              have ct := hLi.cellAt htq
              rw [hqt, hf] at ct
              have cj := hoi.cellAt (j := j) (by omega)
              have cf := hoi.cellAt (j := f) (by omega)
              have fj := hoi.frozen j
              have htqi : (t : Int) < (qs.length : Int) := by omega
              have hfi : (f : Int) < (k : Int) := by omega
              have hsw := hBi.size
              have hgo : w.heap.size + 1 < wr.heap.size := (hoi.blk (w.heap.size + 1) rfl).2
              have c0 := bGi.c0
              have c1 := bGi.c1
              by_cases hneg : nth ds j < 0
              · replace cj : wr.drew.cell? ⟨w.heap.size + 1, j, none⟩ = some (.int .i64 (nth ds j)) := cj
                replace c0 : wr.drew.cell? ⟨w.heap.size, 0, none⟩ = some (.int .i64 (k : Int)) := c0
                replace c1 : wr.drew.cell? ⟨w.heap.size, 1, none⟩ = some (.int .i64 (m : Int)) := c1
                replace ct : wr.drew.cell? ⟨gq, t, none⟩ = some (.int .i64 (f : Int)) := ct
                have HO := Lib.hid hoi
                have HL := Lib.hid hLi
                have HG := Lib.hid bGi
                have HB := Lib.hid hBi
                have hfj : f ≠ j := fun e => by rw [e] at hat; omega
                have c0w := HG.out.c0
                clear hoi hLi bGi hBi cf fj
                go_wp2_with fail
                clear c0w
                refine wp_region_held_drew (S := fun w' => w'.cell? ⟨w.heap.size, 0, none⟩ = some (.int .i64 (k : Int)) ∧ w'.cell? ⟨w.heap.size, 1, none⟩ = some (.int .i64 (m : Int)) ∧ w'.cell? ⟨w.heap.size + 1, j, none⟩ = some (.int .i64 (nth ds j)) ∧ w'.cell? ⟨gq, t, none⟩ = some (.int .i64 (f : Int)) ∧ Below wr.heap.size wr w') hfw ⟨c0, c1, cj, ct, (Below.refl _ _).drew⟩ ?_
                intro hS0
                refine wpAnyH_take (i := 0) (v := ?vb10) rfl (by kernel_rfl) (by kernel_rfl) (by kernel_rfl) (fun _ _ _ h => h) (.inl ⟨by first | kernel_rfl | rfl, ?yb10⟩) hS0 ?_
                case yb10 =>
                  intro w' hS
                  (obtain ⟨q0, q1, qx, qt, _⟩ := hS)
                  go_simp
                  try with_reducible rfl
                refine wpAnyH_take (i := 1) (v := ?vb11) rfl (by kernel_rfl) (by kernel_rfl) (by kernel_rfl) (fun _ _ _ h => h) (.inl ⟨by first | kernel_rfl | rfl, ?yb11⟩) hS0 ?_
                case yb11 =>
                  intro w' hS
                  (obtain ⟨q0, q1, qx, qt, _⟩ := hS)
                  go_simp
                  try with_reducible rfl
                refine wpAnyH_take (i := 2) (v := ?vb12) rfl (by kernel_rfl) (by kernel_rfl) (by kernel_rfl) (fun _ _ _ h => h) (.inl ⟨by first | kernel_rfl | rfl, ?yb12⟩) hS0 ?_
                case yb12 =>
                  intro w' hS
                  (obtain ⟨q0, q1, qx, qt, _⟩ := hS)
                  go_simp
                  try with_reducible rfl
                refine wpAnyH_take (i := 3) (v := ?vb13) rfl (by kernel_rfl) (by kernel_rfl) (by kernel_rfl) (fun _ _ _ h => h) (.inl ⟨by first | kernel_rfl | rfl, ?yb13⟩) hS0 ?_
                case yb13 =>
                  intro w' hS
                  (obtain ⟨q0, q1, qx, qt, _⟩ := hS)
                  go_simp
                  try with_reducible rfl
                try simp only [Act.put, List.getElem_toArray, List.getElem_cons_zero, List.getElem_cons_succ, List.setIfInBounds_toArray, List.set_cons_zero, List.set_cons_succ]
                refine wpAnyH_take (i := 4) (v := (.bool true)) rfl (by kernel_rfl) (by kernel_rfl) (by kernel_rfl) (fun _ _ _ h => h) (.inl ⟨by first | kernel_rfl | rfl, ?yb24⟩) hS0 ?_
                case yb24 =>
                  intro w' hS
                  (obtain ⟨q0, q1, qx, qt, _⟩ := hS)
                  go_simp
                  first | done | (simp; done) | (simp; omega) | omega | (simp [*]; done)
                refine wpAnyH_take (i := 5) (v := ?vb35) rfl (by kernel_rfl) (by kernel_rfl) (by kernel_rfl) (fun _ _ _ h => h) (.inl ⟨by first | kernel_rfl | rfl, ?yb35⟩) hS0 ?_
                case yb35 =>
                  intro w' hS
                  (obtain ⟨q0, q1, qx, qt, _⟩ := hS)
                  go_simp
                  try with_reducible rfl
                refine wpAnyH_take (i := 6) (v := ?vb36) rfl (by kernel_rfl) (by kernel_rfl) (by kernel_rfl) (fun _ _ _ h => h) (.inl ⟨by first | kernel_rfl | rfl, ?yb36⟩) hS0 ?_
                case yb36 =>
                  intro w' hS
                  (obtain ⟨q0, q1, qx, qt, _⟩ := hS)
                  go_simp
                  try with_reducible rfl
                refine wpAnyH_take (i := 7) (v := ?vb37) rfl (by kernel_rfl) (by kernel_rfl) (by kernel_rfl) (fun _ _ _ h => h) (.inl ⟨by first | kernel_rfl | rfl, ?yb37⟩) hS0 ?_
                case yb37 =>
                  intro w' hS
                  (obtain ⟨q0, q1, qx, qt, _⟩ := hS)
                  go_simp
                  try with_reducible rfl
                refine wpAnyH_take (i := 8) (v := ?vb38) rfl (by kernel_rfl) (by kernel_rfl) (by kernel_rfl) (fun _ _ _ h => h) (.inl ⟨by first | kernel_rfl | rfl, ?yb38⟩) hS0 ?_
                case yb38 =>
                  intro w' hS
                  (obtain ⟨q0, q1, qx, qt, _⟩ := hS)
                  go_simp
                  try with_reducible rfl
                refine wpAnyH_take (i := 9) (v := ?vb39) rfl (by kernel_rfl) (by kernel_rfl) (by kernel_rfl) (fun _ _ _ h => h) (.inl ⟨by first | kernel_rfl | rfl, ?yb39⟩) hS0 ?_
                case yb39 =>
                  intro w' hS
                  (obtain ⟨q0, q1, qx, qt, _⟩ := hS)
                  go_simp
                  try with_reducible rfl
                refine wpAnyH_take (i := 10) (v := ?vb310) rfl (by kernel_rfl) (by kernel_rfl) (by kernel_rfl) (fun _ _ _ h => h) (.inl ⟨by first | kernel_rfl | rfl, ?yb310⟩) hS0 ?_
                case yb310 =>
                  intro w' hS
                  (obtain ⟨q0, q1, qx, qt, _⟩ := hS)
                  go_simp
                  try with_reducible rfl
                refine wpAnyH_take (i := 11) (v := ?vb311) rfl (by kernel_rfl) (by kernel_rfl) (by kernel_rfl) (fun _ _ _ h => h) (.inl ⟨by first | kernel_rfl | rfl, ?yb311⟩) hS0 ?_
                case yb311 =>
                  intro w' hS
                  (obtain ⟨q0, q1, qx, qt, _⟩ := hS)
                  go_simp
                  try with_reducible rfl
                try simp only [Act.put, List.getElem_toArray, List.getElem_cons_zero, List.getElem_cons_succ, List.setIfInBounds_toArray, List.set_cons_zero, List.set_cons_succ]
                refine wpAnyH_ready (rs := [12]) (by kernel_rfl) (by simp) ?_
                refine AllReadyH.cons rfl (fun K' hK' => ?_) AllReadyH.nil
                rw [if_pos (by first | kernel_rfl | rfl)]
                go_simp
                refine (l09Near_c k m f j _ hm (by omega) (by omega)).mono ?_
                rintro e w4 ⟨rfl, hb⟩
                have hbw : Below wr.heap.size wr w4 := hS0.2.2.2.2.trans (hb.mono hS0.2.2.2.2.size)
                have hS2 : w4.cell? ⟨w.heap.size, 0, none⟩ = some (.int .i64 (k : Int)) ∧ w4.cell? ⟨w.heap.size, 1, none⟩ = some (.int .i64 (m : Int)) ∧ w4.cell? ⟨w.heap.size + 1, j, none⟩ = some (.int .i64 (nth ds j)) ∧ w4.cell? ⟨gq, t, none⟩ = some (.int .i64 (f : Int)) ∧ Below wr.heap.size wr w4 :=
                  ⟨(hb.cell (p := ⟨w.heap.size, 0, none⟩) (show w.heap.size < wr.heap.size by omega)).trans hS0.1, (hb.cell (p := ⟨w.heap.size, 1, none⟩) (show w.heap.size < wr.heap.size by omega)).trans hS0.2.1, (hb.cell (p := ⟨w.heap.size + 1, j, none⟩) hgo).trans hS0.2.2.1, (hb.cell (p := ⟨gq, t, none⟩) hgq2).trans hS0.2.2.2.1, hbw⟩
                refine hK'.out _ _ hS2 fun hS1 => ?_
                refine wpAnyH_take (i := 13) (v := (.bool (nearB m f j))) rfl (by kernel_rfl) (by kernel_rfl) (by kernel_rfl) (fun _ _ _ h => h) (.inl ⟨by first | kernel_rfl | rfl, ?yb413⟩) hS1 ?_
                case yb413 =>
                  intro w' hS
                  (obtain ⟨q0, q1, qx, qt, _⟩ := hS)
                  go_simp
                  first | done | (simp; done) | (simp; omega) | omega | (simp [*]; done)
                refine wpAnyH_done (by kernel_rfl) ?_ _
                have hO1 := HO.out.below hbw
                have hL1 := HL.out.below hbw
                have hG1 := HG.out.later hbw
                have hB1 := HB.out.trans (hbw.mono HB.out.size)
                clear hS1 hS2 hS0 hb hK' cj c0 c1 ct
                cases hnr : nearB m f j
                · have Hn := Lib.hid (show bIn m (f : Int) (j + 1) s = (ds, qs) by rw [Hst.out]; unfold bStep; rw [if_neg (fun h => by have := h.2; rw [Int.toNat_natCast, hnr] at this; exact absurd this (by simp))])
                  clear hnr
                  go_wp2
                  go_roundw
                  case rel => exact ⟨j + 1, by omega, by simp, by rw [Hn.out]; exact hO1, by rw [Hn.out]; exact hL1, hG1, hB1⟩
                  case measure => simp [intOf]; omega
                · have Hn := Lib.hid (show bIn m (f : Int) (j + 1) s = (ds.set j (nth ds f + 1), qs ++ [(j : Int)]) by rw [Hst.out]; unfold bStep; rw [if_pos ⟨hneg, by rw [Int.toNat_natCast]; exact hnr⟩, Int.toNat_natCast])
                  have ct := hL1.cellAt htq
                  rw [hqt, hf] at ct
                  have cf := hO1.cellAt (j := f) (by omega)
                  have cj := hO1.cellAt (j := j) (by omega)
                  have fj := hO1.frozen j
                  have st := hO1.stored j (nth ds f + 1)
                  obtain ⟨W5, hW5⟩ : ∃ W5, w4.setCell ⟨w.heap.size + 1, j, none⟩ (.int .i64 (nth ds f + 1)) = W5 := ⟨_, rfl⟩
                  rw [hW5] at st
                  have hL5 := hL1.kept st.2 (.inr (by simp [Value.ownBlock]; omega))
                  have hG5 := hG1.kept st.2 (by simp)
                  have hB5 := hB1.grown st.2 hB1.size (fun j' e => by have : w.heap.size + 1 = j' := (by simpa using e); omega)
                  have hO5 := st.1
                  have hs5 : w.heap.size ≤ W5.heap.size := hB5.size
                  have hq6 : B1 ≤ W5.heap.size := Nat.le_of_lt (Nat.lt_of_le_of_lt (hL5.blk gq rfl).1 (hL5.blk gq rfl).2)
                  clear hnr st hO1 hL1 hG1 hB1
                  have hz0f := hat.2.2.1
                  have hz1f := hat.2.2.2
                  have htj : (t : Int) ≤ 6 := by omega
                  have hdl' := Lib.hid hdl
                  clear hat hneg hdl hqt hlen hjk
                  go_wp2_with (at_builtin; refine wpList_append_own _ rfl _ _ 22 rfl B1 2 i0 (.int .i64 0) 1 8 Try.underlying22 hi hz0 hz1 hz2 rfl (by decide) _ _ _ rfl (World.ownsRow.alloc hL5 _) ⟨W5.heap.size, 0, none⟩ 1 1 [.int .i64 ((j : Int))] rfl rfl (Go.cell_one_new _ _ _) (by simp [Value.oneCell']) (by unfold maxLen; omega) (by omega) (by simp; omega) ?_)
                  intro v' w1 hown' hgrow _
                  have ho2 := ownI_snoc hown'
                  have hB2 : Below w.heap.size w w1 := (hB5.alloc hs5 _).grown hgrow (by simp; omega) (fun j e => by have := (hL5.blk j e).1; omega)
                  have hgr : W5.grownBy w1 _ := (World.grownBy_alloc _ _ _).trans hgrow
                  clear hown' hgrow
                  have hO6 := hO5.kept hgr (.inr (by simp only [Value.ownBlock]; simp; omega))
                  have hG6 := hG5.kept hgr (by simp only [Value.ownBlock]; simp; omega)
                  clear hgr hO5 hG5
                  go_wp2
                  go_roundw
                  case rel => exact ⟨j + 1, by omega, by simp, by rw [Hn.out]; exact hO6, by rw [Hn.out]; exact ho2, hG6, hB2⟩
                  case measure => simp [intOf]; omega
              · have Hn := Lib.hid (show bIn m (f : Int) (j + 1) s = (ds, qs) by rw [Hst.out]; unfold bStep; rw [if_neg (fun h => hneg h.1)])
                replace cj : wr.drew.cell? ⟨w.heap.size + 1, j, none⟩ = some (.int .i64 (nth ds j)) := cj
                have HO := Lib.hid hoi
                have HL := Lib.hid hLi
                have HG := Lib.hid bGi
                have HB := Lib.hid hBi
                clear hoi hLi bGi hBi hat ct cf fj c1
                go_wp2_with fail
                clear c0
                refine wp_region_held_drew (S := fun w' => w' = wr.drew) hfw rfl ?_
                intro hS0
                refine wpAnyH_take (i := 0) (v := ?va10) rfl (by kernel_rfl) (by kernel_rfl) (by kernel_rfl) (fun _ _ _ h => h) (.inl ⟨by first | kernel_rfl | rfl, ?ya10⟩) rfl ?_
                case ya10 =>
                  intro w' hS
                  (subst hS)
                  go_simp
                  try with_reducible rfl
                refine wpAnyH_take (i := 1) (v := ?va11) rfl (by kernel_rfl) (by kernel_rfl) (by kernel_rfl) (fun _ _ _ h => h) (.inl ⟨by first | kernel_rfl | rfl, ?ya11⟩) rfl ?_
                case ya11 =>
                  intro w' hS
                  (subst hS)
                  go_simp
                  try with_reducible rfl
                refine wpAnyH_take (i := 2) (v := ?va12) rfl (by kernel_rfl) (by kernel_rfl) (by kernel_rfl) (fun _ _ _ h => h) (.inl ⟨by first | kernel_rfl | rfl, ?ya12⟩) rfl ?_
                case ya12 =>
                  intro w' hS
                  (subst hS)
                  go_simp
                  try with_reducible rfl
                refine wpAnyH_take (i := 3) (v := ?va13) rfl (by kernel_rfl) (by kernel_rfl) (by kernel_rfl) (fun _ _ _ h => h) (.inl ⟨by first | kernel_rfl | rfl, ?ya13⟩) rfl ?_
                case ya13 =>
                  intro w' hS
                  (subst hS)
                  go_simp
                  try with_reducible rfl
                try simp only [Act.put, List.getElem_toArray, List.getElem_cons_zero, List.getElem_cons_succ, List.setIfInBounds_toArray, List.set_cons_zero, List.set_cons_succ]
                refine wpAnyH_take (i := 4) (v := (.bool false)) rfl (by kernel_rfl) (by kernel_rfl) (by kernel_rfl) (fun _ _ _ h => h) (.inl ⟨by first | kernel_rfl | rfl, ?ya24⟩) rfl ?_
                case ya24 =>
                  intro w' hS
                  (subst hS)
                  go_simp
                  first | done | (simp; done) | (simp; omega) | omega | (simp [*]; done)
                refine wpAnyH_take (i := 5) (v := ?va35) rfl (by kernel_rfl) (by kernel_rfl) (by kernel_rfl) (fun _ _ _ h => h) (.inl ⟨by first | kernel_rfl | rfl, ?ya35⟩) rfl ?_
                case ya35 =>
                  intro w' hS
                  (subst hS)
                  go_simp
                  try with_reducible rfl
                try simp only [Act.put, List.getElem_toArray, List.getElem_cons_zero, List.getElem_cons_succ, List.setIfInBounds_toArray, List.set_cons_zero, List.set_cons_succ]
                refine wpAnyH_take (i := 6) (v := undef) rfl (by kernel_rfl) (by kernel_rfl) (by kernel_rfl) (fun _ _ _ h => h) (.inr ⟨by kernel_rfl, rfl⟩) rfl ?_
                refine wpAnyH_take (i := 7) (v := undef) rfl (by kernel_rfl) (by kernel_rfl) (by kernel_rfl) (fun _ _ _ h => h) (.inr ⟨by kernel_rfl, rfl⟩) rfl ?_
                refine wpAnyH_take (i := 8) (v := undef) rfl (by kernel_rfl) (by kernel_rfl) (by kernel_rfl) (fun _ _ _ h => h) (.inr ⟨by kernel_rfl, rfl⟩) rfl ?_
                refine wpAnyH_take (i := 9) (v := undef) rfl (by kernel_rfl) (by kernel_rfl) (by kernel_rfl) (fun _ _ _ h => h) (.inr ⟨by kernel_rfl, rfl⟩) rfl ?_
                refine wpAnyH_take (i := 10) (v := undef) rfl (by kernel_rfl) (by kernel_rfl) (by kernel_rfl) (fun _ _ _ h => h) (.inr ⟨by kernel_rfl, rfl⟩) rfl ?_
                refine wpAnyH_take (i := 11) (v := undef) rfl (by kernel_rfl) (by kernel_rfl) (by kernel_rfl) (fun _ _ _ h => h) (.inr ⟨by kernel_rfl, rfl⟩) rfl ?_
                refine wpAnyH_take (i := 12) (v := undef) rfl (by kernel_rfl) (by kernel_rfl) (by kernel_rfl) (fun _ _ _ h => h) (.inr ⟨by kernel_rfl, rfl⟩) rfl ?_
                try simp only [Act.put, List.getElem_toArray, List.getElem_cons_zero, List.getElem_cons_succ, List.setIfInBounds_toArray, List.set_cons_zero, List.set_cons_succ]
                refine wpAnyH_take (i := 13) (v := (.bool false)) rfl (by kernel_rfl) (by kernel_rfl) (by kernel_rfl) (fun _ _ _ h => h) (.inl ⟨by first | kernel_rfl | rfl, ?ya413⟩) rfl ?_
                case ya413 =>
                  intro w' hS
                  (subst hS)
                  go_simp
                  first | done | (simp; done) | (simp; omega) | omega | (simp [*]; done)
                refine wpAnyH_done (by kernel_rfl) ?_ _
                go_wp2
                go_roundw
                case rel => exact ⟨j + 1, by omega, by simp, by rw [Hn.out]; exact HO.out, by rw [Hn.out]; exact HL.out, HG.out, HB.out.drew⟩
                case measure => simp [intOf]; omega
            · obtain rfl : j = k := by omega
              have c0 := bGi.c0
              have hlen := hin.2.1
              clear hin Hst
              go_wp2
              go_roundw
              case rel => exact ⟨t + 1, by rw [HN.out]; omega, by simp, fun t' h => (by
                by_cases e : t' = t
                · subst e; exact Htl.out
                · exact Hall.out t' (by omega)), by rw [HN.out]; exact hoi, by rw [HN.out]; exact hLi, bGi, hBi⟩
              case measure => simp [intOf]; omega
        · have hte : (bOut m k i t).2.length = t := by omega
          have HE := Lib.hid (dL_eq hip hall hte)
          have hnl : ¬ (t : Int) < ((bOut m k i t).2.length : Int) := by omega
          obtain ⟨s, hs⟩ : ∃ s, bOut m k i t = s := ⟨_, rfl⟩
          rw [hs] at ho hL HE hnl
          clear hte hall hinv hle ht hs htl
          obtain ⟨al, cl, rfl⟩ := hL.ints.shape
          go_wp2
          go_ret
          exact ⟨_, rfl, by rw [HE.out]; exact ho.base (by omega), hB⟩

end Go.Proofs.Ytieobjoijalijaa
