/-
  AnswersOf of the model.
  Conditions: lists of at most 1048576 elements.
-/
import Derived.Test.YtmmpoaphjjpjaaaAno
namespace Go.Proofs.Ytmmpoaphjjpjaaa
open Go.RowKit Go.Shelf
attribute [local go_sem] Oper.semAt_some

set_option maxRecDepth 100000 in
set_option maxHeartbeats 16000000 in
theorem s_AnswersOf (cl cp cd : Value) (ls ps ds : List Int) (c1 : Value) (p : List Int) (w : World) (hI : Jobs3 w.heap.size w cl cp cd ls ps ds) (_hN : J64 ls ps ds) (hm : JLen ls ps ds) (hT : Ints w.heap.size w c1 p) (_hN1 : I64s p) (hm1 : p.length ≤ 1048576) (_hcap : CapOk c1 p.length) :
    Calls Try.prog 49 #[.agg #[cl, cp, cd], c1] w (GivesI w (ansR ls ps ds p) fun v => .tuple #[v, .int .i64 (ansC ls ps ds p)]) := by
  obtain ⟨i0, hi, hz0, hz1, hz2⟩ := info_parts Try.infoI2
  obtain ⟨al, capl, rfl⟩ := hI.l.shape
  obtain ⟨ap, capp, rfl⟩ := hI.p.shape
  obtain ⟨ad, capd, rfl⟩ := hI.d.shape
  obtain ⟨a2, cap2, rfl⟩ := hT.shape
  have hB0 := below_jobs w (.slice al ls.length capl) (.slice ap ps.length capp) (.slice ad ds.length capd)
  cases ht : jobsOk ls ps ds
  · have H := Lib.hid (ans_no (p := p) ht)
    have Ht := Lib.hid ht
    clear ht
    go_enter Try.func49, Try.ntmps49
    go_wp2_with fail
    refine (l04Is_c _ _ _ ls ps ds _ (hI.later hB0) hm).mono ?_
    rintro e w1 ⟨he, hb⟩
    rw [Ht.out] at he
    subst he
    go_wp2
    go_ret2
    exact ⟨.slice none 0 0, by rw [H.out.2]; rfl, by rw [H.out.1]; exact ownI_nil _ _, hB0.trans (hb.mono (by simp))⟩
  · have hP := jobsP ht
    have HP := Lib.hid hP
    have h8 := hP.len8
    have Ht := Lib.hid ht
    cases ho : ordOk ls.length p
    · have H := Lib.hid (ans_range ht ho)
      have Ho := Lib.hid ho
      clear ht ho hP
      go_enter Try.func49, Try.ntmps49
      go_wp2_with fail
      refine (l04Is_c _ _ _ ls ps ds _ (hI.later hB0) hm).mono ?_
      rintro e w1 ⟨he, hb⟩
      rw [Ht.out] at he
      subst he
      have hB1 : Below w.heap.size w w1 := hB0.trans (hb.mono (by simp))
      have b1 : Box3 w1 w.heap.size 41 (.slice al ls.length capl) (.slice ap ps.length capp) (.slice ad ds.length capd) := (Box3.new _ _ _ _ _).later hb
      clear hb hB0
      have c0 := b1.c0
      go_wp2_with fail
      refine (l01Order_c _ p ls.length _ (hT.later hB1) hm1 (by omega)).mono ?_
      rintro e w2 ⟨he, hb⟩
      rw [Ho.out] at he
      subst he
      go_wp2
      go_ret2
      exact ⟨.slice none 0 0, by rw [H.out.2]; rfl, by rw [H.out.1]; exact ownI_nil _ _, hB1.trans (hb.mono hB1.size)⟩
    · have H := Lib.hid (ans_ok ht ho)
      have Ho := Lib.hid ho
      obtain ⟨hpl, hpf⟩ := ordOk_len ho
      have Hpl := Lib.hid hpl
      have Hpf := Lib.hid hpf
      have hp8 : p.length ≤ 8 := by omega
      have hlp : ls.length ≤ ps.length := by have := hP.lp; omega
      have hld : ls.length ≤ ds.length := by have := hP.ld; omega
      clear ht ho hpl hpf hP
      go_enter Try.func49, Try.ntmps49
      go_wp2_with fail
      refine (l04Is_c _ _ _ ls ps ds _ (hI.later hB0) hm).mono ?_
      rintro e w1 ⟨he, hb⟩
      rw [Ht.out] at he
      subst he
      have hB1 : Below w.heap.size w w1 := hB0.trans (hb.mono (by simp))
      have b1 : Box3 w1 w.heap.size 41 (.slice al ls.length capl) (.slice ap ps.length capp) (.slice ad ds.length capd) := (Box3.new _ _ _ _ _).later hb
      clear hb hB0
      have c0 := b1.c0
      go_wp2_with fail
      refine (l01Order_c _ p ls.length _ (hT.later hB1) hm1 (by omega)).mono ?_
      rintro e w2 ⟨he, hb⟩
      rw [Ho.out] at he
      subst he
      have hB2 := hB1.trans (hb.mono hB1.size)
      replace b1 := b1.later hb
      have hbl := b1.lt
      clear hb hB1 c0
      go_wp2_with (at_make; refine wpList_make_full _ rfl _ _ 22 rfl (w.heap.size + 1) 2 i0 (.int .i64 0) 1 Try.underlying22 hi hz0 hz1 .i64 .i64 _ _ p.length rfl rfl rfl rfl ?c1 ?c2 ?c3 ?_)
      case c1 => rw [hz2]; omega
      case c2 => unfold maxLen; omega
      case c3 => omega
      intro w3 hown hgrow
      have ho3 := ownI_made hown
      rw [show List.replicate p.length 0 = ansTo ls ps ds p 0 by rw [Hpl.out]; rfl] at ho3
      have hB3 : Below w.heap.size w w3 := hB2.grown hgrow hB2.size (by simp)
      replace b1 := b1.kept hgrow (by simp)
      have hw2 := hB2.size
      clear hown hgrow hB2
      go_wp2
      go_loopw [7] (fun i wr => ∃ k : Nat, k ≤ p.length ∧ i = .int .i64 k ∧ OwnI (w.heap.size + 1) wr (.slice (some ⟨w2.heap.size, 0, none⟩) p.length p.length) (ansTo ls ps ds p k) ∧ Box3 wr w.heap.size 41 (.slice al ls.length capl) (.slice ap ps.length capp) (.slice ad ds.length capd) ∧ Below w.heap.size w wr) (fun i _ => p.length - (intOf i).toNat)
      case atStart => exact ⟨0, Nat.zero_le _, rfl, ho3, b1, hB3⟩
      case round =>
        obtain ⟨k, hk, rfl, hok, bk, hB⟩ := hrel
        clear ho3 b1 hB3
        by_cases hlt : k < p.length
        · have hrr := fineTo_at Hpf.out hlt
          obtain ⟨m, hm2⟩ : ∃ m : Nat, nth p k = m := ⟨(nth p k).toNat, by omega⟩
          have hmn : m < ls.length := by omega
          obtain ⟨bp, op, rfl, ep⟩ := (hT.below hB).cellOf hlt
          rw [hm2] at ep
          clear hrr
          have hmp : (m : Int) < (p.length : Int) := by rw [Hpl.out]; omega
          have hkp : (k : Int) < (p.length : Int) := by omega
          have hcm := hok.cellAt (j := m) (by rw [ansTo_length]; exact hmn)
          have hfm := hok.frozen m
          have hw : w.heap.size + 1 ≤ w2.heap.size := by omega
          have hD := HP.out.d m hmn
          have hPm := HP.out.p m hmn
          obtain ⟨dN, hdN⟩ : ∃ dN : Nat, nth ds m = dN := ⟨(nth ds m).toNat, by omega⟩
          have hdN1 : 1 ≤ dN ∧ dN ≤ 60 := by omega
          have hans : ansOf ls ps ds (p.take k) m = ansS (needOf ls ps (p.take k) m) dN 1 := by unfold ansOf; rw [hdN]; rfl
          have hst : ansTo ls ps ds p (k + 1) = (ansTo ls ps ds p k).set m (ansOf ls ps ds (p.take k) m) := by rw [ansTo, hm2]; rfl
          have hbd := (fine_nodup (fineTo_mono Hpf.out (Nat.le_of_lt hlt)) (Nat.le_of_lt hlt)).2
          have HBD := Lib.hid hbd
          have HST := Lib.hid hst
          have HAN := Lib.hid hans
          have HDN := Lib.hid hdN
          have hLm := HP.out.l m hmn
          obtain ⟨bd, od, rfl, ed⟩ := hI.d.cellOf (k := m) (by omega)
          obtain ⟨bl, ol, rfl, el⟩ := hI.l.cellOf (k := m) hmn
          have hbd1 := World.block_lt_of_cell? w _ ed
          have hbl1 := World.block_lt_of_cell? w _ el
          rw [hdN] at ed
          have im1 : (m : Int) < (ls.length : Int) := by omega
          have im2 : (m : Int) < (ds.length : Int) := by omega
          have hB4 := hB.setCell (p := ⟨w2.heap.size, m, none⟩) (by show w.heap.size ≤ w2.heap.size; omega) (.int .i64 (-1))
          have b4 := bk.other (b' := w2.heap.size) (i := m) (by omega) (.int .i64 (-1))
          have o4 := (hok.stored m (-1)).1
          clear hbd hst hans hdN hD hPm
          go_wp2_with fail
          clear hok bk hB hcm hfm ep
          go_loopw [9] (fun r wr => ∃ q : Nat, q ≤ dN ∧ r = .int .i64 ((q : Int) + 1) ∧ ansOf ls ps ds (p.take k) m = ansS (needOf ls ps (p.take k) m) (dN - q) ((q : Int) + 1) ∧ OwnI (w.heap.size + 1) wr (.slice (some ⟨w2.heap.size, 0, none⟩) p.length p.length) ((ansTo ls ps ds p k).set m (-1)) ∧ Box3 wr w.heap.size 41 (.slice (some ⟨bl, ol, none⟩) ls.length capl) (.slice ap ps.length capp) (.slice (some ⟨bd, od, none⟩) ds.length capd) ∧ Below w.heap.size w wr) (fun r _ => dN + 1 - (intOf r).toNat)
          case atStart => exact ⟨0, by omega, rfl, HAN.out, o4, b4, hB4⟩
          case round =>
            obtain ⟨q, hq, rfl, hans, ho, bk, hB⟩ := hrel
            clear hB4 b4 o4
            have HA := Lib.hid hans
            clear hans
            have c0 := bk.c0
            have c2 := bk.c2
            have ed' := (hB.cell hbd1).trans ed
            by_cases hqd : q < dN
            · have hle : (q : Int) + 1 ≤ (dN : Int) := by omega
              have el' := (hB.cell hbl1).trans el
              obtain ⟨r, hr⟩ : ∃ r, (q : Int) + 1 = r := ⟨_, rfl⟩
              have hrb : 1 ≤ r ∧ r ≤ 60 := by omega
              have HR := Lib.hid hr
              rw [hr] at hle ⊢
              clear hr
              go_wp2_with fail
              go_loopw [10, 11] (fun nd kk wr => ∃ j : Nat, j ≤ k ∧ kk = .int .i64 j ∧ nd = .int .i64 (nth ls m + aheadSum ls ps r (p.take j)) ∧ OwnI (w.heap.size + 1) wr (.slice (some ⟨w2.heap.size, 0, none⟩) p.length p.length) ((ansTo ls ps ds p k).set m (-1)) ∧ Box3 wr w.heap.size 41 (.slice (some ⟨bl, ol, none⟩) ls.length capl) (.slice ap ps.length capp) (.slice (some ⟨bd, od, none⟩) ds.length capd) ∧ Below w.heap.size w wr) (fun _ kk _ => k - (intOf kk).toNat)
              case atStart => exact ⟨0, by omega, rfl, by simp [aheadSum], ho, bk, hB⟩
              case round =>
                obtain ⟨j, hj, rfl, rfl, ho, bk, hB⟩ := hrel
                have c0 := bk.c0
                have c1 := bk.c1
                by_cases hjk : j < k
                · have hjp : j < p.length := by omega
                  have hrr2 := fineTo_at Hpf.out hjp
                  obtain ⟨x, hx⟩ : ∃ x : Nat, nth p j = x := ⟨(nth p j).toNat, by omega⟩
                  have hxn : x < ls.length := by omega
                  have ej := (hT.below hB).cellOf hjp
                  obtain ⟨bq, oq, eq1, ej⟩ := ej
                  cases eq1
                  rw [hx] at ej
                  have hjp2 : (j : Int) < (p.length : Int) := by omega
                  obtain ⟨b1, o1, rfl, x1⟩ := (hI.p.below hB).cellOf (k := x) (by omega)
                  have y1 := (hI.l.below hB).cellOf hxn
                  obtain ⟨b2, o2, eq2, y1⟩ := y1
                  cases eq2
                  have hl := HP.out.l x hxn
                  have hp := HP.out.p x hxn
                  have ix1 : (x : Int) < (ls.length : Int) := by omega
                  have ix2 : (x : Int) < (ps.length : Int) := by omega
                  have hsum : aheadSum ls ps r (p.take (j + 1)) = aheadSum ls ps r (p.take j) + nth ls x * comesIn r (nth ps x) := by rw [take_snoc hjp, aheadSum_snoc, hx]; rfl
                  have hab := aheadSum_bd (ls := ls) (ps := ps) (ds := ds) HP.out hrb.1 hrb.2 (xs := p.take j) (fun y hy => HBD.out y ((List.take_subset_take_left p (by omega : j ≤ k)) hy))
                  have hlen : (p.take j).length ≤ 8 := by rw [List.length_take]; omega
                  have hab2 : aheadSum ls ps r (p.take j) ≤ 9600 := by have := hab.2; omega
                  obtain ⟨l, e1⟩ : ∃ l, nth ls x = l := ⟨_, rfl⟩
                  obtain ⟨pp, e2⟩ : ∃ pp, nth ps x = pp := ⟨_, rfl⟩
                  rw [e1] at hl y1 hsum
                  rw [e2] at hp x1 hsum
                  have htb := comesIn_bd (r := r) (p := pp) hp.1 hrb.1
                  have hal := comesIn_alt (r := r) (p := pp) hp.1
                  have hdv : (r + pp - 1).tdiv pp = comesIn r pp := by rw [Int.tdiv_eq_ediv_of_nonneg (by omega), hal]
                  obtain ⟨t, htt⟩ : ∃ t, comesIn r pp = t := ⟨_, rfl⟩
                  rw [htt] at htb hdv hsum
                  have hz : ¬ pp = 0 := by omega
                  have m1 : 0 ≤ t * l := Int.mul_nonneg (by omega) (by omega)
                  have m2 : t * l ≤ 60 * 20 := Int.mul_le_mul (by omega) hl.2 (by omega) (by omega)
                  obtain ⟨u, huu⟩ : ∃ u, t * l = u := ⟨_, rfl⟩
                  rw [Int.mul_comm l t, huu] at hsum
                  rw [huu] at m1 m2
                  obtain ⟨s, hss⟩ : ∃ s, nth ls m + aheadSum ls ps r (p.take j) = s := ⟨_, rfl⟩
                  have hsb : 0 ≤ s ∧ s ≤ 10000 := by have := hab.1; omega
                  have HS := Lib.hid (show nth ls m + aheadSum ls ps r (p.take (j + 1)) = s + u by rw [hsum]; omega)
                  rw [hss]
                  clear hsum hal htt hss e1 e2 hx hrr2 hab hab2
                  go_wp2
                  go_quiet (fail)
                  go_wp2
                  go_roundw
                  case rel => exact ⟨j + 1, by omega, by simp, by rw [HS.out], OwnI.below ho (below_drewN (Below.refl _ _) _), bk, below_drewN hB _⟩
                  case measure => simp [intOf]; omega
                · obtain rfl : j = k := by omega
                  have hnd : nth ls m + aheadSum ls ps r (p.take j) = needOf ls ps (p.take j) m r := rfl
                  rw [hnd]
                  have hcm := ho.cellAt (j := m) (by rw [List.length_set, ansTo_length]; exact hmn)
                  have hfm := ho.frozen m
                  by_cases hit : needOf ls ps (p.take j) m r = r
                  · have hq2 : (needOf ls ps (p.take j) m r == r) = true := by rw [beq_iff_eq]; exact hit
                    have Hit := Lib.hid hit
                    clear hit hnd
                    have hfin : ansTo ls ps ds p (j + 1) = ((ansTo ls ps ds p j).set m (-1)).set m r := by
                      rw [HST.out, HA.out, show dN - q = (dN - q - 1) + 1 by omega, HR.out, ansS_hit Hit.out, List.set_set]
                    have HF := Lib.hid hfin
                    clear hfin
                    go_wp2
                    go_roundw
                    case rel => exact ⟨j + 1, by omega, by simp, by rw [HF.out]; exact (ho.stored m r).1, bk.other (b' := w2.heap.size) (i := m) (by omega) _, hB.setCell (p := ⟨w2.heap.size, m, none⟩) (by show w.heap.size ≤ w2.heap.size; omega) _⟩
                    case measure => simp [intOf]; omega
                  · have hq2 : (needOf ls ps (p.take j) m r == r) = false := by rw [beq_eq_false_iff_ne]; exact hit
                    have Hit := Lib.hid hit
                    clear hit hnd
                    have hans2 : ansOf ls ps ds (p.take j) m = ansS (needOf ls ps (p.take j) m) (dN - (q + 1)) (((q + 1 : Nat) : Int) + 1) := by
                      rw [HA.out, show dN - q = (dN - (q + 1)) + 1 by omega, HR.out, ansS_step Hit.out]; congr 1; have := HR.out; omega
                    have HA2 := Lib.hid hans2
                    clear hans2
                    go_wp2
                    go_roundw
                    case rel => exact ⟨q + 1, by omega, by simp only [Value.int.injEq, true_and]; have := HR.out; omega, HA2.out, ho, bk, hB⟩
                    case measure => simp [intOf]; have := HR.out; omega
            · have hqe : q = dN := by omega
              have hle : (dN : Int) < (q : Int) + 1 := by omega
              have hfin : ansTo ls ps ds p (k + 1) = (ansTo ls ps ds p k).set m (-1) := by
                rw [HST.out, HA.out, show dN - q = 0 by omega]; rfl
              have HF := Lib.hid hfin
              clear hfin hqe
              go_wp2
              go_roundw
              case rel => exact ⟨k + 1, by omega, by simp, by rw [HF.out]; exact ho, bk, hB⟩
              case measure => simp [intOf]; omega
        · obtain rfl : k = p.length := by omega
          go_wp2
          go_ret2
          exact ⟨.slice (some ⟨w2.heap.size, 0, none⟩) p.length p.length, by rw [H.out.2]; rfl, by rw [H.out.1, ← Hpl.out]; exact hok.base (by omega), hB⟩

end Go.Proofs.Ytmmpoaphjjpjaaa
