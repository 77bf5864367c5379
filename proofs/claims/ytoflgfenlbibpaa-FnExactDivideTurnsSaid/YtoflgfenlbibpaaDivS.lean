/-
  DivideTurns of the model.
  Conditions: lists of at most 1048576 elements.
-/
import Derived.Test.YtoflgfenlbibpaaDivM
import Derived.Test.YtoflgfenlbibpaaDens
import Derived.Test.YtoflgfenlbibpaaRep
namespace Go.Proofs.Ytoflgfenlbibpaa
open Go.RowKit Go.Shelf
attribute [local go_sem] Oper.semAt_some

def divR (ts : List Int) (i m : Int) : List Int := if divC ts i m = 0 then divL (repL ts (timesN ts i m)) i m.toNat (most ts) else []
theorem divC_I64 (ts : List Int) (i m : Int) : 0 ≤ divC ts i m ∧ divC ts i m ≤ 4 := by unfold divC; split <;> (try split) <;> (try split) <;> omega
theorem divOk_parts {ts : List Int} {i m : Int} (h : divOk ts i m = true) : turnsOk ts 8 = true ∧ (0 ≤ i ∧ i ≤ 7) ∧ (2 ≤ m ∧ m ≤ 8) := by
  unfold divOk at h
  rw [Bool.and_eq_true, Bool.and_eq_true] at h
  exact ⟨h.1.1, inB_true.1 h.1.2, inB_true.1 h.2⟩
theorem divR_len (ts : List Int) (i m : Int) : (divR ts i m).length * 8 ≤ 140737488351232 := by
  unfold divR
  split
  · rename_i h
    have hk : divOk ts i m = true := by
      cases e : divOk ts i m
      · unfold divC at h; rw [e] at h; simp at h
      · rfl
    unfold divC at h
    rw [hk] at h
    simp only [if_true] at h
    split at h
    · omega
    · split at h
      · rename_i hc
        unfold divL
        rw [divTo_length, repL_length]
        have hc2 := hc.2
        rw [Nat.mul_comm] at hc2
        omega
      · omega
  · simp
/-- place p of the repeated turns -/
theorem nth_rep {ts : List Int} {q t n : Nat} (ht : t < q) (hn : n < ts.length) : nth (repL ts q) (t * ts.length + n) = nth ts n := by
  have h1 : t * ts.length + n < q * ts.length := by
    have : (t + 1) * ts.length ≤ q * ts.length := Nat.mul_le_mul_right _ ht
    rw [Nat.add_mul, Nat.one_mul] at this
    omega
  rw [nth_repL ts q h1]
  congr 1
  rw [Nat.mul_comm, Nat.mul_add_mod]
  exact Nat.mod_eq_of_lt hn

set_option maxRecDepth 100000 in
set_option maxHeartbeats 8000000 in
theorem s_DivideTurns (c0 : Value) (ts : List Int) (i m : Int) (w : World) (hI : Ints w.heap.size w c0 ts) (_hN : I64s ts) (hm : ts.length ≤ 1048576) (hvi : I64 i) (hvm : I64 m) :
    Calls Try.prog 88 #[c0, .int .i64 i, .int .i64 m] w (GivesI w (divR ts i m) fun v => .tuple #[v, .int .i64 (divC ts i m)]) := by
  obtain ⟨i0, hi, hz0, hz1, hz2⟩ := info_parts Try.infoI2
  obtain ⟨a, cap, rfl⟩ := hI.shape
  obtain ⟨hi0, hi1⟩ := hvi
  obtain ⟨hm0, hm1⟩ := hvm
  cases hok : divOk ts i m
  · have Hc := Lib.hid (show divC ts i m = 2 by unfold divC; rw [hok]; rfl)
    have Hr := Lib.hid (show divR ts i m = [] by unfold divR; rw [Hc.out]; rfl)
    unfold divOk at hok
    go_enter Try.func88, Try.ntmps88
    go_wp2_with fail
    refine (l01Turns_c _ ts 8 _ hI (by omega) (by omega) (by omega)).mono ?_
    rintro e w1 ⟨rfl, rfl⟩
    cases h1 : turnsOk ts 8
    · clear hok h1
      go_wp2
      go_ret2
      exact ⟨_, ret_v2 Hc.out.symm, by rw [Hr.out]; exact ownI_nil _ _, Below.refl _ _⟩
    · rw [h1] at hok
      clear h1
      go_wp2_with fail
      cases h2 : inB i 0 7
      · have H2 := Lib.hid h2
        clear hok h2
        refine (l01In_d false _ _ _ _ H2.out).mono ?_
        rintro e w1 ⟨rfl, rfl⟩
        go_wp2
        go_ret2
        exact ⟨_, ret_v2 Hc.out.symm, by rw [Hr.out]; exact ownI_nil _ _, Below.refl _ _⟩
      · have H2 := Lib.hid h2
        have H3 := Lib.hid (show inB m 2 8 = false by rw [h2] at hok; simpa using hok)
        clear hok h2
        refine (l01In_d true _ _ _ _ H2.out).mono ?_
        rintro e w1 ⟨rfl, rfl⟩
        go_wp2_with fail
        refine (l01In_d false _ _ _ _ H3.out).mono ?_
        rintro e w1 ⟨rfl, rfl⟩
        go_wp2
        go_ret2
        exact ⟨_, ret_v2 Hc.out.symm, by rw [Hr.out]; exact ownI_nil _ _, Below.refl _ _⟩
  · obtain ⟨ht, hib, hmb⟩ := divOk_parts hok
    have Hok := Lib.hid hok
    have Ht := Lib.hid ht
    have H2 := Lib.hid (inB_true.2 hib)
    have H3 := Lib.hid (inB_true.2 hmb)
    have hlb := turnsOk_len ht
    obtain ⟨p, rfl⟩ : ∃ p : Nat, i = p := ⟨i.toNat, by omega⟩
    obtain ⟨q, rfl⟩ : ∃ q : Nat, m = q := ⟨m.toNat, by omega⟩
    clear hok ht
    go_enter Try.func88, Try.ntmps88
    go_wp2_with fail
    refine (l01Turns_c _ ts 8 _ hI (by omega) (by omega) (by omega)).mono ?_
    rintro e w1 ⟨he, rfl⟩
    rw [Ht.out] at he
    subst he
    go_wp2_with fail
    refine (l01In_d true _ _ _ _ H2.out).mono ?_
    rintro e w1 ⟨rfl, rfl⟩
    go_wp2_with fail
    refine (l01In_d true _ _ _ _ H3.out).mono ?_
    rintro e w1 ⟨rfl, rfl⟩
    go_wp2
    go_loop [8, 9, 10] (fun c mo n => ∃ k : Nat, k ≤ ts.length ∧ n = .int .i64 k ∧ c = .int .i64 ((seenN ts p k : Nat) : Int) ∧ mo = .int .i64 (mostI ts p k)) (fun _ _ n => ts.length - (intOf n).toNat)
    case atStart => exact ⟨0, Nat.zero_le _, rfl, rfl, rfl⟩
    case round =>
      obtain ⟨k, hk, rfl, rfl, rfl⟩ := hrel
      have hsl : seenN ts p k ≤ k := by
        unfold seenN slotsTo
        have := List.length_filter_le (fun j => nth ts j == (p : Int)) (List.range k)
        simpa using this
      by_cases hlt : k < ts.length
      · obtain ⟨b, off, rfl, hb, hc⟩ := hI.at_ hlt
        have hcx := hc k hlt
        have hnb := turnsOk_nth Ht.out hlt
        have Hms := Lib.hid (mostI_succ (i := (p : Int)) hlt)
        obtain ⟨x, hx⟩ : ∃ x, nth ts k = x := ⟨_, rfl⟩
        have Hx := Lib.hid hx
        rw [hx] at hcx hnb
        clear hc hx
        by_cases hxi : x = (p : Int)
        · have Hsn := Lib.hid (seenN_yes (R := ts) (i := (p : Int)) (n := k) (by rw [Hx.out]; exact hxi))
          have hbe : (x == (p : Int)) = true := by simpa using hxi
          by_cases hmx : mostI ts p k < x
          · go_wp2
            exact ⟨⟨k + 1, by omega, by simp, by rw [Hsn.out]; simp, by rw [Hms.out, Hx.out]; congr 1; omega⟩, by simp [intOf]; omega⟩
          · go_wp2
            exact ⟨⟨k + 1, by omega, by simp, by rw [Hsn.out]; simp, by rw [Hms.out, Hx.out]; congr 1; omega⟩, by simp [intOf]; omega⟩
        · have Hsn := Lib.hid (seenN_no (R := ts) (i := (p : Int)) (n := k) (by rw [Hx.out]; exact hxi))
          have hbe : (x == (p : Int)) = false := by simpa using hxi
          by_cases hmx : mostI ts p k < x
          · go_wp2
            exact ⟨⟨k + 1, by omega, by simp, by rw [Hsn.out], by rw [Hms.out, Hx.out, show max (mostI ts p k) x = x from by omega]⟩, by simp [intOf]; omega⟩
          · go_wp2
            exact ⟨⟨k + 1, by omega, by simp, by rw [Hsn.out], by rw [Hms.out, Hx.out, show max (mostI ts p k) x = mostI ts p k from by omega]⟩, by simp [intOf]; omega⟩
      · obtain rfl : k = ts.length := by omega
        have hse : seenN ts p ts.length = (slotsL ts p).length := rfl
        rw [hse] at hsl ⊢
        obtain ⟨c, hce⟩ : ∃ c, (slotsL ts p).length = c := ⟨_, rfl⟩
        have Hce := Lib.hid hce
        rw [hce] at hsl ⊢
        clear hse
        by_cases hc0 : c = 0
        · subst hc0
          have Hc := Lib.hid (show divC ts p q = 4 by unfold divC; rw [Hok.out, if_pos rfl, if_pos Hce.out])
          have Hr := Lib.hid (show divR ts p q = [] by unfold divR; rw [Hc.out]; rfl)
          clear hce
          go_wp2
          go_ret2
          exact ⟨_, ret_v2 Hc.out.symm, by rw [Hr.out]; exact ownI_nil _ _, Below.refl _ _⟩
        · have hmm : mostI ts p ts.length = most ts := mostI_most (by omega) (by omega)
          rw [hmm]
          clear hmm hce
          have hmb2 := most_bd Ht.out
          have hgp : 0 < Nat.gcd c q := Nat.gcd_pos_of_pos_right _ (by omega)
          have hgl : Nat.gcd c q ≤ q := gcd_le_right' (by omega)
          have hN1 : 1 ≤ q / Nat.gcd c q := Nat.div_pos hgl hgp
          have hN2 : q / Nat.gcd c q ≤ q := Nat.div_le_self _ _
          have hT : timesN ts p q = q / Nat.gcd c q := by unfold timesN; rw [Hce.out, Int.toNat_natCast]
          have t1 : ((q : Nat) : Int).tdiv ((Nat.gcd c q : Nat) : Int) = ((q / Nat.gcd c q : Nat) : Int) := rfl
          have t2 : ((q : Nat) : Int) / ((Nat.gcd c q : Nat) : Int) = ((q / Nat.gcd c q : Nat) : Int) := by simp
          go_wp2_with fail
          refine (l01Gcd_c c q _ (by omega) (by omega)).mono ?_
          rintro e w1 ⟨rfl, hb⟩
          obtain ⟨g, hg⟩ : ∃ g, Nat.gcd c q = g := ⟨_, rfl⟩
          rw [hg] at hgp hgl hN1 hN2 hT t1 t2 ⊢
          obtain ⟨N, hN⟩ : ∃ N, q / g = N := ⟨_, rfl⟩
          rw [hN] at hN1 hN2 hT t1 t2
          have HT := Lib.hid hT
          have hwN : IntKind.i64.wrap (N : Int) = (N : Int) := by rw [IntKind.wrap_i64]; omega
          have hNl : (N : Int) * (ts.length : Int) = ((N * ts.length : Nat) : Int) := by simp
          have hNb : N * ts.length ≤ 8 * 120 := Nat.mul_le_mul (by omega) (by omega)
          obtain ⟨P, hP⟩ : ∃ P, N * ts.length = P := ⟨_, rfl⟩
          rw [hP] at hNl hNb
          have hwP : IntKind.i64.wrap (P : Int) = (P : Int) := by rw [IntKind.wrap_i64]; omega
          have HP := Lib.hid hP
          have hg0 : ¬ g = 0 := by omega
          obtain ⟨M, hM⟩ : ∃ M, most ts = M := ⟨_, rfl⟩
          have HM := Lib.hid hM
          rw [hM] at hmb2 ⊢
          clear hT hP hg hN hM
          by_cases hbig : 8 < M + q
          · have Hc := Lib.hid (show divC ts p q = 3 by unfold divC; rw [Hok.out, if_pos rfl, if_neg (by rw [Hce.out]; exact hc0), if_neg (by rw [HM.out]; omega)])
            have Hr := Lib.hid (show divR ts p q = [] by unfold divR; rw [Hc.out]; rfl)
            go_wp2
            go_ret2
            exact ⟨_, ret_v2 Hc.out.symm, by rw [Hr.out]; exact ownI_nil _ _, hb⟩
          by_cases hbig2 : 120 < P
          · have Hc := Lib.hid (show divC ts p q = 3 by unfold divC; rw [Hok.out, if_pos rfl, if_neg (by rw [Hce.out]; exact hc0), if_neg (by rw [HT.out, Nat.mul_comm, HP.out]; omega)])
            have Hr := Lib.hid (show divR ts p q = [] by unfold divR; rw [Hc.out]; rfl)
            go_wp2
            go_ret2
            exact ⟨_, ret_v2 Hc.out.symm, by rw [Hr.out]; exact ownI_nil _ _, hb⟩
          have hdc : divC ts p q = 0 := by unfold divC; rw [Hok.out, if_pos rfl, if_neg (by rw [Hce.out]; exact hc0), if_pos (by rw [HM.out, HT.out, Nat.mul_comm, HP.out]; omega)]
          have Hc := Lib.hid hdc
          have Hr := Lib.hid (show divR ts p q = divL (repL ts N) p q M by unfold divR; rw [if_pos hdc, HT.out, HM.out, Int.toNat_natCast])
          clear hdc
          obtain ⟨R, hR⟩ : ∃ R, repL ts N = R := ⟨_, rfl⟩
          have hRl : R.length = N * ts.length := by rw [← hR, repL_length]
          have HR := Lib.hid hR
          have HRl := Lib.hid hRl
          rw [hR] at Hr
          clear hR hRl
          go_wp2
          go_loopw [11, 12, 13] (fun tm v nx wr => ∃ t : Nat, t ≤ N ∧ tm = .int .i64 ((N - t : Nat) : Int) ∧ nx = .int .i64 ((seenN R p (t * ts.length) % q : Nat) : Int) ∧ OwnI w.heap.size wr v (divTo R p q M (t * ts.length)) ∧ Below w.heap.size w wr) (fun tm _ _ _ => (intOf tm).toNat)
          case atStart => exact ⟨0, Nat.zero_le _, by simp, by simp [seenN, slotsTo], by rw [Nat.zero_mul]; exact (ownI_empty w1).base hb.size, hb.alloc hb.size _⟩
          case round =>
            obtain ⟨t, ht, rfl, rfl, ho, hB1⟩ := hrel
            obtain ⟨B, hBe⟩ : ∃ B, t * ts.length = B := ⟨_, rfl⟩
            have HB := Lib.hid hBe
            have hBl : B ≤ 8 * 120 := by rw [← hBe]; exact Nat.mul_le_mul (by omega) (by omega)
            rw [hBe] at ho ⊢
            have hrq := Nat.mod_lt (seenN R p B) (show 0 < q by omega)
            obtain ⟨r0, hr0⟩ : ∃ r0, seenN R p B % q = r0 := ⟨_, rfl⟩
            have Hr0 := Lib.hid hr0
            rw [hr0] at hrq ⊢
            clear hBe hr0
            by_cases htN : t < N
            · have hz : ((N - t : Nat) : Int) - 1 = ((N - (t + 1) : Nat) : Int) := by omega
              have hz0' : 0 < ((N - t : Nat) : Int) := by omega
              have hzz : 0 < N - t := by omega
              go_wp2
              go_loopw [12, 13, 14] (fun v nx i wr => ∃ n : Nat, n ≤ ts.length ∧ i = .int .i64 n ∧ nx = .int .i64 ((seenN R p (B + n) % q : Nat) : Int) ∧ OwnI w.heap.size wr v (divTo R p q M (B + n)) ∧ Below w.heap.size w wr) (fun _ _ i _ => ts.length - (intOf i).toNat)
              case atStart => exact ⟨0, Nat.zero_le _, rfl, by rw [Nat.add_zero, Hr0.out], ho, hB1⟩
              case round =>
                obtain ⟨n, hn, rfl, rfl, ho2, hB2⟩ := hrel
                have hpB := hB2.size
                clear ho hB1
                by_cases hlt : n < ts.length
                · obtain ⟨b, off, rfl, hbl, hc⟩ := (hI.below hB2).at_ hlt
                  have hcx := hc n hlt
                  have hnb := turnsOk_nth Ht.out hlt
                  have hrep : nth R (B + n) = nth ts n := by rw [← HR.out, ← HB.out]; exact nth_rep htN hlt
                  have hmod := Nat.mod_add_mod (seenN R p (B + n)) q 1
                  have hrq2 := Nat.mod_lt (seenN R p (B + n)) (show 0 < q by omega)
                  obtain ⟨x, hx⟩ : ∃ x, nth ts n = x := ⟨_, rfl⟩
                  rw [hx] at hcx hnb hrep
                  have Hrep := Lib.hid hrep
                  have Hsu := Lib.hid (divTo_succ R p q M (B + n))
                  obtain ⟨r, hr⟩ : ∃ r, seenN R p (B + n) % q = r := ⟨_, rfl⟩
                  have Hrr := Lib.hid hr
                  rw [hr] at hrq2 hmod ⊢
                  have Hmod := Lib.hid hmod
                  have hrow := ho2
                  unfold OwnI at hrow
                  rw [divTo_length] at hrow
                  clear hc hx hrep hr hmod
                  by_cases hxp : x = (p : Int)
                  · have hbe : (x == (p : Int)) = true := by simpa using hxp
                    have Hsn := Lib.hid (seenN_yes (R := R) (i := (p : Int)) (n := B + n) (by rw [Hrep.out]; exact hxp))
                    have m1 : ((r : Int) + 1).tmod q = (((r + 1) % q : Nat) : Int) := rfl
                    have m2 : ((r : Int) + 1) % q = (((r + 1) % q : Nat) : Int) := by simp
                    have hlm := Nat.mod_lt (r + 1) (show 0 < q by omega)
                    obtain ⟨s1, hs1⟩ : ∃ s1, (r + 1) % q = s1 := ⟨_, rfl⟩
                    have Hs1 := Lib.hid hs1
                    rw [hs1] at m1 m2 hlm
                    have hws : IntKind.i64.wrap (s1 : Int) = (s1 : Int) := by rw [IntKind.wrap_i64]; omega
                    have hq0 : ¬ q = 0 := by omega
                    clear hs1
                    by_cases hrp : ¬ 0 < r
                    · have Hdn := Lib.hid (show divN R p q M (B + n) = (p : Int) by unfold divN; rw [if_pos (by rw [Hrep.out]; exact hxp), Hrr.out, if_pos (by omega)])
                      subst hxp
                      go_wp2_with (at_builtin; refine wpList_append_own _ rfl _ _ 24 rfl w.heap.size 2 i0 (.int .i64 0) 1 8 Try.underlying24 hi hz0 hz1 hz2 rfl (by decide) _ _ _ rfl (World.ownsRow.alloc hrow _) ⟨wr.heap.size, 0, none⟩ 1 1 [.int .i64 ((p : Int))] rfl rfl (Go.cell_one_new _ _ _) (by simp [Value.oneCell']) (by unfold maxLen; omega) (by omega) (by simp; omega) ?_)
                      intro v' w4 hown' hgrow _
                      have ho4 := ownI_snoc (xs := divTo R p q M (B + n)) (x := (p : Int)) (by rw [divTo_length]; exact hown')
                      have esu := Hsu.out
                      rw [Hdn.out] at esu
                      rw [← esu] at ho4
                      clear esu
                      have hB4 : Below w.heap.size w w4 := (hB2.alloc hB2.size _).grown hgrow (by simp; omega) (fun j e => (ho2.blk j e).1)
                      clear hown' hgrow hrow
                      go_wp2
                      go_roundw
                      case rel => exact ⟨n + 1, by omega, by simp, by show Value.int .i64 _ = _; rw [← Nat.add_assoc, Hsn.out, ← Hmod.out, Hs1.out], ho4, hB4⟩
                      case measure => simp [intOf]; omega
                    · have Hdn := Lib.hid (show divN R p q M (B + n) = M + (r : Int) by unfold divN; rw [if_pos (by rw [Hrep.out]; exact hxp), Hrr.out, if_neg (by omega)])
                      replace hrp : 0 < r := by omega
                      subst hxp
                      go_wp2_with (at_builtin; refine wpList_append_own _ rfl _ _ 24 rfl w.heap.size 2 i0 (.int .i64 0) 1 8 Try.underlying24 hi hz0 hz1 hz2 rfl (by decide) _ _ _ rfl (World.ownsRow.alloc hrow _) ⟨wr.heap.size, 0, none⟩ 1 1 [.int .i64 (M + (r : Int))] rfl rfl (Go.cell_one_new _ _ _) (by simp [Value.oneCell']) (by unfold maxLen; omega) (by omega) (by simp; omega) ?_)
                      intro v' w4 hown' hgrow _
                      have ho4 := ownI_snoc (xs := divTo R p q M (B + n)) (x := M + (r : Int)) (by rw [divTo_length]; exact hown')
                      have esu := Hsu.out
                      rw [Hdn.out] at esu
                      rw [← esu] at ho4
                      clear esu
                      have hB4 : Below w.heap.size w w4 := (hB2.alloc hB2.size _).grown hgrow (by simp; omega) (fun j e => (ho2.blk j e).1)
                      clear hown' hgrow hrow
                      go_wp2
                      go_roundw
                      case rel => exact ⟨n + 1, by omega, by simp, by show Value.int .i64 _ = _; rw [← Nat.add_assoc, Hsn.out, ← Hmod.out, Hs1.out], ho4, hB4⟩
                      case measure => simp [intOf]; omega
                  · have hbe : (x == (p : Int)) = false := by simpa using hxp
                    have Hsn := Lib.hid (seenN_no (R := R) (i := (p : Int)) (n := B + n) (by rw [Hrep.out]; exact hxp))
                    have Hdn := Lib.hid (show divN R p q M (B + n) = x by unfold divN; rw [if_neg (by rw [Hrep.out]; exact hxp), Hrep.out])
                    go_wp2_with (at_builtin; refine wpList_append_own _ rfl _ _ 24 rfl w.heap.size 2 i0 (.int .i64 0) 1 8 Try.underlying24 hi hz0 hz1 hz2 rfl (by decide) _ _ _ rfl (World.ownsRow.alloc hrow _) ⟨wr.heap.size, 0, none⟩ 1 1 [.int .i64 (x)] rfl rfl (Go.cell_one_new _ _ _) (by simp [Value.oneCell']) (by unfold maxLen; omega) (by omega) (by simp; omega) ?_)
                    intro v' w4 hown' hgrow _
                    have ho4 := ownI_snoc (xs := divTo R p q M (B + n)) (x := x) (by rw [divTo_length]; exact hown')
                    have esu := Hsu.out
                    rw [Hdn.out] at esu
                    rw [← esu] at ho4
                    clear esu
                    have hB4 : Below w.heap.size w w4 := (hB2.alloc hB2.size _).grown hgrow (by simp; omega) (fun j e => (ho2.blk j e).1)
                    clear hown' hgrow hrow
                    go_wp2
                    go_roundw
                    case rel => exact ⟨n + 1, by omega, by simp, by show Value.int .i64 _ = _; rw [← Nat.add_assoc, Hsn.out, Hrr.out], ho4, hB4⟩
                    case measure => simp [intOf]; omega
                · obtain rfl : n = ts.length := by omega
                  have Hnx := Lib.hid (show B + ts.length = (t + 1) * ts.length by rw [← HB.out, Nat.add_mul, Nat.one_mul])
                  go_wp2
                  go_roundw
                  case rel => exact ⟨t + 1, by omega, rfl, by rw [← Hnx.out], by rw [← Hnx.out]; exact ho2, hB2⟩
                  case measure => simp [intOf]; omega
            · obtain rfl : t = N := by omega
              have Hfin := Lib.hid (show divTo R p q M B = divL R p q M by unfold divL; rw [HRl.out, HB.out])
              have hzz : t - t = 0 := by omega
              go_wp2
              go_ret2
              exact ⟨_, ret_v2 Hc.out.symm, by rw [Hr.out, ← Hfin.out]; exact ho, hB1⟩

end Go.Proofs.Ytoflgfenlbibpaa
