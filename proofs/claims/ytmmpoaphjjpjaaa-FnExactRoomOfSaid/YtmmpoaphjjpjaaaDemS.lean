/-
  DemandUpTo and RoomOf of the model.
  Conditions: lists of at most 1048576 elements.
-/
import Derived.Test.YtmmpoaphjjpjaaaDem
namespace Go.Proofs.Ytmmpoaphjjpjaaa
open Go.RowKit Go.Shelf
attribute [local go_sem] Oper.semAt_some

set_option maxRecDepth 100000 in
set_option maxHeartbeats 8000000 in
theorem l04Demand_c (cl cp cd : Value) (ls ps ds : List Int) (n : Int) (w : World) (hI : Jobs3 w.heap.size w cl cp cd ls ps ds) (ht : jobsOk ls ps ds = true) (hn : 0 ≤ n ∧ n ≤ 1000) :
    Calls Try.prog 89 #[.agg #[cl, cp, cd], .int .i64 n] w fun e w' => e = .returned (.int .i64 (demN ls ps ds n)) ∧ Below w.heap.size w w' := by
  obtain ⟨al, capl, rfl⟩ := hI.l.shape
  obtain ⟨ap, capp, rfl⟩ := hI.p.shape
  obtain ⟨ad, capd, rfl⟩ := hI.d.shape
  have hB0 := below_jobs w (.slice al ls.length capl) (.slice ap ps.length capp) (.slice ad ds.length capd)
  have hP := jobsP ht
  have HP := Lib.hid hP
  have h8 := hP.len8
  have hlp : ls.length ≤ ps.length := by have := hP.lp; omega
  have hld : ls.length ≤ ds.length := by have := hP.ld; omega
  clear ht hP
  go_enter Try.func89, Try.ntmps89
  go_wp2
  go_loopw [5, 6] (fun x i wr => ∃ k : Nat, k ≤ ls.length ∧ i = .int .i64 k ∧ x = .int .i64 (demTo ls ps ds n k) ∧ Box3 wr w.heap.size 41 (.slice al ls.length capl) (.slice ap ps.length capp) (.slice ad ds.length capd) ∧ Below w.heap.size w wr) (fun _ i _ => ls.length - (intOf i).toNat)
  case atStart => exact ⟨0, Nat.zero_le _, rfl, rfl, Box3.new _ _ _ _ _, hB0⟩
  case round =>
    obtain ⟨k, hk, rfl, rfl, bk, hB⟩ := hrel
    clear hB0
    have c0 := bk.c0
    have c1 := bk.c1
    have c2 := bk.c2
    by_cases hlt : k < ls.length
    · obtain ⟨b1, o1, rfl, x1⟩ := (hI.l.below hB).cellOf hlt
      obtain ⟨b2, o2, rfl, x2⟩ := (hI.p.below hB).cellOf (k := k) (by omega)
      obtain ⟨b3, o3, rfl, x3⟩ := (hI.d.below hB).cellOf (k := k) (by omega)
      have i1 : (k : Int) < (ls.length : Int) := by omega
      have i2 : (k : Int) < (ps.length : Int) := by omega
      have i3 : (k : Int) < (ds.length : Int) := by omega
      have hdb := demTo_bd HP.out (n := n) hn.1 hn.2 (Nat.le_of_lt hlt)
      have hl := HP.out.l k hlt
      have hp := HP.out.p k hlt
      have hd := HP.out.d k hlt
      have hst : demTo ls ps ds n (k + 1) = demTo ls ps ds n k + nth ls k * timesBy n (nth ps k) (nth ds k) := rfl
      obtain ⟨l, e1⟩ : ∃ l, nth ls k = l := ⟨_, rfl⟩
      obtain ⟨p, e2⟩ : ∃ p, nth ps k = p := ⟨_, rfl⟩
      obtain ⟨d, e3⟩ : ∃ d, nth ds k = d := ⟨_, rfl⟩
      obtain ⟨s, hss⟩ : ∃ s, demTo ls ps ds n k = s := ⟨_, rfl⟩
      rw [e1] at hl x1
      rw [e2] at hp hd x2
      rw [e3] at hd x3
      rw [e1, e2, e3, hss] at hst
      rw [hss] at hdb ⊢
      have hl8 := Nat.mul_le_mul_left 20000 (show k ≤ 8 by omega)
      by_cases h : n < d
      · have Hst := Lib.hid (show demTo ls ps ds n (k + 1) = s by rw [hst]; unfold timesBy; rw [if_pos h]; simp)
        clear hst e1 e2 e3 hss
        go_wp2
        go_roundw
        case rel => exact ⟨k + 1, by omega, by simp, by rw [Hst.out], bk, hB⟩
        case measure => simp [intOf]; omega
      · have h1 : 0 ≤ (n - d) / p := Int.ediv_nonneg (by omega) (by omega)
        have h2 : (n - d) / p ≤ n - d := Int.ediv_le_self _ (by omega)
        have hq : (n - d).tdiv p = (n - d) / p := Int.tdiv_eq_ediv_of_nonneg (by omega)
        have hst2 : demTo ls ps ds n (k + 1) = s + ((n - d) / p + 1) * l := by rw [hst]; unfold timesBy; rw [if_neg h, Int.mul_comm]
        have hz : ¬ p = 0 := by omega
        obtain ⟨q, hqq⟩ : ∃ q, (n - d) / p = q := ⟨_, rfl⟩
        rw [hqq] at h1 h2 hq hst2
        have m1 : 0 ≤ (q + 1) * l := Int.mul_nonneg (by omega) (by omega)
        have m2 : (q + 1) * l ≤ 1000 * 20 := Int.mul_le_mul (by omega) hl.2 (by omega) (by omega)
        obtain ⟨u, huu⟩ : ∃ u, (q + 1) * l = u := ⟨_, rfl⟩
        rw [huu] at m1 m2 hst2
        have Hst := Lib.hid hst2
        have hnd : d ≤ n := by omega
        clear hst e1 e2 e3 hss hqq hst2
        go_wp2
        go_quiet (fail)
        go_wp2
        go_roundw
        case rel => exact ⟨k + 1, by omega, by simp, by rw [Hst.out], bk, below_drewN hB _⟩
        case measure => simp [intOf]; omega
    · obtain rfl : k = ls.length := by omega
      go_wp2
      go_ret
      exact ⟨rfl, hB⟩

set_option maxRecDepth 100000 in
set_option maxHeartbeats 8000000 in
theorem s_DemandUpTo (cl cp cd : Value) (ls ps ds : List Int) (n : Int) (w : World) (hI : Jobs3 w.heap.size w cl cp cd ls ps ds) (_hN : J64 ls ps ds) (hm : JLen ls ps ds) (_hn : I64 n) :
    Calls Try.prog 43 #[.agg #[cl, cp, cd], .int .i64 n] w fun e w' => e = .returned (.tuple #[.int .i64 (demV ls ps ds n), .int .i64 (demC ls ps ds n)]) ∧ Below w.heap.size w w' := by
  obtain ⟨al, capl, rfl⟩ := hI.l.shape
  obtain ⟨ap, capp, rfl⟩ := hI.p.shape
  obtain ⟨ad, capd, rfl⟩ := hI.d.shape
  have hB0 := below_jobs w (.slice al ls.length capl) (.slice ap ps.length capp) (.slice ad ds.length capd)
  cases ht : jobsOk ls ps ds
  · have H := Lib.hid (demC_no (n := n) ht)
    have Ht := Lib.hid ht
    clear ht
    go_enter Try.func43, Try.ntmps43
    go_wp2_with fail
    refine (l04Is_c _ _ _ ls ps ds _ (hI.later hB0) hm).mono ?_
    rintro e w1 ⟨he, hb⟩
    rw [Ht.out] at he
    subst he
    go_wp2
    go_ret2
    exact ⟨ret_i2 H.out.2.symm H.out.1.symm, hB0.trans (hb.mono (by simp))⟩
  · have Ht := Lib.hid ht
    clear ht
    cases hin : inB n 0 1000
    · have H := Lib.hid (demC_range Ht.out (inB_false.1 hin))
      have Hin := Lib.hid hin
      clear hin
      go_enter Try.func43, Try.ntmps43
      go_wp2_with fail
      refine (l04Is_c _ _ _ ls ps ds _ (hI.later hB0) hm).mono ?_
      rintro e w1 ⟨he, hb⟩
      rw [Ht.out] at he
      subst he
      go_wp2_with fail
      refine (l01In_d false _ _ _ _ Hin.out).mono ?_
      rintro e w2 ⟨rfl, rfl⟩
      go_wp2
      go_ret2
      exact ⟨ret_i2 H.out.2.symm H.out.1.symm, hB0.trans (hb.mono (by simp))⟩
    · have hb2 := inB_true.1 hin
      have H := Lib.hid (demC_ok Ht.out hb2)
      have Hin := Lib.hid hin
      clear hin
      go_enter Try.func43, Try.ntmps43
      go_wp2_with fail
      refine (l04Is_c _ _ _ ls ps ds _ (hI.later hB0) hm).mono ?_
      rintro e w1 ⟨he, hb⟩
      rw [Ht.out] at he
      subst he
      have hB1 : Below w.heap.size w w1 := hB0.trans (hb.mono (by simp))
      have b1 : Box3 w1 w.heap.size 41 (.slice al ls.length capl) (.slice ap ps.length capp) (.slice ad ds.length capd) := (Box3.new _ _ _ _ _).later hb
      clear hb hB0
      go_wp2_with fail
      refine (l01In_d true _ _ _ _ Hin.out).mono ?_
      rintro e w2 ⟨rfl, rfl⟩
      have c0 := b1.c0
      have c1 := b1.c1
      have c2 := b1.c2
      go_wp2_with fail
      refine (l04Demand_c _ _ _ ls ps ds n _ (hI.later hB1) Ht.out hb2).mono ?_
      rintro e w2 ⟨rfl, hb⟩
      have hB2 := hB1.trans (hb.mono hB1.size)
      go_wp2
      go_ret2
      exact ⟨ret_i2 H.out.2.symm H.out.1.symm, hB2⟩

/-! ### rooms -/
theorem roomV_err {ls ps ds : List Int} (h : jobCode ls ps ds ≠ 0) : roomV ls ps ds = 0 := by unfold roomV; rw [if_neg h]
theorem roomV_ok {ls ps ds : List Int} (h : jobCode ls ps ds = 0) : roomV ls ps ds = roomTo ls ps ds (wholeN ps - 1) := by unfold roomV; rw [if_pos h]
theorem room_lt {a b : Int} (h : a < b) : min a b = a := by omega
theorem room_ge {a b : Int} (h : ¬ a < b) : min a b = b := by omega

set_option maxRecDepth 100000 in
set_option maxHeartbeats 8000000 in
theorem l04Room_c (cl cp cd : Value) (ls ps ds : List Int) (w : World) (hI : Jobs3 w.heap.size w cl cp cd ls ps ds) (hc : jobCode ls ps ds = 0) :
    Calls Try.prog 91 #[.agg #[cl, cp, cd]] w fun e w' => e = .returned (.int .i64 (roomTo ls ps ds (wholeN ps - 1))) ∧ Below w.heap.size w w' := by
  obtain ⟨al, capl, rfl⟩ := hI.l.shape
  obtain ⟨ap, capp, rfl⟩ := hI.p.shape
  obtain ⟨ad, capd, rfl⟩ := hI.d.shape
  have hB0 := below_jobs w (.slice al ls.length capl) (.slice ap ps.length capp) (.slice ad ds.length capd)
  obtain ⟨ht, hw⟩ := jobCode_zero hc
  have hP := jobsP ht
  have HP := Lib.hid hP
  have HC := Lib.hid hc
  have HT := Lib.hid ht
  have hwp := (whole_pos hP).1
  have hd1 := demTo_bd hP (n := 1) (by omega) (by omega) (Nat.le_refl _)
  have h8 := hP.len8
  have hd1' : 0 ≤ demN ls ps ds 1 ∧ demN ls ps ds 1 ≤ 160000 := by unfold demN; omega
  clear hc ht hP hd1
  obtain ⟨N, hN⟩ : ∃ N, wholeN ps = N := ⟨_, rfl⟩
  have HN := Lib.hid hN
  rw [hN] at hw hwp ⊢
  clear hN
  go_enter Try.func91, Try.ntmps91
  go_wp2_with fail
  refine (l04Demand_c _ _ _ ls ps ds 1 _ (hI.later hB0) HT.out (by omega)).mono ?_
  rintro e w1 ⟨rfl, hb⟩
  have hB1 : Below w.heap.size w w1 := hB0.trans (hb.mono (by simp))
  have b1 : Box3 w1 w.heap.size 41 (.slice al ls.length capl) (.slice ap ps.length capp) (.slice ad ds.length capd) := (Box3.new _ _ _ _ _).later hb
  clear hb hB0
  go_wp2
  go_loopw [3, 4] (fun x i wr => ∃ k : Nat, k + 1 ≤ N ∧ i = .int .i64 ((k : Int) + 2) ∧ x = .int .i64 (roomTo ls ps ds k) ∧ Box3 wr w.heap.size 41 (.slice al ls.length capl) (.slice ap ps.length capp) (.slice ad ds.length capd) ∧ Below w.heap.size w wr) (fun _ i _ => N + 2 - (intOf i).toNat)
  case atStart => exact ⟨0, by omega, rfl, rfl, b1, hB1⟩
  case round =>
    obtain ⟨k, hk, rfl, rfl, bk, hB⟩ := hrel
    clear b1 hB1
    have c0 := bk.c0
    have c1 := bk.c1
    have c2 := bk.c2
    have hk9 : (k : Int) ≤ 240 := by omega
    have hrb := roomTo_bd HP.out (k := k) (by omega)
    go_wp2_with fail
    refine (l04Whole_v _ _ _ ls ps ds _ (hI.later hB) HC.out).mono ?_
    rintro e w2 ⟨rfl, hb⟩
    rw [HN.out]
    have hB2 := hB.trans (hb.mono hB.size)
    replace bk := bk.later hb
    clear hb c0 c1 c2
    have c0 := bk.c0
    have c1 := bk.c1
    have c2 := bk.c2
    by_cases hlt : k + 2 ≤ N
    · have hlt2 : (k : Int) + 2 ≤ (N : Int) := by omega
      have hd2 := demTo_bd HP.out (n := (k : Int) + 2) (by omega) (by omega) (Nat.le_refl _)
      have hd2' : 0 ≤ demN ls ps ds ((k : Int) + 2) ∧ demN ls ps ds ((k : Int) + 2) ≤ 160000 := by unfold demN; omega
      have hst : roomTo ls ps ds (k + 1) = min (roomTo ls ps ds k) ((k : Int) + 2 - demN ls ps ds ((k : Int) + 2)) := rfl
      have HD := Lib.hid (l04Demand_c (Value.slice al ls.length capl) (Value.slice ap ps.length capp) (Value.slice ad ds.length capd) ls ps ds ((k : Int) + 2) _ (hI.later hB2) HT.out (by omega))
      clear hd2
      obtain ⟨D, hD⟩ : ∃ D, demN ls ps ds ((k : Int) + 2) = D := ⟨_, rfl⟩
      obtain ⟨R, hR⟩ : ∃ R, roomTo ls ps ds k = R := ⟨_, rfl⟩
      rw [hD] at hd2' HD hst
      rw [hR] at hrb hst ⊢
      have HS := Lib.hid hst
      clear hD hR hst
      by_cases hm : R < (k : Int) + 2 - D
      · have HS2 := Lib.hid (show roomTo ls ps ds (k + 1) = R by rw [HS.out, room_lt hm])
        go_wp2_with fail
        refine HD.out.mono ?_
        rintro e w3 ⟨rfl, hb3⟩
        have hs2 := hB2.size
        go_wp2
        go_roundw
        case rel => exact ⟨k + 1, by omega, by simp only [Value.int.injEq, true_and]; omega, by rw [HS2.out], bk.later hb3, hB2.trans (hb3.mono hs2)⟩
        case measure => simp [intOf]; omega
      · have HS2 := Lib.hid (show roomTo ls ps ds (k + 1) = (k : Int) + 2 - D by rw [HS.out, room_ge hm])
        go_wp2_with fail
        refine HD.out.mono ?_
        rintro e w3 ⟨rfl, hb3⟩
        have hs2 := hB2.size
        go_wp2
        go_roundw
        case rel => exact ⟨k + 1, by omega, by simp only [Value.int.injEq, true_and]; omega, by rw [HS2.out]; congr 1; split <;> omega, bk.later hb3, hB2.trans (hb3.mono hs2)⟩
        case measure => simp [intOf]; omega
    · have hlt2 : ¬ (k : Int) + 2 ≤ (N : Int) := by omega
      have hlt3 : (N : Int) < (k : Int) + 2 := by omega
      have hkN : k = N - 1 := by omega
      go_wp2
      go_ret
      exact ⟨by rw [← hkN]; rfl, hB2⟩

set_option maxRecDepth 100000 in
set_option maxHeartbeats 8000000 in
theorem s_RoomOf (cl cp cd : Value) (ls ps ds : List Int) (w : World) (hI : Jobs3 w.heap.size w cl cp cd ls ps ds) (_hN : J64 ls ps ds) (hm : JLen ls ps ds) :
    Calls Try.prog 45 #[.agg #[cl, cp, cd]] w fun e w' => e = .returned (.tuple #[.int .i64 (roomV ls ps ds), .int .i64 (jobCode ls ps ds)]) ∧ Below w.heap.size w w' := by
  obtain ⟨al, capl, rfl⟩ := hI.l.shape
  obtain ⟨ap, capp, rfl⟩ := hI.p.shape
  obtain ⟨ad, capd, rfl⟩ := hI.d.shape
  have hB0 := below_jobs w (.slice al ls.length capl) (.slice ap ps.length capp) (.slice ad ds.length capd)
  rcases jobCode_cases ls ps ds with hc | ⟨hc, hc2⟩
  · have H0 := Lib.hid (roomV_ok hc)
    have HC := Lib.hid hc
    clear hc
    go_enter Try.func45, Try.ntmps45
    go_wp2_with fail
    refine (l04Code_c _ _ _ ls ps ds _ (hI.later hB0) hm).mono ?_
    rintro e w1 ⟨he, hb⟩
    rw [HC.out] at he
    subst he
    have hB1 : Below w.heap.size w w1 := hB0.trans (hb.mono (by simp))
    have b1 : Box3 w1 w.heap.size 41 (.slice al ls.length capl) (.slice ap ps.length capp) (.slice ad ds.length capd) := (Box3.new _ _ _ _ _).later hb
    clear hb hB0
    have c0 := b1.c0
    have c1 := b1.c1
    have c2 := b1.c2
    go_wp2_with fail
    refine (l04Room_c _ _ _ ls ps ds _ (hI.later hB1) HC.out).mono ?_
    rintro e w2 ⟨rfl, hb⟩
    have hB2 := hB1.trans (hb.mono hB1.size)
    go_wp2
    go_ret2
    exact ⟨ret_i2 H0.out.symm HC.out.symm, hB2⟩
  · have H0 := Lib.hid (roomV_err hc)
    have hne : (jobCode ls ps ds != 0) = true := by rw [bne_iff_ne]; exact hc
    clear hc hc2
    go_enter Try.func45, Try.ntmps45
    go_wp2_with fail
    refine (l04Code_c _ _ _ ls ps ds _ (hI.later hB0) hm).mono ?_
    rintro e w1 ⟨rfl, hb⟩
    go_wp2
    go_ret2
    exact ⟨ret_i2 H0.out.symm rfl, hB0.trans (hb.mono (by simp))⟩

/-! ### the program's RoomOf -/
set_option maxRecDepth 100000 in
set_option maxHeartbeats 8000000 in
theorem i_RoomOf (cl cp cd : Value) (ls ps ds : List Int) (w : World) (hI : Jobs3 w.heap.size w cl cp cd ls ps ds) (hN : J64 ls ps ds) (hm : JLen ls ps ds) :
    Calls Try.prog 46 #[.agg #[cl, cp, cd]] w fun e w' => e = .returned (.tuple #[.int .i64 (roomV ls ps ds), .int .i64 (jobCode ls ps ds)]) ∧ Below w.heap.size w w' := by
  obtain ⟨al, capl, rfl⟩ := hI.l.shape
  obtain ⟨ap, capp, rfl⟩ := hI.p.shape
  obtain ⟨ad, capd, rfl⟩ := hI.d.shape
  have hB0 := below_jobs w (.slice al ls.length capl) (.slice ap ps.length capp) (.slice ad ds.length capd)
  rcases jobCode_cases ls ps ds with hc | ⟨hc, hc2⟩
  · have H0 := Lib.hid (roomV_ok hc)
    have HV := Lib.hid (wholeV_ok hc)
    obtain ⟨ht, hw⟩ := jobCode_zero hc
    have hP := jobsP ht
    have HP := Lib.hid hP
    have HC := Lib.hid hc
    have HT := Lib.hid ht
    have hwp := (whole_pos hP).1
    have hd1 := demTo_bd hP (n := 1) (by omega) (by omega) (Nat.le_refl _)
    have h8 := hP.len8
    have hd1' : 0 ≤ demN ls ps ds 1 ∧ demN ls ps ds 1 ≤ 160000 := by unfold demN; omega
    clear hc ht hP hd1
    obtain ⟨N, hNN⟩ : ∃ N, wholeN ps = N := ⟨_, rfl⟩
    have HN := Lib.hid hNN
    rw [hNN] at hw hwp H0 HV
    clear hNN
    go_enter Try.func46, Try.ntmps46
    go_wp2_with fail
    refine (i_WholePeriod _ _ _ ls ps ds _ (hI.later hB0) hN hm).mono ?_
    rintro e w1 ⟨he, hb⟩
    rw [HV.out, HC.out] at he
    subst he
    have hB1 : Below w.heap.size w w1 := hB0.trans (hb.mono (by simp))
    have b1 : Box3 w1 w.heap.size 41 (.slice al ls.length capl) (.slice ap ps.length capp) (.slice ad ds.length capd) := (Box3.new _ _ _ _ _).later hb
    clear hb hB0
    have c0 := b1.c0
    have c1 := b1.c1
    have c2 := b1.c2
    go_wp2_with fail
    refine (demandUpTo_c _ _ _ ls ps ds 1 _ (hI.later hB1) HT.out (by omega)).mono ?_
    rintro e w2 ⟨rfl, hb⟩
    have hB2 := hB1.trans (hb.mono hB1.size)
    replace b1 := b1.later hb
    clear hb c0 c1 c2 hB1
    go_wp2
    go_loopw [6, 7] (fun x i wr => ∃ k : Nat, k + 1 ≤ N ∧ i = .int .i64 ((k : Int) + 2) ∧ x = .int .i64 (roomTo ls ps ds k) ∧ Box3 wr w.heap.size 41 (.slice al ls.length capl) (.slice ap ps.length capp) (.slice ad ds.length capd) ∧ Below w.heap.size w wr) (fun _ i _ => N + 2 - (intOf i).toNat)
    case atStart => exact ⟨0, by omega, rfl, rfl, b1, hB2⟩
    case round =>
      obtain ⟨k, hk, rfl, rfl, bk, hB⟩ := hrel
      clear b1 hB2
      have c0 := bk.c0
      have c1 := bk.c1
      have c2 := bk.c2
      have hk9 : (k : Int) ≤ 240 := by omega
      have hrb := roomTo_bd HP.out (k := k) (by omega)
      by_cases hlt : k + 2 ≤ N
      · have hlt2 : (k : Int) + 2 ≤ (N : Int) := by omega
        have hd2 := demTo_bd HP.out (n := (k : Int) + 2) (by omega) (by omega) (Nat.le_refl _)
        have hd2' : 0 ≤ demN ls ps ds ((k : Int) + 2) ∧ demN ls ps ds ((k : Int) + 2) ≤ 160000 := by unfold demN; omega
        have hst : roomTo ls ps ds (k + 1) = min (roomTo ls ps ds k) ((k : Int) + 2 - demN ls ps ds ((k : Int) + 2)) := rfl
        have HD := Lib.hid (demandUpTo_c (Value.slice al ls.length capl) (Value.slice ap ps.length capp) (Value.slice ad ds.length capd) ls ps ds ((k : Int) + 2) _ (hI.later hB) HT.out (by omega))
        clear hd2
        obtain ⟨D, hD⟩ : ∃ D, demN ls ps ds ((k : Int) + 2) = D := ⟨_, rfl⟩
        obtain ⟨R, hR⟩ : ∃ R, roomTo ls ps ds k = R := ⟨_, rfl⟩
        rw [hD] at hd2' HD hst
        rw [hR] at hrb hst ⊢
        have HS := Lib.hid hst
        clear hD hR hst
        by_cases hm : R < (k : Int) + 2 - D
        · have HS2 := Lib.hid (show roomTo ls ps ds (k + 1) = R by rw [HS.out, room_lt hm])
          go_wp2_with fail
          refine HD.out.mono ?_
          rintro e w3 ⟨rfl, hb3⟩
          have hs2 := hB.size
          go_wp2
          go_roundw
          case rel => exact ⟨k + 1, by omega, by simp only [Value.int.injEq, true_and]; omega, by rw [HS2.out], bk.later hb3, hB.trans (hb3.mono hs2)⟩
          case measure => simp [intOf]; omega
        · have HS2 := Lib.hid (show roomTo ls ps ds (k + 1) = (k : Int) + 2 - D by rw [HS.out, room_ge hm])
          go_wp2_with fail
          refine HD.out.mono ?_
          rintro e w3 ⟨rfl, hb3⟩
          have hs2 := hB.size
          go_wp2
          go_roundw
          case rel => exact ⟨k + 1, by omega, by simp only [Value.int.injEq, true_and]; omega, by rw [HS2.out]; congr 1; split <;> omega, bk.later hb3, hB.trans (hb3.mono hs2)⟩
          case measure => simp [intOf]; omega
      · have hlt3 : (N : Int) < (k : Int) + 2 := by omega
        have hkN : k = N - 1 := by omega
        have hnn : (N : Int) - 1 = ((N - 1 : Nat) : Int) := by omega
        go_wp2
        go_ret2
        exact ⟨ret_i2 (by rw [H0.out, ← hkN]) HC.out.symm, hB⟩
  · have H0 := Lib.hid (roomV_err hc)
    have HV := Lib.hid (wholeV_err hc)
    have hne : (jobCode ls ps ds != 0) = true := by rw [bne_iff_ne]; exact hc
    clear hc hc2
    go_enter Try.func46, Try.ntmps46
    go_wp2_with fail
    refine (i_WholePeriod _ _ _ ls ps ds _ (hI.later hB0) hN hm).mono ?_
    rintro e w1 ⟨rfl, hb⟩
    go_wp2
    go_ret2
    exact ⟨ret_i2 H0.out.symm rfl, hB0.trans (hb.mono (by simp))⟩

end Go.Proofs.Ytmmpoaphjjpjaaa
