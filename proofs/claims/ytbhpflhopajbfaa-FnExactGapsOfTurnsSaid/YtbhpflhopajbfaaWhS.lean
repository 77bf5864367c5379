/-
  WholePeriod of the model; the model's code of jobs.
  Conditions: lists of at most 1048576 elements.
-/
import Derived.Test.YtbhpflhopajbfaaWho
namespace Go.Proofs.Ytbhpflhopajbfaa
open Go.RowKit Go.Shelf
attribute [local go_sem] Oper.semAt_some

set_option maxRecDepth 100000 in
set_option maxHeartbeats 8000000 in
theorem l04Whole_c (cl cp cd : Value) (ls ps ds : List Int) (w : World) (hI : Jobs3 w.heap.size w cl cp cd ls ps ds) (ht : jobsOk ls ps ds = true) :
    Calls Try.prog 134 #[.agg #[cl, cp, cd]] w fun e w' => ∃ r : Nat, e = .returned (.int .i64 (r : Int)) ∧ WholeR ps r ∧ Below w.heap.size w w' := by
  obtain ⟨al, capl, rfl⟩ := hI.l.shape
  obtain ⟨ap, capp, rfl⟩ := hI.p.shape
  obtain ⟨ad, capd, rfl⟩ := hI.d.shape
  have hB0 := below_jobs w (.slice al ls.length capl) (.slice ap ps.length capp) (.slice ad ds.length capd)
  have hP := jobsP ht
  have HP := Lib.hid hP
  have h8 := hP.len8
  have hlp := hP.lp
  have hp8 : ps.length ≤ 8 := by omega
  have HL := Lib.hid hlp
  have hmono : ∀ j, j ≤ ps.length → lcmTo (natsTo ps j) ≤ wholeN ps := fun j hj => lcmTo_mono (fun k hk => (hP.p k (by omega)).1) hj (Nat.le_refl _)
  have HM := Lib.hid hmono
  clear ht hP hlp hmono
  go_enter Try.func134, Try.ntmps134
  go_wp2
  go_loopw [3, 4] (fun x i wr => ∃ k : Nat, k ≤ ps.length ∧ i = .int .i64 k ∧ x = .int .i64 ((lcmTo (natsTo ps k) : Nat) : Int) ∧ (lcmTo (natsTo ps k) ≤ 14400) ∧ Box3 wr w.heap.size 37 (.slice al ls.length capl) (.slice ap ps.length capp) (.slice ad ds.length capd) ∧ Below w.heap.size w wr) (fun _ i _ => ps.length - (intOf i).toNat)
  case atStart => exact ⟨0, Nat.zero_le _, rfl, by simp [natsTo, lcmTo], by simp [natsTo, lcmTo], Box3.new _ _ _ _ _, hB0⟩
  case round =>
    obtain ⟨k, hk, rfl, rfl, hle, bk, hB⟩ := hrel
    clear hB0
    have c1 := bk.c1
    by_cases hlt : k < ps.length
    · obtain ⟨m, p, e1, e2, h1, h2, h3, h4, h5, h6⟩ := whole_step HP.out hlt
      have H4 := Lib.hid h4
      rw [e1] at hle ⊢
      have hmw := HM.out k hk
      rw [e1] at hmw
      have HMW := Lib.hid hmw
      by_cases hlim : m ≤ 240
      · obtain ⟨b2, o2, rfl, x2⟩ := (hI.p.below hB).cellOf hlt
        rw [e2] at x2
        have i2 : (k : Int) < (ps.length : Int) := by omega
        have hl3 : (m : Int) ≤ 240 := by omega
        have hlm : Nat.lcm m p ≤ 14400 := by
          have a1 : Nat.lcm m p ≤ m * p := Nat.le_of_dvd (Nat.mul_pos h1 (by omega)) (Nat.lcm_dvd_mul _ _)
          have a2 : m * p ≤ 240 * 60 := Nat.mul_le_mul hlim h3.2
          omega
        have HLM := Lib.hid hlm
        clear h4 e1 e2 h5 h6 hlm hmw
        go_wp2_with fail
        refine (l01Lcm_c m p wr (by omega) (by omega) (by omega) (by have := HLM.out; omega)).mono ?_
        rintro e w2 ⟨rfl, hb2⟩
        go_wp2
        go_roundw
        case rel => exact ⟨k + 1, by omega, by simp, by rw [H4.out], by rw [H4.out]; exact HLM.out, bk.later hb2, hB.trans (hb2.mono hB.size)⟩
        case measure => simp [intOf]; omega
      · have hl3 : (240 : Int) < (m : Int) := by omega
        have i2 : (k : Int) < (ps.length : Int) := by omega
        clear h4 e1 e2 h5 h6 hmw
        go_wp2
        go_ret
        exact ⟨m, rfl, .inr ⟨by have := HMW.out; omega, by omega, hle⟩, hB⟩
    · obtain rfl : k = ps.length := by omega
      have hw : lcmTo (natsTo ps ps.length) = wholeN ps := rfl
      rw [hw] at hle ⊢
      go_wp2
      go_ret
      exact ⟨wholeN ps, rfl, by unfold WholeR; omega, hB⟩

set_option maxRecDepth 100000 in
set_option maxHeartbeats 8000000 in
theorem l04Code_c (cl cp cd : Value) (ls ps ds : List Int) (w : World) (hI : Jobs3 w.heap.size w cl cp cd ls ps ds) (hm : JLen ls ps ds) :
    Calls Try.prog 72 #[.agg #[cl, cp, cd]] w fun e w' => e = .returned (.int .i64 (jobCode ls ps ds)) ∧ Below w.heap.size w w' := by
  obtain ⟨al, capl, rfl⟩ := hI.l.shape
  obtain ⟨ap, capp, rfl⟩ := hI.p.shape
  obtain ⟨ad, capd, rfl⟩ := hI.d.shape
  have hB0 := below_jobs w (.slice al ls.length capl) (.slice ap ps.length capp) (.slice ad ds.length capd)
  cases ht : jobsOk ls ps ds
  · have H1 := Lib.hid (jobCode_no ht)
    have Ht := Lib.hid ht
    clear ht
    go_enter Try.func72, Try.ntmps72
    go_wp2_with fail
    refine (l04Is_c _ _ _ ls ps ds _ (hI.later hB0) hm).mono ?_
    rintro e w1 ⟨he, hb⟩
    rw [Ht.out] at he
    subst he
    go_wp2
    go_ret
    exact ⟨ret_int H1.out.symm, hB0.trans (hb.mono (by simp))⟩
  · have Ht := Lib.hid ht
    clear ht
    go_enter Try.func72, Try.ntmps72
    go_wp2_with fail
    refine (l04Is_c _ _ _ ls ps ds _ (hI.later hB0) hm).mono ?_
    rintro e w1 ⟨he, hb⟩
    rw [Ht.out] at he
    subst he
    have hB1 : Below w.heap.size w w1 := hB0.trans (hb.mono (by simp))
    have b1 : Box3 w1 w.heap.size 37 (.slice al ls.length capl) (.slice ap ps.length capp) (.slice ad ds.length capd) := (Box3.new _ _ _ _ _).later hb
    clear hb hB0
    have c0 := b1.c0
    have c1 := b1.c1
    have c2 := b1.c2
    go_wp2_with fail
    refine (l04Whole_c _ _ _ ls ps ds _ (hI.later hB1) Ht.out).mono ?_
    rintro e w2 ⟨r, rfl, hr, hb⟩
    have hB2 := hB1.trans (hb.mono hB1.size)
    rcases hr with ⟨h1, h2⟩ | ⟨h1, h2, h3⟩
    · have H1 := Lib.hid (jobCode_ok Ht.out h1)
      have hr2 : (r : Int) ≤ 240 := by omega
      go_wp2
      go_ret
      exact ⟨ret_int H1.out.symm, hB2⟩
    · have H1 := Lib.hid (jobCode_lim Ht.out h1)
      have hr2 : (240 : Int) < (r : Int) := by omega
      go_wp2
      go_ret
      exact ⟨ret_int H1.out.symm, hB2⟩

/-- the whole period, where the code is 0 -/
theorem l04Whole_v (cl cp cd : Value) (ls ps ds : List Int) (w : World) (hI : Jobs3 w.heap.size w cl cp cd ls ps ds) (hc : jobCode ls ps ds = 0) :
    Calls Try.prog 134 #[.agg #[cl, cp, cd]] w fun e w' => e = .returned (.int .i64 ((wholeN ps : Nat) : Int)) ∧ Below w.heap.size w w' := by
  have h : jobsOk ls ps ds = true ∧ wholeN ps ≤ 240 := by
    unfold jobCode at hc
    cases ht : jobsOk ls ps ds
    · rw [ht] at hc; simp at hc
    · rw [ht, if_pos rfl] at hc
      by_cases hw : wholeN ps ≤ 240
      · exact ⟨rfl, hw⟩
      · rw [if_neg hw] at hc; simp at hc
  refine (l04Whole_c cl cp cd ls ps ds w hI h.1).mono ?_
  rintro e w2 ⟨r, rfl, hr, hb⟩
  rcases hr with ⟨_, rfl⟩ | ⟨h1, _, _⟩
  · exact ⟨rfl, hb⟩
  · have := h.2; omega
theorem jobCode_cases (ls ps ds : List Int) : jobCode ls ps ds = 0 ∨ (jobCode ls ps ds ≠ 0 ∧ (jobCode ls ps ds = 1 ∨ jobCode ls ps ds = 3)) := by
  unfold jobCode; split
  · split
    · exact .inl rfl
    · exact .inr ⟨by omega, .inr rfl⟩
  · exact .inr ⟨by omega, .inl rfl⟩
theorem jobCode_zero {ls ps ds : List Int} (hc : jobCode ls ps ds = 0) : jobsOk ls ps ds = true ∧ wholeN ps ≤ 240 := by
  unfold jobCode at hc
  cases ht : jobsOk ls ps ds
  · rw [ht] at hc; simp at hc
  · rw [ht, if_pos rfl] at hc
    by_cases hw : wholeN ps ≤ 240
    · exact ⟨rfl, hw⟩
    · rw [if_neg hw] at hc; simp at hc

end Go.Proofs.Ytbhpflhopajbfaa
