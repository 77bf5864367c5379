/-
  DeadlineSlots, FirstLate, CanMeet, TurnsOfJobs of the program.
  Conditions: lists of at most 1048576 elements.
-/
import Derived.Test.YtbhpflhopajbfaaQby
import Derived.Test.YtbhpflhopajbfaaWho
namespace Go.Proofs.Ytbhpflhopajbfaa
open Go.RowKit Go.Shelf
attribute [local go_sem] Oper.semAt_some

theorem retT2 {a b c d : Value} (h1 : a = c) (h2 : b = d) : Ending.returned (.tuple #[a, b]) = .returned (.tuple #[c, d]) := by rw [h1, h2]
theorem retT3 {a b c d e f : Value} (h1 : a = c) (h2 : b = d) (h3 : e = f) : Ending.returned (.tuple #[a, b, e]) = .returned (.tuple #[c, d, f]) := by rw [h1, h2, h3]
theorem vI {a b : Int} (h : a = b) : (Value.int .i64 a) = .int .i64 b := by rw [h]
theorem vB {a b : Bool} (h : a = b) : Value.bool a = .bool b := by rw [h]

def dsR (ls ps ds : List Int) : List Int := if jobCode ls ps ds = 0 then edL ls ps ds (wholeN ps) else []
def lateV (ls ps ds : List Int) : Int := edT ls ps ds (wholeN ps)
def flC (ls ps ds : List Int) : Int := if jobCode ls ps ds = 0 then if lateV ls ps ds = -1 then 4 else 0 else jobCode ls ps ds
def flS (ls ps ds : List Int) : Int := if flC ls ps ds = 0 then ((edN ls ps ds (wholeN ps) : Nat) : Int) else 0
def flT (ls ps ds : List Int) : Int := if flC ls ps ds = 0 then lateV ls ps ds else 0
def cmV (ls ps ds : List Int) : Bool := decide (jobCode ls ps ds = 0 ∧ lateV ls ps ds = -1)
def tjC (ls ps ds : List Int) : Int := if jobCode ls ps ds = 0 then if 120 < wholeN ps then 3 else if lateV ls ps ds = -1 then 0 else 5 else jobCode ls ps ds
def tjR (ls ps ds : List Int) : List Int := if tjC ls ps ds = 0 then edL ls ps ds (wholeN ps) else []
theorem lateV_cases (ls ps ds : List Int) : lateV ls ps ds = -1 ∨ (0 ≤ lateV ls ps ds ∧ ¬ lateV ls ps ds = -1) := by
  unfold lateV edT
  rcases edLate_cases ls ps ds (edN ls ps ds (wholeN ps)) with h | h <;> omega
theorem edL_len (ls ps ds : List Int) (n : Nat) : (edL ls ps ds n).length ≤ n := by unfold edL; rw [edTo_length]; exact edN_le _ _ _ _
theorem jobCode0 {ls ps ds : List Int} (hc : jobCode ls ps ds = 0) : jobsOk ls ps ds = true ∧ wholeN ps ≤ 240 := by
  unfold jobCode at hc
  cases h : jobsOk ls ps ds
  · rw [h] at hc; simp at hc
  · refine ⟨rfl, ?_⟩
    rw [h] at hc
    by_cases hw : wholeN ps ≤ 240
    · exact hw
    · simp [hw] at hc
theorem dsR_len (ls ps ds : List Int) : (dsR ls ps ds).length * 8 ≤ 140737488351232 := by
  unfold dsR
  split
  · rename_i h; have := edL_len ls ps ds (wholeN ps); have := (jobCode0 h).2; omega
  · simp
theorem tjR_len (ls ps ds : List Int) : (tjR ls ps ds).length * 8 ≤ 140737488351232 := by
  unfold tjR
  split
  · rename_i h
    have := edL_len ls ps ds (wholeN ps)
    have hj : jobCode ls ps ds = 0 := by
      unfold tjC at h
      split at h
      · assumption
      · exact absurd h (by assumption)
    have := (jobCode0 hj).2; omega
  · simp
theorem whole_divs {ls ps ds : List Int} (h : jobsOk ls ps ds = true) : ∀ i, i < ls.length → ((wholeN ps : Nat) : Int) % nth ps i = 0 := fun i hi => by
  have hP := jobsP h
  have hp := hP.p i hi
  have hlp := hP.lp
  have hd : (nth ps i).toNat ∣ wholeN ps := by
    unfold wholeN natsTo
    refine dvd_lcmTo (List.mem_map.2 ⟨nth ps i, ?_, rfl⟩)
    rw [List.take_length]; exact nth_mem (by omega)
  obtain ⟨c, hc⟩ := hd
  rw [hc]
  have e : nth ps i = ((nth ps i).toNat : Int) := by omega
  rw [Int.natCast_mul, ← e]
  exact Int.mul_emod_right _ _

set_option maxRecDepth 100000 in
set_option maxHeartbeats 8000000 in
theorem i_DeadlineSlots (cl cp cd : Value) (ls ps ds : List Int) (w : World) (hI : Jobs3 w.heap.size w cl cp cd ls ps ds) (hN : J64 ls ps ds) (hm : JLen ls ps ds) :
    Calls Try.prog 23 #[.agg #[cl, cp, cd]] w (GivesI w (dsR ls ps ds) fun v => .tuple #[v, .int .i64 (jobCode ls ps ds)]) := by
  obtain ⟨al, capl, rfl⟩ := hI.l.shape
  obtain ⟨ap, capp, rfl⟩ := hI.p.shape
  obtain ⟨ad, capd, rfl⟩ := hI.d.shape
  have hB0 := below_jobs w (.slice al ls.length capl) (.slice ap ps.length capp) (.slice ad ds.length capd)
  by_cases hc : jobCode ls ps ds = 0
  · obtain ⟨ht, hw⟩ := jobCode0 hc
    have Hr := Lib.hid (show dsR ls ps ds = edL ls ps ds (wholeN ps) by unfold dsR; rw [if_pos hc])
    have Hv := Lib.hid (wholeV_ok hc)
    have Hc := Lib.hid hc
    have Hd := Lib.hid (whole_divs ht)
    clear hc
    go_enter Try.func23, Try.ntmps23
    go_wp2_with fail
    refine (i_WholePeriod _ _ _ ls ps ds _ (hI.later hB0) hN hm).mono ?_
    rintro e w1 ⟨rfl, hb⟩
    have hB1 := hB0.trans (hb.mono (by simp))
    rw [Hv.out, Hc.out]
    have bj := (Box3.new w 37 (.slice al ls.length capl) (.slice ap ps.length capp) (.slice ad ds.length capd)).later hb
    have k0 := bj.c0
    have k1 := bj.c1
    have k2 := bj.c2
    clear hb
    go_wp2_with fail
    refine (byEarliest_c _ _ _ ls ps ds (wholeN ps) w1 (hI.later hB1) ht hw Hd.out).mono ?_
    rintro e w2 ⟨v, rfl, ho, hb2⟩
    have hB2 := hB1.trans (hb2.mono hB1.size)
    go_wp2_with fail
    go_ret2
    exact ⟨v, retT2 rfl (vI Hc.out.symm), by rw [Hr.out]; exact ho.base hB1.size, hB2⟩
  · have Hr := Lib.hid (show dsR ls ps ds = [] by unfold dsR; rw [if_neg hc])
    have Hv := Lib.hid (wholeV_err hc)
    go_enter Try.func23, Try.ntmps23
    go_wp2_with fail
    refine (i_WholePeriod _ _ _ ls ps ds _ (hI.later hB0) hN hm).mono ?_
    rintro e w1 ⟨rfl, hb⟩
    rw [Hv.out]
    go_wp2_with fail
    go_ret2
    exact ⟨.slice none 0 0, rfl, by rw [Hr.out]; exact ownI_nil _ _, hB0.trans (hb.mono (by simp))⟩

set_option maxRecDepth 100000 in
set_option maxHeartbeats 8000000 in
theorem i_CanMeet (cl cp cd : Value) (ls ps ds : List Int) (w : World) (hI : Jobs3 w.heap.size w cl cp cd ls ps ds) (hN : J64 ls ps ds) (hm : JLen ls ps ds) :
    Calls Try.prog 32 #[.agg #[cl, cp, cd]] w fun e w' => e = .returned (.tuple #[.bool (cmV ls ps ds), .int .i64 (jobCode ls ps ds)]) ∧ Below w.heap.size w w' := by
  obtain ⟨al, capl, rfl⟩ := hI.l.shape
  obtain ⟨ap, capp, rfl⟩ := hI.p.shape
  obtain ⟨ad, capd, rfl⟩ := hI.d.shape
  have hB0 := below_jobs w (.slice al ls.length capl) (.slice ap ps.length capp) (.slice ad ds.length capd)
  by_cases hc : jobCode ls ps ds = 0
  · obtain ⟨ht, hw⟩ := jobCode0 hc
    have Hr := Lib.hid (show cmV ls ps ds = decide (edT ls ps ds (wholeN ps) = -1) by unfold cmV lateV; rw [hc]; simp)
    have Hv := Lib.hid (wholeV_ok hc)
    have Hc := Lib.hid hc
    have Hd := Lib.hid (whole_divs ht)
    clear hc
    go_enter Try.func32, Try.ntmps32
    go_wp2_with fail
    refine (i_WholePeriod _ _ _ ls ps ds _ (hI.later hB0) hN hm).mono ?_
    rintro e w1 ⟨rfl, hb⟩
    have hB1 := hB0.trans (hb.mono (by simp))
    rw [Hv.out, Hc.out]
    have bj := (Box3.new w 37 (.slice al ls.length capl) (.slice ap ps.length capp) (.slice ad ds.length capd)).later hb
    have k0 := bj.c0
    have k1 := bj.c1
    have k2 := bj.c2
    clear hb
    go_wp2_with fail
    refine (byEarliest_c _ _ _ ls ps ds (wholeN ps) w1 (hI.later hB1) ht hw Hd.out).mono ?_
    rintro e w2 ⟨v, rfl, ho, hb2⟩
    have hB2 := hB1.trans (hb2.mono hB1.size)
    go_wp2_with fail
    go_ret2
    exact ⟨retT2 (vB (by rw [Hr.out]; first | rfl | simp)) (vI Hc.out.symm), hB2⟩
  · have Hr := Lib.hid (show cmV ls ps ds = false by unfold cmV; simp [hc])
    have Hv := Lib.hid (wholeV_err hc)
    go_enter Try.func32, Try.ntmps32
    go_wp2_with fail
    refine (i_WholePeriod _ _ _ ls ps ds _ (hI.later hB0) hN hm).mono ?_
    rintro e w1 ⟨rfl, hb⟩
    rw [Hv.out]
    go_wp2_with fail
    go_ret2
    exact ⟨retT2 (vB Hr.out.symm) rfl, hB0.trans (hb.mono (by simp))⟩

set_option maxRecDepth 100000 in
set_option maxHeartbeats 8000000 in
theorem i_FirstLate (cl cp cd : Value) (ls ps ds : List Int) (w : World) (hI : Jobs3 w.heap.size w cl cp cd ls ps ds) (hN : J64 ls ps ds) (hm : JLen ls ps ds) :
    Calls Try.prog 30 #[.agg #[cl, cp, cd]] w fun e w' => e = .returned (.tuple #[.int .i64 (flS ls ps ds), .int .i64 (flT ls ps ds), .int .i64 (flC ls ps ds)]) ∧ Below w.heap.size w w' := by
  obtain ⟨al, capl, rfl⟩ := hI.l.shape
  obtain ⟨ap, capp, rfl⟩ := hI.p.shape
  obtain ⟨ad, capd, rfl⟩ := hI.d.shape
  have hB0 := below_jobs w (.slice al ls.length capl) (.slice ap ps.length capp) (.slice ad ds.length capd)
  by_cases hc : jobCode ls ps ds = 0
  · obtain ⟨ht, hw⟩ := jobCode0 hc
    have Hv := Lib.hid (wholeV_ok hc)
    have Hc := Lib.hid hc
    have Hd := Lib.hid (whole_divs ht)
    rcases lateV_cases ls ps ds with hl | ⟨hl0, hl⟩
    · have H1 := Lib.hid (show flC ls ps ds = 4 by unfold flC; rw [if_pos hc, if_pos hl])
      have H2 := Lib.hid (show flS ls ps ds = 0 by unfold flS; rw [H1.out]; rfl)
      have H3 := Lib.hid (show flT ls ps ds = 0 by unfold flT; rw [H1.out]; rfl)
      have HL := Lib.hid (show edT ls ps ds (wholeN ps) = -1 from hl)
      clear hc hl
      go_enter Try.func30, Try.ntmps30
      go_wp2_with fail
      refine (i_WholePeriod _ _ _ ls ps ds _ (hI.later hB0) hN hm).mono ?_
      rintro e w1 ⟨rfl, hb⟩
      have hB1 := hB0.trans (hb.mono (by simp))
      rw [Hv.out, Hc.out]
      have bj := (Box3.new w 37 (.slice al ls.length capl) (.slice ap ps.length capp) (.slice ad ds.length capd)).later hb
      have k0 := bj.c0
      have k1 := bj.c1
      have k2 := bj.c2
      clear hb
      go_wp2_with fail
      refine (byEarliest_c _ _ _ ls ps ds (wholeN ps) w1 (hI.later hB1) ht hw Hd.out).mono ?_
      rintro e w2 ⟨v, rfl, ho, hb2⟩
      have hB2 := hB1.trans (hb2.mono hB1.size)
      rw [HL.out]
      go_wp2_with fail
      go_ret3
      exact ⟨retT3 (vI H2.out.symm) (vI H3.out.symm) (vI H1.out.symm), hB2⟩
    · have H1 := Lib.hid (show flC ls ps ds = 0 by unfold flC; rw [if_pos hc, if_neg hl])
      have H2 := Lib.hid (show flS ls ps ds = ((edL ls ps ds (wholeN ps)).length : Int) by unfold flS; rw [H1.out, if_pos rfl]; unfold edL; rw [edTo_length])
      have H3 := Lib.hid (show flT ls ps ds = edT ls ps ds (wholeN ps) by unfold flT; rw [H1.out]; rfl)
      have HL : ¬ edT ls ps ds (wholeN ps) = -1 := hl
      clear hc hl hl0
      go_enter Try.func30, Try.ntmps30
      go_wp2_with fail
      refine (i_WholePeriod _ _ _ ls ps ds _ (hI.later hB0) hN hm).mono ?_
      rintro e w1 ⟨rfl, hb⟩
      have hB1 := hB0.trans (hb.mono (by simp))
      rw [Hv.out, Hc.out]
      have bj := (Box3.new w 37 (.slice al ls.length capl) (.slice ap ps.length capp) (.slice ad ds.length capd)).later hb
      have k0 := bj.c0
      have k1 := bj.c1
      have k2 := bj.c2
      clear hb
      go_wp2_with fail
      refine (byEarliest_c _ _ _ ls ps ds (wholeN ps) w1 (hI.later hB1) ht hw Hd.out).mono ?_
      rintro e w2 ⟨v, rfl, ho, hb2⟩
      have hB2 := hB1.trans (hb2.mono hB1.size)
      obtain ⟨a, c, rfl⟩ := ho.ints.shape
      go_wp2_with fail
      go_ret3
      exact ⟨retT3 (vI H2.out.symm) (vI H3.out.symm) (vI H1.out.symm), hB2⟩
  · have H1 := Lib.hid (show flC ls ps ds = jobCode ls ps ds by unfold flC; rw [if_neg hc])
    have H2 := Lib.hid (show flS ls ps ds = 0 by unfold flS; rw [H1.out, if_neg hc])
    have H3 := Lib.hid (show flT ls ps ds = 0 by unfold flT; rw [H1.out, if_neg hc])
    have Hv := Lib.hid (wholeV_err hc)
    go_enter Try.func30, Try.ntmps30
    go_wp2_with fail
    refine (i_WholePeriod _ _ _ ls ps ds _ (hI.later hB0) hN hm).mono ?_
    rintro e w1 ⟨rfl, hb⟩
    rw [Hv.out]
    go_wp2_with fail
    go_ret3
    exact ⟨retT3 (vI H2.out.symm) (vI H3.out.symm) (vI H1.out.symm), hB0.trans (hb.mono (by simp))⟩

set_option maxRecDepth 100000 in
set_option maxHeartbeats 8000000 in
theorem i_TurnsOfJobs (cl cp cd : Value) (ls ps ds : List Int) (w : World) (hI : Jobs3 w.heap.size w cl cp cd ls ps ds) (hN : J64 ls ps ds) (hm : JLen ls ps ds) :
    Calls Try.prog 34 #[.agg #[cl, cp, cd]] w (GivesI w (tjR ls ps ds) fun v => .tuple #[v, .int .i64 (tjC ls ps ds)]) := by
  obtain ⟨al, capl, rfl⟩ := hI.l.shape
  obtain ⟨ap, capp, rfl⟩ := hI.p.shape
  obtain ⟨ad, capd, rfl⟩ := hI.d.shape
  have hB0 := below_jobs w (.slice al ls.length capl) (.slice ap ps.length capp) (.slice ad ds.length capd)
  by_cases hc : jobCode ls ps ds = 0
  · obtain ⟨ht, hw⟩ := jobCode0 hc
    have Hv := Lib.hid (wholeV_ok hc)
    have Hc := Lib.hid hc
    have Hd := Lib.hid (whole_divs ht)
    by_cases h120 : 120 < wholeN ps
    · have H1 := Lib.hid (show tjC ls ps ds = 3 by unfold tjC; rw [if_pos hc, if_pos h120])
      have H2 := Lib.hid (show tjR ls ps ds = [] by unfold tjR; rw [H1.out]; rfl)
      have h120i : (120 : Int) < ((wholeN ps : Nat) : Int) := by omega
      clear hc
      go_enter Try.func34, Try.ntmps34
      go_wp2_with fail
      refine (i_WholePeriod _ _ _ ls ps ds _ (hI.later hB0) hN hm).mono ?_
      rintro e w1 ⟨rfl, hb⟩
      have hB1 := hB0.trans (hb.mono (by simp))
      rw [Hv.out, Hc.out]
      clear hb
      go_wp2_with fail
      go_ret2
      exact ⟨.slice none 0 0, retT2 rfl (vI H1.out.symm), by rw [H2.out]; exact ownI_nil _ _, hB1⟩
    · have h120i : ¬ (120 : Int) < ((wholeN ps : Nat) : Int) := by omega
      rcases lateV_cases ls ps ds with hl | ⟨hl0, hl⟩
      · have H1 := Lib.hid (show tjC ls ps ds = 0 by unfold tjC; rw [if_pos hc, if_neg h120, if_pos hl])
        have H2 := Lib.hid (show tjR ls ps ds = edL ls ps ds (wholeN ps) by unfold tjR; rw [H1.out]; rfl)
        have HL := Lib.hid (show edT ls ps ds (wholeN ps) = -1 from hl)
        clear hc hl
        go_enter Try.func34, Try.ntmps34
        go_wp2_with fail
        refine (i_WholePeriod _ _ _ ls ps ds _ (hI.later hB0) hN hm).mono ?_
        rintro e w1 ⟨rfl, hb⟩
        have hB1 := hB0.trans (hb.mono (by simp))
        rw [Hv.out, Hc.out]
        have bj := (Box3.new w 37 (.slice al ls.length capl) (.slice ap ps.length capp) (.slice ad ds.length capd)).later hb
        have k0 := bj.c0
        have k1 := bj.c1
        have k2 := bj.c2
        clear hb
        go_wp2_with fail
        refine (byEarliest_c _ _ _ ls ps ds (wholeN ps) w1 (hI.later hB1) ht hw Hd.out).mono ?_
        rintro e w2 ⟨v, rfl, ho, hb2⟩
        have hB2 := hB1.trans (hb2.mono hB1.size)
        rw [HL.out]
        go_wp2_with fail
        go_ret2
        exact ⟨v, retT2 rfl (vI H1.out.symm), by rw [H2.out]; exact ho.base hB1.size, hB2⟩
      · have H1 := Lib.hid (show tjC ls ps ds = 5 by unfold tjC; rw [if_pos hc, if_neg h120, if_neg hl])
        have H2 := Lib.hid (show tjR ls ps ds = [] by unfold tjR; rw [H1.out]; rfl)
        have HL : ¬ edT ls ps ds (wholeN ps) = -1 := hl
        clear hc hl hl0
        go_enter Try.func34, Try.ntmps34
        go_wp2_with fail
        refine (i_WholePeriod _ _ _ ls ps ds _ (hI.later hB0) hN hm).mono ?_
        rintro e w1 ⟨rfl, hb⟩
        have hB1 := hB0.trans (hb.mono (by simp))
        rw [Hv.out, Hc.out]
        have bj := (Box3.new w 37 (.slice al ls.length capl) (.slice ap ps.length capp) (.slice ad ds.length capd)).later hb
        have k0 := bj.c0
        have k1 := bj.c1
        have k2 := bj.c2
        clear hb
        go_wp2_with fail
        refine (byEarliest_c _ _ _ ls ps ds (wholeN ps) w1 (hI.later hB1) ht hw Hd.out).mono ?_
        rintro e w2 ⟨v, rfl, ho, hb2⟩
        have hB2 := hB1.trans (hb2.mono hB1.size)
        go_wp2_with fail
        go_ret2
        exact ⟨.slice none 0 0, retT2 rfl (vI H1.out.symm), by rw [H2.out]; exact ownI_nil _ _, hB2⟩
  · have H1 := Lib.hid (show tjC ls ps ds = jobCode ls ps ds by unfold tjC; rw [if_neg hc])
    have H2 := Lib.hid (show tjR ls ps ds = [] by unfold tjR; rw [H1.out, if_neg hc])
    have Hv := Lib.hid (wholeV_err hc)
    go_enter Try.func34, Try.ntmps34
    go_wp2_with fail
    refine (i_WholePeriod _ _ _ ls ps ds _ (hI.later hB0) hN hm).mono ?_
    rintro e w1 ⟨rfl, hb⟩
    rw [Hv.out]
    go_wp2_with fail
    go_ret2
    exact ⟨.slice none 0 0, retT2 rfl (vI H1.out.symm), by rw [H2.out]; exact ownI_nil _ _, hB0.trans (hb.mono (by simp))⟩

end Go.Proofs.Ytbhpflhopajbfaa
