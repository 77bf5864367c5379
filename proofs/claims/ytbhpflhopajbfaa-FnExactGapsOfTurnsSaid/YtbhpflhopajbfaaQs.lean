/-
  DeadlineSlots, FirstLate, CanMeet, TurnsOfJobs of the model.
  Conditions: lists of at most 1048576 elements.
-/
import Derived.Test.YtbhpflhopajbfaaQsl
namespace Go.Proofs.Ytbhpflhopajbfaa
open Go.RowKit Go.Shelf
attribute [local go_sem] Oper.semAt_some

set_option maxRecDepth 100000 in
set_option maxHeartbeats 8000000 in
theorem s_DeadlineSlots (cl cp cd : Value) (ls ps ds : List Int) (w : World) (hI : Jobs3 w.heap.size w cl cp cd ls ps ds) (_hN : J64 ls ps ds) (hm : JLen ls ps ds) :
    Calls Try.prog 21 #[.agg #[cl, cp, cd]] w (GivesI w (dsR ls ps ds) fun v => .tuple #[v, .int .i64 (jobCode ls ps ds)]) := by
  obtain ⟨al, capl, rfl⟩ := hI.l.shape
  obtain ⟨ap, capp, rfl⟩ := hI.p.shape
  obtain ⟨ad, capd, rfl⟩ := hI.d.shape
  have hB0 := below_jobs w (.slice al ls.length capl) (.slice ap ps.length capp) (.slice ad ds.length capd)
  by_cases hc : jobCode ls ps ds = 0
  · have HC := Lib.hid hc
    have Hr := Lib.hid (show dsR ls ps ds = edL ls ps ds (wholeN ps) by unfold dsR; rw [if_pos hc])
    clear hc
    go_enter Try.func21, Try.ntmps21
    go_wp2_with fail
    refine (l04Code_c _ _ _ ls ps ds _ (hI.later hB0) hm).mono ?_
    rintro e w1 ⟨he, hb⟩
    rw [HC.out] at he
    subst he
    have hB1 : Below w.heap.size w w1 := hB0.trans (hb.mono (by simp))
    have b1 : Box3 w1 w.heap.size 37 (.slice al ls.length capl) (.slice ap ps.length capp) (.slice ad ds.length capd) := (Box3.new _ _ _ _ _).later hb
    clear hb hB0
    have c0 := b1.c0
    have c1 := b1.c1
    have c2 := b1.c2
    go_wp2_with fail
    refine (l04Slots_c _ _ _ ls ps ds _ (hI.later hB1) HC.out).mono ?_
    rintro e w2 ⟨v, rfl, ho, hb⟩
    have hB2 := hB1.trans (hb.mono hB1.size)
    go_wp2_with fail
    go_ret2
    exact ⟨v, retT2 rfl (vI HC.out.symm), by rw [Hr.out]; exact ho.base hB1.size, hB2⟩
  · have hne : (jobCode ls ps ds != 0) = true := by rw [bne_iff_ne]; exact hc
    have Hr := Lib.hid (show dsR ls ps ds = [] by unfold dsR; rw [if_neg hc])
    go_enter Try.func21, Try.ntmps21
    go_wp2_with fail
    refine (l04Code_c _ _ _ ls ps ds _ (hI.later hB0) hm).mono ?_
    rintro e w1 ⟨rfl, hb⟩
    go_wp2
    go_ret2
    exact ⟨.slice none 0 0, rfl, by rw [Hr.out]; exact ownI_nil _ _, hB0.trans (hb.mono (by simp))⟩

set_option maxRecDepth 100000 in
set_option maxHeartbeats 8000000 in
theorem s_CanMeet (cl cp cd : Value) (ls ps ds : List Int) (w : World) (hI : Jobs3 w.heap.size w cl cp cd ls ps ds) (_hN : J64 ls ps ds) (hm : JLen ls ps ds) :
    Calls Try.prog 31 #[.agg #[cl, cp, cd]] w fun e w' => e = .returned (.tuple #[.bool (cmV ls ps ds), .int .i64 (jobCode ls ps ds)]) ∧ Below w.heap.size w w' := by
  obtain ⟨al, capl, rfl⟩ := hI.l.shape
  obtain ⟨ap, capp, rfl⟩ := hI.p.shape
  obtain ⟨ad, capd, rfl⟩ := hI.d.shape
  have hB0 := below_jobs w (.slice al ls.length capl) (.slice ap ps.length capp) (.slice ad ds.length capd)
  by_cases hc : jobCode ls ps ds = 0
  · have HC := Lib.hid hc
    have Hr := Lib.hid (show cmV ls ps ds = decide (lateV ls ps ds < 0) by unfold cmV; rw [hc]; rcases lateV_cases ls ps ds with h | ⟨h, h2⟩ <;> simp [*] <;> omega)
    clear hc
    go_enter Try.func31, Try.ntmps31
    go_wp2_with fail
    refine (l04Code_c _ _ _ ls ps ds _ (hI.later hB0) hm).mono ?_
    rintro e w1 ⟨he, hb⟩
    rw [HC.out] at he
    subst he
    have hB1 : Below w.heap.size w w1 := hB0.trans (hb.mono (by simp))
    have b1 : Box3 w1 w.heap.size 37 (.slice al ls.length capl) (.slice ap ps.length capp) (.slice ad ds.length capd) := (Box3.new _ _ _ _ _).later hb
    clear hb hB0
    have c0 := b1.c0
    have c1 := b1.c1
    have c2 := b1.c2
    go_wp2_with fail
    refine (l04Slots_c _ _ _ ls ps ds _ (hI.later hB1) HC.out).mono ?_
    rintro e w2 ⟨v, rfl, ho, hb⟩
    have hB2 := hB1.trans (hb.mono hB1.size)
    obtain ⟨lv, elv⟩ : ∃ lv, lateV ls ps ds = lv := ⟨_, rfl⟩
    have Hlv := Lib.hid elv
    rw [elv]
    clear elv
    go_wp2_with fail
    go_ret2
    exact ⟨retT2 (vB (by rw [Hr.out, Hlv.out])) (vI HC.out.symm), hB2⟩
  · have hne : (jobCode ls ps ds != 0) = true := by rw [bne_iff_ne]; exact hc
    have Hr := Lib.hid (show cmV ls ps ds = false by unfold cmV; simp [hc])
    go_enter Try.func31, Try.ntmps31
    go_wp2_with fail
    refine (l04Code_c _ _ _ ls ps ds _ (hI.later hB0) hm).mono ?_
    rintro e w1 ⟨rfl, hb⟩
    go_wp2
    go_ret2
    exact ⟨retT2 (vB Hr.out.symm) rfl, hB0.trans (hb.mono (by simp))⟩

set_option maxRecDepth 100000 in
set_option maxHeartbeats 8000000 in
theorem s_FirstLate (cl cp cd : Value) (ls ps ds : List Int) (w : World) (hI : Jobs3 w.heap.size w cl cp cd ls ps ds) (_hN : J64 ls ps ds) (hm : JLen ls ps ds) :
    Calls Try.prog 29 #[.agg #[cl, cp, cd]] w fun e w' => e = .returned (.tuple #[.int .i64 (flS ls ps ds), .int .i64 (flT ls ps ds), .int .i64 (flC ls ps ds)]) ∧ Below w.heap.size w w' := by
  obtain ⟨al, capl, rfl⟩ := hI.l.shape
  obtain ⟨ap, capp, rfl⟩ := hI.p.shape
  obtain ⟨ad, capd, rfl⟩ := hI.d.shape
  have hB0 := below_jobs w (.slice al ls.length capl) (.slice ap ps.length capp) (.slice ad ds.length capd)
  by_cases hc : jobCode ls ps ds = 0
  · have HC := Lib.hid hc
    rcases lateV_cases ls ps ds with hl | ⟨hl0, hl⟩
    · have H1 := Lib.hid (show flC ls ps ds = 4 by unfold flC; rw [if_pos hc, if_pos hl])
      have H2 := Lib.hid (show flS ls ps ds = 0 by unfold flS; rw [H1.out]; rfl)
      have H3 := Lib.hid (show flT ls ps ds = 0 by unfold flT; rw [H1.out]; rfl)
      have HL := Lib.hid hl
      clear hc hl
      go_enter Try.func29, Try.ntmps29
      go_wp2_with fail
      refine (l04Code_c _ _ _ ls ps ds _ (hI.later hB0) hm).mono ?_
      rintro e w1 ⟨he, hb⟩
      rw [HC.out] at he
      subst he
      have hB1 : Below w.heap.size w w1 := hB0.trans (hb.mono (by simp))
      have b1 : Box3 w1 w.heap.size 37 (.slice al ls.length capl) (.slice ap ps.length capp) (.slice ad ds.length capd) := (Box3.new _ _ _ _ _).later hb
      clear hb hB0
      have c0 := b1.c0
      have c1 := b1.c1
      have c2 := b1.c2
      go_wp2_with fail
      refine (l04Slots_c _ _ _ ls ps ds _ (hI.later hB1) HC.out).mono ?_
      rintro e w2 ⟨v, rfl, ho, hb⟩
      have hB2 := hB1.trans (hb.mono hB1.size)
      rw [HL.out]
      go_wp2_with fail
      go_ret3
      exact ⟨retT3 (vI H2.out.symm) (vI H3.out.symm) (vI H1.out.symm), hB2⟩
    · have H1 := Lib.hid (show flC ls ps ds = 0 by unfold flC; rw [if_pos hc, if_neg hl])
      have H2 := Lib.hid (show flS ls ps ds = slV ls ps ds (wholeN ps) by unfold flS slV; rw [H1.out, if_pos rfl, if_neg hl])
      have H3 := Lib.hid (show flT ls ps ds = lateV ls ps ds by unfold flT; rw [H1.out]; rfl)
      have hl9 : ¬ lateV ls ps ds < 0 := by omega
      clear hc hl hl0
      go_enter Try.func29, Try.ntmps29
      go_wp2_with fail
      refine (l04Code_c _ _ _ ls ps ds _ (hI.later hB0) hm).mono ?_
      rintro e w1 ⟨he, hb⟩
      rw [HC.out] at he
      subst he
      have hB1 : Below w.heap.size w w1 := hB0.trans (hb.mono (by simp))
      have b1 : Box3 w1 w.heap.size 37 (.slice al ls.length capl) (.slice ap ps.length capp) (.slice ad ds.length capd) := (Box3.new _ _ _ _ _).later hb
      clear hb hB0
      have c0 := b1.c0
      have c1 := b1.c1
      have c2 := b1.c2
      go_wp2_with fail
      refine (l04Slots_c _ _ _ ls ps ds _ (hI.later hB1) HC.out).mono ?_
      rintro e w2 ⟨v, rfl, ho, hb⟩
      have hB2 := hB1.trans (hb.mono hB1.size)
      go_wp2_with fail
      go_ret3
      exact ⟨retT3 (vI H2.out.symm) (vI H3.out.symm) (vI H1.out.symm), hB2⟩
  · have hne : (jobCode ls ps ds != 0) = true := by rw [bne_iff_ne]; exact hc
    have H1 := Lib.hid (show flC ls ps ds = jobCode ls ps ds by unfold flC; rw [if_neg hc])
    have H2 := Lib.hid (show flS ls ps ds = 0 by unfold flS; rw [H1.out, if_neg hc])
    have H3 := Lib.hid (show flT ls ps ds = 0 by unfold flT; rw [H1.out, if_neg hc])
    go_enter Try.func29, Try.ntmps29
    go_wp2_with fail
    refine (l04Code_c _ _ _ ls ps ds _ (hI.later hB0) hm).mono ?_
    rintro e w1 ⟨rfl, hb⟩
    go_wp2
    go_ret3
    exact ⟨retT3 (vI H2.out.symm) (vI H3.out.symm) (vI H1.out.symm), hB0.trans (hb.mono (by simp))⟩

set_option maxRecDepth 100000 in
set_option maxHeartbeats 8000000 in
theorem l04Turns_c (cl cp cd : Value) (ls ps ds : List Int) (w : World) (hI : Jobs3 w.heap.size w cl cp cd ls ps ds) (_hN : J64 ls ps ds) (hm : JLen ls ps ds) :
    Calls Try.prog 76 #[.agg #[cl, cp, cd]] w (GivesI w (tjR ls ps ds) fun v => .tuple #[v, .int .i64 (tjC ls ps ds)]) := by
  obtain ⟨al, capl, rfl⟩ := hI.l.shape
  obtain ⟨ap, capp, rfl⟩ := hI.p.shape
  obtain ⟨ad, capd, rfl⟩ := hI.d.shape
  have hB0 := below_jobs w (.slice al ls.length capl) (.slice ap ps.length capp) (.slice ad ds.length capd)
  by_cases hc : jobCode ls ps ds = 0
  · have HC := Lib.hid hc
    by_cases h120 : 120 < wholeN ps
    · have H1 := Lib.hid (show tjC ls ps ds = 3 by unfold tjC; rw [if_pos hc, if_pos h120])
      have H2 := Lib.hid (show tjR ls ps ds = [] by unfold tjR; rw [H1.out]; rfl)
      have h120i : (120 : Int) < ((wholeN ps : Nat) : Int) := by omega
      clear hc
      go_enter Try.func76, Try.ntmps76
      go_wp2_with fail
      refine (l04Code_c _ _ _ ls ps ds _ (hI.later hB0) hm).mono ?_
      rintro e w1 ⟨he, hb⟩
      rw [HC.out] at he
      subst he
      have hB1 : Below w.heap.size w w1 := hB0.trans (hb.mono (by simp))
      have b1 : Box3 w1 w.heap.size 37 (.slice al ls.length capl) (.slice ap ps.length capp) (.slice ad ds.length capd) := (Box3.new _ _ _ _ _).later hb
      clear hb hB0
      have c0 := b1.c0
      have c1 := b1.c1
      have c2 := b1.c2
      go_wp2_with fail
      refine (l04Whole_v _ _ _ ls ps ds _ (hI.later hB1) HC.out).mono ?_
      rintro e w2 ⟨rfl, hb⟩
      have hB2 := hB1.trans (hb.mono hB1.size)
      go_wp2_with fail
      go_ret2
      exact ⟨.slice none 0 0, retT2 rfl (vI H1.out.symm), by rw [H2.out]; exact ownI_nil _ _, hB2⟩
    · have h120i : ¬ (120 : Int) < ((wholeN ps : Nat) : Int) := by omega
      rcases lateV_cases ls ps ds with hl | ⟨hl0, hl⟩
      · have H1 := Lib.hid (show tjC ls ps ds = 0 by unfold tjC; rw [if_pos hc, if_neg h120, if_pos hl])
        have H2 := Lib.hid (show tjR ls ps ds = edL ls ps ds (wholeN ps) by unfold tjR; rw [H1.out]; rfl)
        have HL := Lib.hid hl
        clear hc hl
        go_enter Try.func76, Try.ntmps76
        go_wp2_with fail
        refine (l04Code_c _ _ _ ls ps ds _ (hI.later hB0) hm).mono ?_
        rintro e w1 ⟨he, hb⟩
        rw [HC.out] at he
        subst he
        have hB1 : Below w.heap.size w w1 := hB0.trans (hb.mono (by simp))
        have b1 : Box3 w1 w.heap.size 37 (.slice al ls.length capl) (.slice ap ps.length capp) (.slice ad ds.length capd) := (Box3.new _ _ _ _ _).later hb
        clear hb hB0
        have c0 := b1.c0
        have c1 := b1.c1
        have c2 := b1.c2
        go_wp2_with fail
        refine (l04Whole_v _ _ _ ls ps ds _ (hI.later hB1) HC.out).mono ?_
        rintro e w2 ⟨rfl, hb⟩
        have hB2 := hB1.trans (hb.mono hB1.size)
        have b2 := b1.later hb
        have d0 := b2.c0
        have d1 := b2.c1
        have d2 := b2.c2
        clear hb c0 c1 c2
        go_wp2_with fail
        refine (l04Slots_c _ _ _ ls ps ds _ (hI.later hB2) HC.out).mono ?_
        rintro e w3 ⟨v, rfl, ho, hb⟩
        have hB3 := hB2.trans (hb.mono hB2.size)
        rw [HL.out]
        go_wp2_with fail
        go_ret2
        exact ⟨v, retT2 rfl (vI H1.out.symm), by rw [H2.out]; exact ho.base hB2.size, hB3⟩
      · have H1 := Lib.hid (show tjC ls ps ds = 5 by unfold tjC; rw [if_pos hc, if_neg h120, if_neg hl])
        have H2 := Lib.hid (show tjR ls ps ds = [] by unfold tjR; rw [H1.out]; rfl)
        clear hc hl
        go_enter Try.func76, Try.ntmps76
        go_wp2_with fail
        refine (l04Code_c _ _ _ ls ps ds _ (hI.later hB0) hm).mono ?_
        rintro e w1 ⟨he, hb⟩
        rw [HC.out] at he
        subst he
        have hB1 : Below w.heap.size w w1 := hB0.trans (hb.mono (by simp))
        have b1 : Box3 w1 w.heap.size 37 (.slice al ls.length capl) (.slice ap ps.length capp) (.slice ad ds.length capd) := (Box3.new _ _ _ _ _).later hb
        clear hb hB0
        have c0 := b1.c0
        have c1 := b1.c1
        have c2 := b1.c2
        go_wp2_with fail
        refine (l04Whole_v _ _ _ ls ps ds _ (hI.later hB1) HC.out).mono ?_
        rintro e w2 ⟨rfl, hb⟩
        have hB2 := hB1.trans (hb.mono hB1.size)
        have b2 := b1.later hb
        have d0 := b2.c0
        have d1 := b2.c1
        have d2 := b2.c2
        clear hb c0 c1 c2
        go_wp2_with fail
        refine (l04Slots_c _ _ _ ls ps ds _ (hI.later hB2) HC.out).mono ?_
        rintro e w3 ⟨v, rfl, ho, hb⟩
        have hB3 := hB2.trans (hb.mono hB2.size)
        go_wp2_with fail
        go_ret2
        exact ⟨.slice none 0 0, retT2 rfl (vI H1.out.symm), by rw [H2.out]; exact ownI_nil _ _, hB3⟩
  · have hne : (jobCode ls ps ds != 0) = true := by rw [bne_iff_ne]; exact hc
    have H1 := Lib.hid (show tjC ls ps ds = jobCode ls ps ds by unfold tjC; rw [if_neg hc])
    have H2 := Lib.hid (show tjR ls ps ds = [] by unfold tjR; rw [H1.out, if_neg hc])
    go_enter Try.func76, Try.ntmps76
    go_wp2_with fail
    refine (l04Code_c _ _ _ ls ps ds _ (hI.later hB0) hm).mono ?_
    rintro e w1 ⟨rfl, hb⟩
    go_wp2
    go_ret2
    exact ⟨.slice none 0 0, retT2 rfl (vI H1.out.symm), by rw [H2.out]; exact ownI_nil _ _, hB0.trans (hb.mono (by simp))⟩

set_option maxRecDepth 100000 in
set_option maxHeartbeats 8000000 in
theorem s_TurnsOfJobs (cl cp cd : Value) (ls ps ds : List Int) (w : World) (hI : Jobs3 w.heap.size w cl cp cd ls ps ds) (hN : J64 ls ps ds) (hm : JLen ls ps ds) :
    Calls Try.prog 33 #[.agg #[cl, cp, cd]] w (GivesI w (tjR ls ps ds) fun v => .tuple #[v, .int .i64 (tjC ls ps ds)]) := by
  obtain ⟨al, capl, rfl⟩ := hI.l.shape
  obtain ⟨ap, capp, rfl⟩ := hI.p.shape
  obtain ⟨ad, capd, rfl⟩ := hI.d.shape
  have hB0 := below_jobs w (.slice al ls.length capl) (.slice ap ps.length capp) (.slice ad ds.length capd)
  go_enter Try.func33, Try.ntmps33
  go_wp2_with fail
  refine (l04Turns_c _ _ _ ls ps ds _ (hI.later hB0) hN hm).mono ?_
  rintro e w1 ⟨v, rfl, ho, hb⟩
  have hB1 : Below w.heap.size w w1 := hB0.trans (hb.mono (by simp))
  go_wp2_with fail
  go_ret2
  exact ⟨v, rfl, ho.base (by simp), hB1⟩

end Go.Proofs.Ytbhpflhopajbfaa
