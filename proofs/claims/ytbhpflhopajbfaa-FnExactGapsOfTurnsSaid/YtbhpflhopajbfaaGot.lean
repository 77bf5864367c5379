/-
  GapsOfTurns of both: each task has a turn; the greatest of the greatest waits.
  Conditions: lists of at most 1048576 elements.
-/
import Derived.Test.YtbhpflhopajbfaaQs
import Derived.Test.YtbhpflhopajbfaaGreat
namespace Go.Proofs.Ytbhpflhopajbfaa
open Go.RowKit Go.Shelf
attribute [local go_sem] Oper.semAt_some

theorem most_ge {ts : List Int} {k : Nat} (h : k < ts.length) : nth ts k ≤ most ts := by
  have key : ∀ n, n ≤ ts.length → ∀ j, j < n → nth ts j ≤ mostTo ts n := by
    intro n
    induction n with
    | zero => intro _ j hj; omega
    | succ n ih =>
      intro hn j hj
      rw [mostTo_succ (by omega)]
      by_cases e : j = n
      · subst e; omega
      · have := ih (by omega) j (by omega); omega
  exact key _ (Nat.le_refl _) k h
theorem most_le {ts : List Int} {c : Int} (hc : -1 ≤ c) (h : ∀ k, k < ts.length → nth ts k ≤ c) : most ts ≤ c := by
  have key : ∀ n, n ≤ ts.length → mostTo ts n ≤ c := by
    intro n
    induction n with
    | zero => intro _; simpa [mostTo] using hc
    | succ n ih =>
      intro hn
      rw [mostTo_succ (by omega)]
      have := ih (by omega)
      have := h n (by omega)
      omega
  exact key _ (Nat.le_refl _)
theorem edB_bd (ls ps ds : List Int) (s : Nat) : -1 ≤ edB ls ps ds s ∧ edB ls ps ds s < ls.length := by
  rcases best_bd (ls := ls) (ps := ps) (ds := ds) s ls.length with h | ⟨q, h, hq, _⟩
  · rw [edB_best, h]; omega
  · rw [edB_best, h]; omega
theorem due_at {ls ps ds : List Int} (hP : JobsP ls ps ds) (s : Nat) (h : ∀ j, j < s → edLate ls ps ds j < 0) : Due (nth ps) (edS ls ps ds s).1 (edS ls ps ds s).2 ls.length (s : Int) := by
  induction s with
  | zero => intro i _ hl; simp [edS] at hl
  | succ s ih =>
    have hd := ih fun j hj => h j (by omega)
    have hs := h s (by omega)
    rw [Int.natCast_add]
    refine hd.next (l := nth ls) (fun i hi hl e => ?_) (fun i hi => ⟨(hP.p i hi).1, (hP.d i hi).1, (hP.d i hi).2⟩) fun i hi hl => ?_
    · have hz := lateTo_spec (edS ls ps ds s).1 (edS ls ps ds s).2 (s : Int) ls.length
      unfold edLate at hs
      rcases hz with ⟨_, hz⟩ | ⟨i2, _, hz, _⟩
      · exact hz i hi ⟨hl, e⟩
      · omega
    · simp only [edS] at hl
      split at hl
      · exact hl
      · unfold upd at hl
        split at hl
        · rename_i e; subst e; omega
        · exact hl
/-- if none is late each task has a turn -/
theorem has_turn {ls ps ds : List Int} (hP : JobsP ls ps ds) {N : Nat} (hN : 1 ≤ N) (hnl : ∀ j, j < N → edLate ls ps ds j < 0) (he : edLate ls ps ds N < 0) (hw : ∀ i, i < ls.length → (N : Int) % nth ps i = 0) {c : Nat} (hc : c < ls.length) : ∃ s, s < N ∧ edB ls ps ds s = c := by
  rcases Classical.em (∃ s, s < N ∧ edB ls ps ds s = c) with h | h
  · exact h
  · have hno : ∀ s, s < N → edB ls ps ds s ≠ c := fun s hs e => h ⟨s, hs, e⟩
    have step : ∀ s, s < N → (edS ls ps ds (s + 1)).1 c = CL ls ps ds s c := fun s hs => by
      rcases best_bd (ls := ls) (ps := ps) (ds := ds) s ls.length with hb | ⟨q, hb, hq, _⟩
      · rw [edS_idle hb]
      · have h1 := (edS_give (ls := ls) (ps := ps) (ds := ds) (s := s) (K := ls.length) hb).2
        have h2 := congrArg (fun l => nth l c) h1
        have hqc : q ≠ c := fun e => hno s hs (by rw [edB_best, hb, e])
        rw [nth_lst hc, nth_set (by rw [lst_length]; exact hc), if_neg hqc, nth_lst hc] at h2
        exact h2
    have pos : ∀ s, s < N → 0 < (edS ls ps ds (s + 1)).1 c := by
      intro s
      induction s with
      | zero =>
        intro h0
        rw [step 0 h0]
        unfold CL comeL
        rw [if_pos (by simp)]
        have := (hP.l c hc).1; omega
      | succ s ih =>
        intro hs
        rw [step (s + 1) hs]
        unfold CL comeL
        split
        · have := (hP.l c hc).1; omega
        · exact ih (by omega)
    have hl := pos (N - 1) (by omega)
    rw [show N - 1 + 1 = N by omega] at hl
    have hd := (due_at hP N hnl).whole (fun i hi => ⟨(hP.p i hi).1, hw i hi⟩) hc hl
    exfalso
    have hz := lateTo_spec (edS ls ps ds N).1 (edS ls ps ds N).2 (N : Int) ls.length
    unfold edLate at he
    rcases hz with ⟨_, hz⟩ | ⟨i2, _, hz, _⟩
    · exact hz c hc ⟨hl, hd⟩
    · omega

/-! ### what GapsOfTurns tells -/
def gtT (ls ps ds : List Int) : List Int := edL ls ps ds (wholeN ps)
def gtC (ls ps ds : List Int) : Int := if tjC ls ps ds = 0 then if 40 < most (greatL (gtT ls ps ds) ls.length) then 4 else 0 else tjC ls ps ds
def gtR (ls ps ds : List Int) : List Int := if gtC ls ps ds = 0 then greatL (gtT ls ps ds) ls.length else []
theorem tjC0 {ls ps ds : List Int} (h : tjC ls ps ds = 0) : jobCode ls ps ds = 0 ∧ wholeN ps ≤ 120 ∧ lateV ls ps ds = -1 := by
  unfold tjC at h
  split at h
  · rename_i hj
    refine ⟨hj, ?_⟩
    split at h
    · omega
    · split at h
      · exact ⟨by omega, by assumption⟩
      · omega
  · exact absurd h (by assumption)
theorem gtR_len (ls ps ds : List Int) : (gtR ls ps ds).length * 8 ≤ 140737488351232 := by
  unfold gtR
  split
  · rename_i h
    have hj : tjC ls ps ds = 0 := by
      unfold gtC at h
      split at h
      · assumption
      · exact absurd h (by assumption)
    have := (jobsP (jobCode0 (tjC0 hj).1).1).len8
    rw [greatL_length]; omega
  · simp
/-- the turns of jobs that none is late in -/
structure GtT (ls ps ds ts : List Int) : Prop where
  len1 : 1 ≤ ls.length
  len8 : ls.length ≤ 8
  ok : turnsOk ts 8 = true
  most : most ts = (ls.length : Int) - 1
  i64 : I64s ts
  len : ts.length ≤ 120
theorem gtT_ok {ls ps ds : List Int} (h : tjC ls ps ds = 0) : GtT ls ps ds (gtT ls ps ds) := by
  obtain ⟨hj, h120, hl⟩ := tjC0 h
  obtain ⟨ht, _⟩ := jobCode0 hj
  have hP := jobsP ht
  have hlate : edN ls ps ds (wholeN ps) = wholeN ps := by
    rcases edN_stop ls ps ds (wholeN ps) with h1 | h1
    · exact h1
    · unfold lateV edT at hl; omega
  have hts : gtT ls ps ds = edTo ls ps ds (wholeN ps) := by unfold gtT edL; rw [hlate]
  have hw0 := (whole_pos hP).1
  have hnth : ∀ k, k < wholeN ps → nth (gtT ls ps ds) k = edB ls ps ds k := fun k hk => by rw [hts, nth_edTo hk]
  have hlen : (gtT ls ps ds).length = wholeN ps := by rw [hts, edTo_length]
  have hmem : ∀ z ∈ gtT ls ps ds, -1 ≤ z ∧ z < ls.length := fun z hz => by
    rw [hts] at hz
    obtain ⟨s, _, rfl⟩ := List.mem_map.1 hz
    exact edB_bd ls ps ds s
  have h8 := hP.len8
  have h1 := hP.len1
  refine ⟨h1, h8, ?_, ?_, fun z hz => ?_, by omega⟩
  · unfold turnsOk
    rw [Bool.and_eq_true, List.all_eq_true, inB_true]
    exact ⟨fun z hz => inB_true.2 (by have := hmem z hz; omega), by omega⟩
  · obtain ⟨s, hs, e⟩ := has_turn hP hw0 (fun j hj => edN_not (n := wholeN ps) (by omega)) (by unfold lateV edT at hl; rw [hlate] at hl; omega) (whole_divs ht) (c := ls.length - 1) (by omega)
    have a := most_ge (ts := gtT ls ps ds) (k := s) (by omega)
    rw [hnth s hs, e] at a
    have b := most_le (ts := gtT ls ps ds) (c := (ls.length : Int) - 1) (by omega) fun k hk => by
      have := hmem _ (nth_mem hk); omega
    omega
  · have := hmem z hz
    unfold I64; omega


set_option maxRecDepth 100000 in
set_option maxHeartbeats 8000000 in
theorem maxQ_c (sv : Value) (ts : List Int) (w : World) (hI : Ints w.heap.size w sv ts) (hp : 0 < ts.length) (h1 : ∀ k, k < ts.length → -1 ≤ nth ts k) (hl : ts.length ≤ 1048576) :
    Calls Try.prog 79 #[sv] w fun e w' => e = .returned (.int .i64 (most ts)) ∧ w = w' := by
  obtain ⟨a, cap, rfl⟩ := hI.shape
  obtain ⟨b, off, rfl, hbb, hc⟩ := hI.at_ hp
  have h0 : w.cell? ⟨b, off, none⟩ = some (.int .i64 (nth ts 0)) := by simpa using hc 0 (by omega)
  have e1 : mostTo ts 1 = nth ts 0 := by
    have := h1 0 hp
    rw [mostTo_succ (by omega)]; simp [mostTo]; omega
  clear h1
  go_enter Try.func79, Try.ntmps79
  clear hc
  go_wp2
  rw [← e1]
  clear e1 h0
  go_loop [4, 3] (fun i m => ∃ k : Nat, 1 ≤ k ∧ k ≤ ts.length ∧ i = .int .i64 k ∧ m = .int .i64 (mostTo ts k)) (fun i _ => ts.length - (intOf i).toNat)
  case atStart => exact ⟨1, Nat.le_refl _, hp, rfl, rfl⟩
  case round =>
    obtain ⟨k, hk1, hk, rfl, rfl⟩ := hrel
    by_cases hlt : k < ts.length
    · obtain ⟨b2, off2, hs, hb2, hc⟩ := hI.at_ hlt
      cases hs
      have hcx := hc k hlt
      have hs := mostTo_succ hlt
      have Hs := Lib.hid hs
      clear hc hs
      go_wp2
      exact ⟨⟨k + 1, by omega, by omega, by simp, by rw [Hs.out]; congr 1; omega⟩, by simp [intOf]; omega⟩
    · obtain rfl : k = ts.length := by omega
      go_wp2
      go_ret
      exact ⟨ret_int rfl, rfl⟩
theorem ownI_ne_boxQ {B b : Nat} {W : World} {v u : Value} {zs : List Int} (h : OwnI B W v zs) (hb : Boxed W b 28 u) : v.ownBlock ≠ some b := by
  intro e
  obtain ⟨cur, hc⟩ := int_cells h e
  rw [show W.heap[b]? = _ from hb] at hc
  injection hc with hc
  simp at hc

set_option maxRecDepth 100000 in
set_option maxHeartbeats 8000000 in
theorem i_GapsOfTurns (cl cp cd : Value) (ls ps ds : List Int) (w : World) (hI : Jobs3 w.heap.size w cl cp cd ls ps ds) (hN : J64 ls ps ds) (hm : JLen ls ps ds) :
    Calls Try.prog 36 #[.agg #[cl, cp, cd]] w (GivesI w (gtR ls ps ds) fun v => .tuple #[.agg #[v], .int .i64 (gtC ls ps ds)]) := by
  obtain ⟨al, capl, rfl⟩ := hI.l.shape
  obtain ⟨ap, capp, rfl⟩ := hI.p.shape
  obtain ⟨ad, capd, rfl⟩ := hI.d.shape
  go_enter Try.func36, Try.ntmps36
  go_wp2_with fail
  obtain ⟨W0, hW0⟩ : ∃ W0, (w.alloc (.cells #[.slice al ls.length capl, .slice ap ps.length capp, .slice ad ds.length capd] 37)).alloc (.cells #[.slice none 0 0] 28) = W0 := ⟨_, rfl⟩
  have hB0 : Below w.heap.size w W0 := by rw [← hW0]; exact ((Below.refl _ w).alloc (Nat.le_refl _) _).alloc (by simp) _
  have bQ : Boxed W0 (w.heap.size + 1) 28 (.slice none 0 0) := by rw [← hW0]; exact boxed_at (by simp)
  rw [hW0]
  clear hW0
  refine (i_TurnsOfJobs _ _ _ ls ps ds _ (hI.later hB0) hN hm).mono ?_
  rintro e w1 ⟨v, rfl, ho, hb⟩
  have hB1 := hB0.trans (hb.mono hB0.size)
  replace bQ := boxed_later bQ hb
  have cQ := bQ.cell
  have fQ := bQ.frozen
  have k1 := (bQ.set (.slice none 0 0)).cell
  have hbl := bQ.lt
  clear hb
  by_cases hc : tjC ls ps ds = 0
  · have G := gtT_ok hc
    have HG := Lib.hid G
    have hto : tjR ls ps ds = gtT ls ps ds := by unfold tjR; rw [if_pos hc]; rfl
    rw [hto] at ho
    have Hc := Lib.hid hc
    rw [hc]
    have hg1 : greatC (gtT ls ps ds) = 0 := by unfold greatC; rw [G.ok]; rfl
    have hg2 : greatR (gtT ls ps ds) = greatL (gtT ls ps ds) ls.length := by
      unfold greatR; rw [G.ok, if_pos rfl, G.most]; congr 1; omega
    have hl1 := G.len1
    have hl8 := G.len8
    have Hg1 := Lib.hid hg1
    have Hg2 := Lib.hid hg2
    clear hc hto G hg1 hg2
    go_wp2_with fail
    refine (i_GreatestWaits _ (gtT ls ps ds) _ ho.ints HG.out.i64 (by have := HG.out.len; omega)).mono ?_
    rintro e w2 ⟨v2, rfl, ho2, hb2⟩
    rw [Hg1.out]
    rw [Hg2.out] at ho2
    have hB2 := hB1.trans (hb2.mono hB1.size)
    replace bQ := boxed_later bQ hb2
    have cQ := bQ.cell
    have fQ := bQ.frozen
    have k1 := (bQ.set (.slice none 0 0)).cell
    clear hb2 ho
    obtain ⟨av, cv, ev⟩ := ho2.ints.shape
    rw [greatL_length] at ev
    subst ev
    go_wp2_with fail
    refine (maxQ_c _ (greatL (gtT ls ps ds) ls.length) _ ho2.ints (by rw [greatL_length]; omega) (fun k hk => by
      rw [greatL_length] at hk
      have := greatW_bd (gtT ls ps ds) (k : Int)
      have e : nth (greatL (gtT ls ps ds) ls.length) k = greatW (gtT ls ps ds) (k : Int) := by simp [nth, greatL, hk]
      omega) (by rw [greatL_length]; omega)).mono ?_
    rintro e w3 ⟨rfl, rfl⟩
    obtain ⟨m, em⟩ : ∃ m, most (greatL (gtT ls ps ds) ls.length) = m := ⟨_, rfl⟩
    by_cases h40 : 40 < m
    · have H1 := Lib.hid (show gtC ls ps ds = 4 by unfold gtC; rw [if_pos Hc.out, em, if_pos h40])
      have H2 := Lib.hid (show gtR ls ps ds = [] by unfold gtR; rw [H1.out]; rfl)
      rw [em]
      clear em
      go_wp2_with fail
      exact bodyPost_ret (v := .tuple #[.agg #[.slice none 0 0], .int .i64 4]) (by simp [results, Try.f36, go_sem, k1]) rfl ⟨_, ret_t2 H1.out.symm, by rw [H2.out]; exact ownI_nil _ _, hB2.setCell (p := ⟨w.heap.size + 1, 0, none⟩) (by show w.heap.size ≤ w.heap.size + 1; omega) _⟩
    · have H1 := Lib.hid (show gtC ls ps ds = 0 by unfold gtC; rw [if_pos Hc.out, em, if_neg h40])
      have H2 := Lib.hid (show gtR ls ps ds = greatL (gtT ls ps ds) ls.length by unfold gtR; rw [H1.out]; rfl)
      rw [em]
      have k2 := (bQ.set (.slice av ls.length cv)).cell
      have ho9 : OwnI w.heap.size (w2.setCell ⟨w.heap.size + 1, 0, none⟩ (.slice av ls.length cv)) (.slice av ls.length cv) (greatL (gtT ls ps ds) ls.length) := (ho2.kept (grownBy_setCell2 _ _ _ _) (.inr (ownI_ne_boxQ ho2 bQ))).base hB1.size
      clear em
      go_wp2_with fail
      exact bodyPost_ret (v := .tuple #[.agg #[.slice av ls.length cv], .int .i64 0]) (by simp [results, Try.f36, go_sem, k2]) rfl ⟨_, ret_t2 H1.out.symm, by rw [H2.out]; exact ho9, hB2.setCell (p := ⟨w.heap.size + 1, 0, none⟩) (by show w.heap.size ≤ w.heap.size + 1; omega) _⟩
  · have H1 := Lib.hid (show gtC ls ps ds = tjC ls ps ds by unfold gtC; rw [if_neg hc])
    have H2 := Lib.hid (show gtR ls ps ds = [] by unfold gtR; rw [H1.out, if_neg hc])
    have hne : (tjC ls ps ds != 0) = true := by rw [bne_iff_ne]; exact hc
    go_wp2_with fail
    exact bodyPost_ret (v := .tuple #[.agg #[.slice none 0 0], .int .i64 (tjC ls ps ds)]) (by simp [results, Try.f36, go_sem, k1]) rfl ⟨_, ret_t2 H1.out.symm, by rw [H2.out]; exact ownI_nil _ _, hB1.setCell (p := ⟨w.heap.size + 1, 0, none⟩) (by show w.heap.size ≤ w.heap.size + 1; omega) _⟩


theorem ownI_ne_jobsQ {B b : Nat} {W : World} {y u v x : Value} {zs : List Int} (h : OwnI B W y zs) (hb : Box3 W b 37 u v x) : y.ownBlock ≠ some b := by
  intro e
  obtain ⟨cur, hc⟩ := int_cells h e
  rw [show W.heap[b]? = _ from hb] at hc
  injection hc with hc
  simp at hc
theorem nth_greatL {ts : List Int} {n k : Nat} (h : k < n) : nth (greatL ts n) k = greatW ts (k : Int) := by simp [nth, greatL, h]

set_option maxRecDepth 100000 in
set_option maxHeartbeats 16000000 in
theorem s_GapsOfTurns (cl cp cd : Value) (ls ps ds : List Int) (w : World) (hI : Jobs3 w.heap.size w cl cp cd ls ps ds) (hN : J64 ls ps ds) (hm : JLen ls ps ds) :
    Calls Try.prog 35 #[.agg #[cl, cp, cd]] w (GivesI w (gtR ls ps ds) fun v => .tuple #[.agg #[v], .int .i64 (gtC ls ps ds)]) := by
  obtain ⟨i0, hi, hz0, hz1, hz2⟩ := info_parts Try.infoI2
  obtain ⟨al, capl, rfl⟩ := hI.l.shape
  obtain ⟨ap, capp, rfl⟩ := hI.p.shape
  obtain ⟨ad, capd, rfl⟩ := hI.d.shape
  go_enter Try.func35, Try.ntmps35
  go_wp2_with fail
  obtain ⟨W0, hW0⟩ : ∃ W0, (w.alloc (.cells #[.slice al ls.length capl, .slice ap ps.length capp, .slice ad ds.length capd] 37)).alloc (.cells #[.slice none 0 0] 28) = W0 := ⟨_, rfl⟩
  have hB0 : Below w.heap.size w W0 := by rw [← hW0]; exact ((Below.refl _ w).alloc (Nat.le_refl _) _).alloc (by simp) _
  have bQ : Boxed W0 (w.heap.size + 1) 28 (.slice none 0 0) := by rw [← hW0]; exact boxed_at (by simp)
  have bj : Box3 W0 w.heap.size 37 (.slice al ls.length capl) (.slice ap ps.length capp) (.slice ad ds.length capd) := by rw [← hW0]; exact (Box3.new _ _ _ _ _).alloc _
  rw [hW0]
  clear hW0
  refine (l04Turns_c _ _ _ ls ps ds _ (hI.later hB0) hN hm).mono ?_
  rintro e w1 ⟨v, rfl, ho, hb⟩
  have hB1 := hB0.trans (hb.mono hB0.size)
  replace bQ := boxed_later bQ hb
  replace bj := bj.later hb
  have cQ := bQ.cell
  have fQ := bQ.frozen
  have k1 := (bQ.set (.slice none 0 0)).cell
  have hbl := bQ.lt
  clear hb
  by_cases hc : tjC ls ps ds = 0
  · have HG := Lib.hid (gtT_ok hc)
    have hto : tjR ls ps ds = gtT ls ps ds := by unfold tjR; rw [if_pos hc]; rfl
    rw [hto] at ho
    have Hc := Lib.hid hc
    rw [hc]
    have hl8 := HG.out.len8
    have htl := HG.out.len
    obtain ⟨ts, ets⟩ : ∃ ts, gtT ls ps ds = ts := ⟨_, rfl⟩
    have Hts := Lib.hid ets
    rw [ets] at ho htl
    clear hc hto ets
    go_wp2_with fail
    have ho0 := (ownI_empty w1).alloc (.cells #[.slice (some ⟨w1.heap.size, 0, none⟩) 0 0] 28)
    have bO := Boxed.new (w1.alloc (.cells #[] 2)) 28 (.slice (some ⟨w1.heap.size, 0, none⟩) 0 0)
    simp only [World.size_alloc] at bO
    have bQ1 := (bQ.alloc (.cells #[] 2)).alloc (.cells #[.slice (some ⟨w1.heap.size, 0, none⟩) 0 0] 28)
    have bj1 := (bj.alloc (.cells #[] 2)).alloc (.cells #[.slice (some ⟨w1.heap.size, 0, none⟩) 0 0] 28)
    have hBx : Below w1.heap.size w1 ((w1.alloc (.cells #[] 2)).alloc (.cells #[.slice (some ⟨w1.heap.size, 0, none⟩) 0 0] 28)) := ((Below.refl _ w1).alloc (Nat.le_refl _) _).alloc (by simp) _
    have hB2 := hB1.trans (hBx.mono hB1.size)
    have ho2 := ho.ints.below hBx
    have hs1 := hB1.size
    clear bQ bj hB0 hB1 cQ fQ k1 ho hBx
    go_loopw [7] (fun i wr => ∃ (j : Nat) (u : Value), j ≤ ls.length ∧ i = .int .i64 j ∧ Boxed wr (w1.heap.size + 1) 28 u ∧ OwnI w1.heap.size wr u (greatL ts j) ∧ (∀ m, m < j → greatW ts (m : Int) ≤ 40) ∧ Boxed wr (w.heap.size + 1) 28 (.slice none 0 0) ∧ Box3 wr w.heap.size 37 (.slice al ls.length capl) (.slice ap ps.length capp) (.slice ad ds.length capd) ∧ Ints w1.heap.size wr v ts ∧ Below w.heap.size w wr) (fun i _ => ls.length - (intOf i).toNat)
    case atStart => exact ⟨0, _, Nat.zero_le _, rfl, bO, ho0, fun m h => by omega, bQ1, bj1, ho2, hB2⟩
    case round =>
      obtain ⟨j, u, hj, rfl, bOk, hok, hall, bQk, bjk, hit, hB⟩ := hrel
      have hw1s : w1.heap.size ≤ wr.heap.size := by have := bOk.lt; omega
      have Hall := Lib.hid hall
      clear bO ho0 bQ1 hB2 hall bj1 ho2
      have cO := bOk.cell
      have fO := bOk.frozen
      have cj := bjk.c0
      obtain ⟨av, cv, ev⟩ := hok.ints.shape
      rw [greatL_length] at ev
      subst ev
      by_cases hlt : j < ls.length
      · have hlti : (j : Int) < (ls.length : Int) := by omega
        go_wp2_with fail
        refine (l01Greatest_c _ ts j _ (hit.mono (by omega)) (by omega)).mono ?_
        rintro e w3 ⟨rfl, hb⟩
        have ho2 := hok.below hb
        have hB3 := hB.trans (hb.mono hB.size)
        have hbl0 := bOk.lt
        have hit3 := hit.below (hb.mono (by omega))
        replace bOk := boxed_later bOk hb
        replace bQk := boxed_later bQk hb
        replace bjk := bjk.later hb
        clear hok hb hB cO fO cj hit
        have cO := bOk.cell
        have fO := bOk.frozen
        have cQ := bQk.cell
        have fQ := bQk.frozen
        obtain ⟨gw, hgw⟩ : ∃ gw, greatW ts (j : Int) = gw := ⟨_, rfl⟩
        have Hgw := Lib.hid hgw
        rw [hgw]
        clear hgw
        by_cases h40 : 40 < gw
        · have hmg : 40 < most (greatL (gtT ls ps ds) ls.length) := by
            rw [Hts.out]
            have := most_ge (ts := greatL ts ls.length) (k := j) (by rw [greatL_length]; exact hlt)
            rw [nth_greatL hlt, Hgw.out] at this
            omega
          have H1 := Lib.hid (show gtC ls ps ds = 4 by unfold gtC; rw [if_pos Hc.out, if_pos hmg])
          have H2 := Lib.hid (show gtR ls ps ds = [] by unfold gtR; rw [H1.out]; rfl)
          have k1 := (bQk.set (.slice none 0 0)).cell
          clear hmg
          go_wp2_with fail
          exact bodyPost_ret (v := .tuple #[.agg #[.slice none 0 0], .int .i64 4]) (by simp [results, Try.f35, go_sem, k1]) rfl ⟨_, ret_t2 H1.out.symm, by rw [H2.out]; exact ownI_nil _ _, hB3.setCell (p := ⟨w.heap.size + 1, 0, none⟩) (by show w.heap.size ≤ w.heap.size + 1; omega) _⟩
        · have hrow : w3.ownsRow w1.heap.size 2 1 (.slice av j cv) j ((greatL ts j).map (.int .i64)) := by have h := ho2; unfold OwnI at h; rwa [greatL_length] at h
          have hbk := ho2.blk
          have hne := ownI_ne_boxQ ho2 bOk
          have hne2 := ownI_ne_jobsQ ho2 bjk
          have hpB := hB3.size
          have hbo := bOk.lt
          have Hsu := Lib.hid (greatL_succ ts j)
          have Hit := Lib.hid hit3
          clear hit3
          go_wp2_with (at_builtin; refine wpList_append_own _ rfl _ _ 22 rfl w1.heap.size 2 i0 (.int .i64 0) 1 8 Try.underlying22 hi hz0 hz1 hz2 rfl (by decide) _ _ _ rfl (World.ownsRow.alloc hrow _) ⟨w3.heap.size, 0, none⟩ 1 1 [.int .i64 gw] rfl rfl (Go.cell_one_new _ _ _) (by simp [Value.oneCell']) (by unfold maxLen; omega) (by omega) (by simp; omega) ?_)
          intro v' w4 hown' hgrow _
          have ho4 := ownI_snoc (xs := greatL ts j) (x := gw) (by rw [greatL_length]; exact hown')
          rw [← Hgw.out, ← Hsu.out] at ho4
          obtain ⟨g, c2, rfl, hg1, hg2⟩ := ho4.shape (by rw [greatL_length]; omega)
          rw [greatL_length] at ho4
          rw [greatL_length]
          have b4 := (bOk.alloc (.cells #[.int .i64 gw] 2)).kept hgrow (fun e => hne e.symm)
          have q4 := (bQk.alloc (.cells #[.int .i64 gw] 2)).kept hgrow (fun e => by have := (hbk _ e.symm).1; omega)
          have j4 := (bjk.alloc (.cells #[.int .i64 gw] 2)).kept hgrow (fun e => hne2 e.symm)
          have hB4 : Below w.heap.size w w4 := (hB3.alloc hB3.size _).grown hgrow (by simp; omega) (fun j e => by have := (hbk j e).1; omega)
          have hBw : Below w1.heap.size w3 w4 := ((Below.refl w1.heap.size w3).alloc (by omega) _).grown hgrow (by simp; omega) (fun j e => (hbk j e).1)
          have Hit4 := Lib.hid ((Hit.out.below hBw).below ((Below.refl w1.heap.size w4).setCell (p := ⟨w1.heap.size + 1, 0, none⟩) (by show w1.heap.size ≤ w1.heap.size + 1; omega) (.slice (some ⟨g, 0, none⟩) (j + 1) c2)))
          clear hown' hgrow hrow cO fO cQ fQ hBw
          have cO := b4.cell
          have fO := b4.frozen
          go_wp2
          go_roundw
          case rel => exact ⟨j + 1, _, by omega, by simp, b4.set _, ho4.kept (grownBy_setCell2 _ _ _ _) (.inr (ownI_ne_boxQ ho4 b4)), fun m hm => by by_cases e : m = j; (subst e; rw [Hgw.out]; omega); exact Hall.out m (by omega), boxed_setFar q4 (by omega), j4.other (by omega) _, Hit4.out, hB4.setCell (p := ⟨w1.heap.size + 1, 0, none⟩) (by show w.heap.size ≤ w1.heap.size + 1; omega) _⟩
          case measure => simp [intOf]; omega
      · obtain rfl : j = ls.length := by omega
        have hmg : ¬ 40 < most (greatL (gtT ls ps ds) ls.length) := by
          rw [Hts.out]
          have := most_le (ts := greatL ts ls.length) (c := 40) (by omega) fun k hk => by
            rw [greatL_length] at hk
            rw [nth_greatL hk]; exact Hall.out k hk
          omega
        have H1 := Lib.hid (show gtC ls ps ds = 0 by unfold gtC; rw [if_pos Hc.out, if_neg hmg])
        have H2 := Lib.hid (show gtR ls ps ds = greatL ts ls.length by unfold gtR; rw [H1.out, if_pos rfl, Hts.out])
        have k2 := (bQk.set (.slice av ls.length cv)).cell
        have cQ := bQk.cell
        have fQ := bQk.frozen
        have ho9 : OwnI w.heap.size (wr.setCell ⟨w.heap.size + 1, 0, none⟩ (.slice av ls.length cv)) (.slice av ls.length cv) (greatL ts ls.length) := (hok.kept (grownBy_setCell2 _ _ _ _) (.inr (ownI_ne_boxQ hok bQk))).base (by omega)
        clear hmg
        go_wp2
        exact bodyPost_ret (v := .tuple #[.agg #[.slice av ls.length cv], .int .i64 0]) (by simp [results, Try.f35, go_sem, k2]) rfl ⟨_, ret_t2 H1.out.symm, by rw [H2.out]; exact ho9, hB.setCell (p := ⟨w.heap.size + 1, 0, none⟩) (by show w.heap.size ≤ w.heap.size + 1; omega) _⟩
  · have H1 := Lib.hid (show gtC ls ps ds = tjC ls ps ds by unfold gtC; rw [if_neg hc])
    have H2 := Lib.hid (show gtR ls ps ds = [] by unfold gtR; rw [H1.out, if_neg hc])
    have hne : (tjC ls ps ds != 0) = true := by rw [bne_iff_ne]; exact hc
    go_wp2_with fail
    exact bodyPost_ret (v := .tuple #[.agg #[.slice none 0 0], .int .i64 (tjC ls ps ds)]) (by simp [results, Try.f35, go_sem, k1]) rfl ⟨_, ret_t2 H1.out.symm, by rw [H2.out]; exact ownI_nil _ _, hB1.setCell (p := ⟨w.heap.size + 1, 0, none⟩) (by show w.heap.size ≤ w.heap.size + 1; omega) _⟩


end Go.Proofs.Ytbhpflhopajbfaa
