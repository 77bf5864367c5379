/-
  FillIdle: slotsSinceTurn, longestWithout; FillIdle of both.
  Conditions: lists of at most 1048576 elements.
-/
import Derived.Test.YtimnmlidlbenhaaClone
import Derived.Test.YtimnmlidlbenhaaReg
namespace Go.Proofs.Ytimnmlidlbenhaa
open Go.RowKit Go.Shelf
attribute [local go_sem] Oper.semAt_some

/-- how many slots ahead of slot s, round the end, task i has its last turn; all slots if there is none -/
def since (ts : List Int) (i : Int) (s : Nat) : Nat := ((List.range' 1 (ts.length - 1)).find? fun j => nth ts ((s + ts.length - j) % ts.length) == i).getD ts.length
def noSince (ts : List Int) (i : Int) (s k : Nat) : Prop := ∀ j, 1 ≤ j → j < k → nth ts ((s + ts.length - j) % ts.length) ≠ i
theorem since_hit {ts : List Int} {i : Int} {s k : Nat} (h1 : 1 ≤ k) (hk : k < ts.length) (hn : noSince ts i s k) (h : nth ts ((s + ts.length - k) % ts.length) = i) : since ts i s = k := by
  unfold since
  have : (List.range' 1 (ts.length - 1)).find? (fun j => nth ts ((s + ts.length - j) % ts.length) == i) = some k := by
    rw [List.find?_range'_eq_some]
    refine ⟨by simpa using h, by simp [List.mem_range'_1]; omega, fun j hj hjk => ?_⟩
    simpa using hn j hj hjk
  rw [this]; rfl
theorem since_none {ts : List Int} {i : Int} {s : Nat} (hn : noSince ts i s ts.length) : since ts i s = ts.length := by
  unfold since
  have : (List.range' 1 (ts.length - 1)).find? (fun j => nth ts ((s + ts.length - j) % ts.length) == i) = none := by
    rw [List.find?_eq_none]
    intro j hj
    rw [List.mem_range'_1] at hj
    simpa using hn j hj.1 (by omega)
  rw [this]; rfl
theorem since_bd (ts : List Int) (i : Int) (s : Nat) (h : 0 < ts.length) : 1 ≤ since ts i s ∧ since ts i s ≤ ts.length := by
  unfold since
  cases hf : (List.range' 1 (ts.length - 1)).find? fun j => nth ts ((s + ts.length - j) % ts.length) == i with
  | none => simp; omega
  | some k => have := List.mem_of_find?_eq_some hf; rw [List.mem_range'_1] at this; simp; omega
/-- the task below k whose last turn is most slots away, and how many -/
def longTo (ts : List Int) (s : Nat) : Nat → Nat × Nat
  | 0 => (0, 0)
  | k + 1 => if (longTo ts s k).2 < since ts (k : Nat) s then (k, since ts (k : Nat) s) else longTo ts s k
theorem longTo_yes {ts : List Int} {s k : Nat} (h : (longTo ts s k).2 < since ts (k : Nat) s) : longTo ts s (k + 1) = (k, since ts (k : Nat) s) := by simp [longTo, h]
theorem longTo_no {ts : List Int} {s k : Nat} (h : ¬ (longTo ts s k).2 < since ts (k : Nat) s) : longTo ts s (k + 1) = longTo ts s k := by simp [longTo, h]
/-- .. as the model reckons the slots -/
def away (ts : List Int) (i : Int) (s : Nat) : Nat := if since ts i s = ts.length then ts.length + 1 else since ts i s
def awayTo (ts : List Int) (s k : Nat) : Int := if k = 0 then -1 else if (longTo ts s k).2 = ts.length then ts.length + 1 else (longTo ts s k).2
theorem longTo_bd {ts : List Int} {s k : Nat} (h0 : 0 < ts.length) : (longTo ts s k).2 ≤ ts.length ∧ (0 < k → 1 ≤ (longTo ts s k).2 ∧ (longTo ts s k).1 < k) := by
  induction k with
  | zero => simp [longTo]
  | succ k ih =>
    have hb := since_bd ts (k : Nat) s h0
    by_cases h : (longTo ts s k).2 < since ts (k : Nat) s
    · rw [longTo_yes h]; simp; omega
    · rw [longTo_no h]; refine ⟨ih.1, fun _ => ?_⟩
      rcases Nat.eq_zero_or_pos k with rfl | hk
      · simp only [longTo] at h; omega
      · have := ih.2 hk; omega
theorem away_lt {ts : List Int} {s k : Nat} (h0 : 0 < ts.length) : awayTo ts s k < away ts (k : Nat) s ↔ (longTo ts s k).2 < since ts (k : Nat) s := by
  have hb := since_bd ts (k : Nat) s h0
  have hl := longTo_bd (s := s) (k := k) h0
  unfold awayTo away
  rcases Nat.eq_zero_or_pos k with rfl | hk
  · simp only [if_true, longTo] at hl ⊢; split <;> omega
  · have := hl.2 hk
    rw [if_neg (by omega)]
    split <;> split <;> omega
theorem awayTo_yes {ts : List Int} {s k : Nat} (h : (longTo ts s k).2 < since ts (k : Nat) s) : awayTo ts s (k + 1) = away ts (k : Nat) s := by
  unfold awayTo away; rw [if_neg (by omega), longTo_yes h]; simp only; split <;> simp_all
theorem awayTo_no {ts : List Int} {s k : Nat} (h0 : 0 < ts.length) (h : ¬ (longTo ts s k).2 < since ts (k : Nat) s) : awayTo ts s (k + 1) = awayTo ts s k := by
  have hk : k ≠ 0 := by rintro rfl; have := since_bd ts ((0 : Nat) : Int) s h0; simp only [longTo] at h; omega
  unfold awayTo; rw [if_neg (by omega), if_neg hk, longTo_no h]

/-- the turns behind k slots -/
def fillSt (n : Nat) (ts : List Int) : Nat → List Int
  | 0 => ts
  | k + 1 => if nth (fillSt n ts k) k = -1 then (fillSt n ts k).set k (((longTo (fillSt n ts k) k n).1 : Nat) : Int) else fillSt n ts k
theorem fillSt_length (n : Nat) (ts : List Int) (k : Nat) : (fillSt n ts k).length = ts.length := by
  induction k with
  | zero => rfl
  | succ k ih => unfold fillSt; split <;> simp [ih]
theorem fillSt_later {n : Nat} {ts : List Int} {k m : Nat} (h : k ≤ m) (hm : m < ts.length) : nth (fillSt n ts k) m = nth ts m := by
  induction k with
  | zero => rfl
  | succ k ih =>
    unfold fillSt; split
    · rw [nth_set (by rw [fillSt_length]; exact hm), if_neg (by omega)]; exact ih (by omega)
    · exact ih (by omega)
theorem fillSt_yes {n : Nat} {ts : List Int} {k : Nat} (hk : k < ts.length) (h : nth ts k = -1) : fillSt n ts (k + 1) = (fillSt n ts k).set k (((longTo (fillSt n ts k) k n).1 : Nat) : Int) := by
  rw [fillSt, if_pos (by rw [fillSt_later (Nat.le_refl _) hk]; exact h)]
theorem fillSt_no {n : Nat} {ts : List Int} {k : Nat} (hk : k < ts.length) (h : nth ts k ≠ -1) : fillSt n ts (k + 1) = fillSt n ts k := by
  rw [fillSt, if_neg (by rw [fillSt_later (Nat.le_refl _) hk]; exact h)]
theorem fillSt_ok {n : Nat} {ts : List Int} (hn : 0 < n) (h0 : ∀ m, m < ts.length → -1 ≤ nth ts m ∧ nth ts m < n) (k : Nat) (hk : k ≤ ts.length) : ∀ m, m < ts.length → -1 ≤ nth (fillSt n ts k) m ∧ nth (fillSt n ts k) m < n := by
  induction k with
  | zero => exact h0
  | succ k ih =>
    intro m hm
    have h1 := ih (by omega) m hm
    by_cases h : nth ts k = -1
    · rw [fillSt_yes (by omega) h, nth_set (by rw [fillSt_length]; exact hm)]
      split
      · have := (longTo_bd (ts := fillSt n ts k) (s := k) (k := n) (by rw [fillSt_length]; omega)).2 hn; omega
      · exact h1
    · rw [fillSt_no (by omega) h]; exact h1

def fillR (zs ts : List Int) : List Int := if codeOf zs ts = 0 then fillSt zs.length ts ts.length else []
theorem fillR_len (zs ts : List Int) : (fillR zs ts).length * 8 ≤ 140737488351232 := by
  unfold fillR
  split
  · rename_i h
    have := turnsOk_len (codeOf_zero h).2
    rw [fillSt_length]; omega
  · simp
theorem not_band {n lo hi b : Nat} (h1 : n ≤ b) (h2 : b < lo) : ¬ Band (fun b => b < n) lo hi b := fun h => by
  rcases h with h | h
  · exact absurd (show b < n from h) (by omega)
  · omega
theorem ownFrom_kps {β : Type} {B : Nat} {S : Nat → Prop} {A : World} (h : A.heap.size ≤ B) : OwnFrom B (fun (_ : β) W => Kps S A W) := fun _ W W' row hs hg hr =>
  ⟨Nat.le_trans hs.size hg.size, fun k hk hl => (hg.block k (Nat.lt_of_lt_of_le hl hs.size) (fun e => by have := (hr k e.symm).1; omega)).trans (hs.same k hk hl)⟩

set_option maxRecDepth 100000 in
set_option maxHeartbeats 4000000 in
theorem slotsSinceTurn_c (sv : Value) (ts : List Int) (i : Int) (s : Nat) (w : World) (hI : Ints w.heap.size w sv ts) (h0 : 0 < ts.length) (hl : ts.length ≤ 1048576) (hs : s < ts.length) :
    Calls Try.prog 116 #[sv, .int .i64 i, .int .i64 s] w fun e w' => e = .returned (.int .i64 (since ts i s)) ∧ w = w' := by
  obtain ⟨a, cap, rfl⟩ := hI.shape
  go_enter Try.func116, Try.ntmps116
  go_wp2
  go_loop [8] (fun n => ∃ k : Nat, 1 ≤ k ∧ k ≤ ts.length ∧ n = .int .i64 k ∧ noSince ts i s k) (fun n => ts.length - (intOf n).toNat)
  case atStart => exact ⟨1, Nat.le_refl _, h0, rfl, fun j h1 h2 => by omega⟩
  case round =>
    obtain ⟨k, hk1, hk, rfl, hno⟩ := hrel
    have Hno := Lib.hid hno
    clear hno
    by_cases hlt : k < ts.length
    · obtain ⟨b, off, rfl, hb, hc⟩ := hI.at_ h0
      obtain ⟨m, hm⟩ : ∃ m : Nat, (s + ts.length - k) % ts.length = m := ⟨_, rfl⟩
      have hml : m < ts.length := by rw [← hm]; exact Nat.mod_lt _ h0
      have hcast : (s : Int) + ts.length - k = ((s + ts.length - k : Nat) : Int) := by omega
      have hmz : ((s : Int) + ts.length - k).tmod ts.length = m := by rw [hcast, ← hm]; rfl
      have hme : ((s : Int) + ts.length - k) % ts.length = m := by rw [hcast, ← hm]; simp
      have hcx := hc m hml
      have Hm := Lib.hid hm
      clear hc hm hcast
      by_cases he : nth ts m = i
      · have hq : (nth ts m == i) = true := by simp [he]
        have hf : since ts i s = k := since_hit hk1 hlt Hno.out (by rw [Hm.out]; exact he)
        have Hf := Lib.hid hf
        clear hf he
        go_wp2
        go_ret
        exact ⟨ret_int (by rw [Hf.out]), rfl⟩
      · have hq : (nth ts m == i) = false := by simpa using he
        have hf : noSince ts i s (k + 1) := fun j h1 h2 => by
          by_cases e : j = k
          · subst e; rw [Hm.out]; exact he
          · exact Hno.out j h1 (by omega)
        have Hf := Lib.hid hf
        clear hf he
        go_wp2
        exact ⟨⟨k + 1, by omega, by omega, by simp, Hf.out⟩, by simp [intOf]; omega⟩
    · obtain rfl : k = ts.length := by omega
      go_wp2
      go_ret
      exact ⟨ret_int (by rw [since_none Hno.out]), rfl⟩

set_option maxRecDepth 100000 in
set_option maxHeartbeats 8000000 in
theorem longestWithout_c (c0 : Value) (zs : List Int) (tv : Value) (ts : List Int) (s : Nat) (w : World) (hI : Ints w.heap.size w c0 zs) (hT : Ints w.heap.size w tv ts) (hm : zs.length ≤ 1048576) (h0 : 0 < ts.length) (hl : ts.length ≤ 1048576) (hs : s < ts.length) :
    Calls Try.prog 82 #[.agg #[c0], tv, .int .i64 s] w fun e w' => e = .returned (.int .i64 ((longTo ts s zs.length).1 : Nat)) ∧ Below w.heap.size w w' := by
  obtain ⟨a, cap, rfl⟩ := hI.shape
  obtain ⟨a2, cap2, rfl⟩ := hT.shape
  refine (callsIn_wide (n := 9)).1 ?_
  refine callsIn_of_wp_marks Try.func82 rfl trivial ?_ rfl
  simp only [Try.ntmps82, List.size_toArray, List.length_cons, List.length_nil, Nat.reduceAdd, Nat.reduceSub, Array.replicate_succ, Array.replicate_zero, List.push_toArray, List.append_toArray, List.nil_append, List.cons_append]
  gi_wp2_with (first | (gi_at_call 62; refine (callsIn_wide.2 (numbered_c _ _ _ _)).mono ?_; rintro e w' ⟨rfl, rfl⟩) | (refine ⟨trivial, ?_⟩; gi_at_call 62; refine (callsIn_wide.2 (numbered_c _ _ _ _)).mono ?_; rintro e w' ⟨rfl, rfl⟩))
  obtain ⟨W0, hW0⟩ : ∃ W0, ((((((w.alloc (.cells #[.slice a zs.length cap] 28)).alloc (.cells #[.slice a2 ts.length cap2] 22)).alloc (.cells #[.int .i64 s] 2)).alloc (.cells #[.int .i64 0] 2)).alloc (.cells #[.int .i64 0] 2)).alloc (.cells #[.slice a zs.length cap] 22)) = W0 := ⟨_, rfl⟩
  have hB0 : Below w.heap.size w W0 := by rw [← hW0]; exact (((((((Below.refl _ w).alloc (Nat.le_refl _) _).alloc (by simp; try omega) _).alloc (by simp; try omega) _).alloc (by simp; try omega) _).alloc (by simp; try omega) _).alloc (by simp; try omega) _)
  have hs0 : w.heap.size + 6 ≤ W0.heap.size := by rw [← hW0]; simp
  have bT : Boxed W0 (w.heap.size + 1) 22 (.slice a2 ts.length cap2) := by rw [← hW0]; repeat first | (refine boxed_at ?_; (simp; done)) | refine Boxed.alloc ?_ _
  have bS : Boxed W0 (w.heap.size + 1 + 1) 2 (.int .i64 s) := by rw [← hW0]; repeat first | (refine boxed_at ?_; (simp; done)) | refine Boxed.alloc ?_ _
  have bL : Boxed W0 (w.heap.size + 1 + 1 + 1) 2 (.int .i64 0) := by rw [← hW0]; repeat first | (refine boxed_at ?_; (simp; done)) | refine Boxed.alloc ?_ _
  have bM : Boxed W0 (w.heap.size + 1 + 1 + 1 + 1) 2 (.int .i64 0) := by rw [← hW0]; repeat first | (refine boxed_at ?_; (simp; done)) | refine Boxed.alloc ?_ _
  have bN : Boxed W0 (w.heap.size + 1 + 1 + 1 + 1 + 1) 22 (.slice a zs.length cap) := by rw [← hW0]; repeat first | (refine boxed_at ?_; (simp; done)) | refine Boxed.alloc ?_ _
  rw [hW0]
  clear hW0
  refine range_outA rfl (by omega) rfl trivial (enters_of Try.func107 (by kernel_rfl) rfl) (numbered_at Fence.wide 8 trivial rfl (by omega) _ w.heap.size _ zs (by omega) W0 bN (by omega) (hI.below hB0)) (fun b hb => by omega) (fun _ => rfl)
    (fun k W => Boxed W (w.heap.size + 1) 22 (.slice a2 ts.length cap2) ∧ Boxed W (w.heap.size + 1 + 1) 2 (.int .i64 s) ∧ Boxed W (w.heap.size + 1 + 1 + 1) 2 (.int .i64 ((longTo ts s k).1 : Nat)) ∧ Boxed W (w.heap.size + 1 + 1 + 1 + 1) 2 (.int .i64 ((longTo ts s k).2 : Nat)) ∧ Below w.heap.size w W)
    (fun _ _ _ => False)
    (by repeat' (first | exact ownFrom_pure _ _ | exact Own.from (boxed_own _ _ _) _ | exact Own.from (ownI_Own _ _ _) _ | exact ownFrom_below (Nat.le_refl _) (by omega) | exact ownFrom_kps (by omega) | apply OwnFrom.and))
    (fun _ _ _ _ _ hs _ _ => hs)
    ⟨bT, bS, bL, bM, hB0⟩ ?a1 ?assign ?body ?done ?stop
  case assign =>
    intro l k W K hk hK
    simp only [numAt]
    gi_wp2
    exact hK
  case body =>
    rintro l k W hl2 hr ⟨bT1, bS1, bL1, bM1, hB⟩ hlt hsW
    have cT := bT1.cell
    have cS := bS1.cell
    have cM := bM1.cell
    have fM := bM1.frozen
    have fL := bL1.frozen
    have cL := bL1.cell
    have hsb := since_bd ts (k : Nat) s h0
    have hlb := longTo_bd (ts := ts) (s := s) (k := k) h0
    have hpB := hB.size
    have hK2 : Kps (Band (fun b => b < w.heap.size) W0.heap.size (W0.heap.size + 2 + 0)) W ((W.setCell ⟨w.heap.size + 1 + 1 + 1, 0, none⟩ (.int .i64 (k : Nat))).setCell ⟨w.heap.size + 1 + 1 + 1 + 1, 0, none⟩ (.int .i64 (since ts (k : Nat) s : Nat))) :=
      (Kps.setCell _ _ _ _ (not_band (by omega) (by omega))).trans (Kps.setCell _ _ _ _ (not_band (by omega) (by omega)))
    have HK2 := Lib.hid hK2
    clear hK2
    gi_wp2_with fail
    refine ⟨trivial, (callsIn_wide.2 (slotsSinceTurn_c _ ts k s _ (hT.later hB) h0 hl hs)).mono ?_⟩
    rintro e w3 ⟨rfl, rfl⟩
    by_cases hlt2 : (longTo ts s k).2 < since ts (k : Nat) s
    · have Hy := Lib.hid (longTo_yes hlt2)
      have hlt3 : (((longTo ts s k).2 : Nat) : Int) < ((since ts (k : Nat) s : Nat) : Int) := by omega
      clear hlt2
      gi_wp2
      exact ⟨HK2.out, (bT1.other (by omega) _).other (by omega) _, (bS1.other (by omega) _).other (by omega) _, by rw [Hy.out]; exact (bL1.set _).other (by omega) _, by rw [Hy.out]; exact (bM1.other (by omega) _).set _,
        (hB.setCell (p := ⟨w.heap.size + 1 + 1 + 1, 0, none⟩) (by show _ ≤ w.heap.size + 1 + 1 + 1; omega) _).setCell (p := ⟨w.heap.size + 1 + 1 + 1 + 1, 0, none⟩) (by show _ ≤ w.heap.size + 1 + 1 + 1 + 1; omega) _⟩
    · have Hy := Lib.hid (longTo_no hlt2)
      have hlt3 : ¬ (((longTo ts s k).2 : Nat) : Int) < ((since ts (k : Nat) s : Nat) : Int) := by omega
      clear hlt2
      gi_wp2
      exact ⟨Kps.refl _ _, bT1, bS1, by rw [Hy.out]; exact bL1, by rw [Hy.out]; exact bM1, hB⟩
  case done =>
    rintro D W hD ⟨bT1, bS1, bL1, bM1, hB⟩ hK
    have cL := bL1.cell
    gi_wp2
    exact retM1 hK ⟨_, by simp [results, Try.f82, go_sem], ret_int rfl, below_shut hB (by omega)⟩
  case stop =>
    rintro D c k W hD hk h
    exact h.elim

set_option maxRecDepth 100000 in
set_option maxHeartbeats 8000000 in
theorem i_FillIdle (c0 : Value) (zs : List Int) (c1 : Value) (ts : List Int) (w : World) (hI : Ints w.heap.size w c0 zs) (_hN : I64s zs) (hm : zs.length ≤ 1048576) (hT : Ints w.heap.size w c1 ts) (_hN1 : I64s ts) (hm1 : ts.length ≤ 1048576) :
    Calls Try.prog 35 #[.agg #[c0], c1] w (GivesI w (fillR zs ts) fun v => .tuple #[v, .int .i64 (codeOf zs ts)]) := by
  obtain ⟨a, cap, rfl⟩ := hI.shape
  obtain ⟨a2, cap2, rfl⟩ := hT.shape
  refine (callsIn_wide (n := 9)).1 ?_
  by_cases hc : codeOf zs ts = 0
  · obtain ⟨h1, h2⟩ := codeOf_zero hc
    have hl := tasksOk_len h1
    have hl2 := turnsOk_len h2
    have Hc := Lib.hid hc
    have Hr := Lib.hid (show fillR zs ts = fillSt zs.length ts ts.length from if_pos hc)
    clear hc
    refine callsIn_of_wp_marks Try.func35 rfl trivial ?_ rfl
    simp only [Try.ntmps35, List.size_toArray, List.length_cons, List.length_nil, Nat.reduceAdd, Nat.reduceSub, Array.replicate_succ, Array.replicate_zero, List.push_toArray, List.append_toArray, List.nil_append, List.cons_append]
    gi_wp2_with fail
    have hB0 : Below w.heap.size w (w.alloc (.cells #[.slice a zs.length cap] 28)) := (Below.refl _ w).alloc (Nat.le_refl _) _
    refine ⟨trivial, (callsIn_wide.2 (checkTurnsFor_c _ _ zs ts _ (hI.later hB0) (hT.later hB0) (by omega) (by omega))).mono ?_⟩
    rintro e w1 ⟨he, hb⟩
    rw [Hc.out] at he
    subst he
    have b1 : Boxed w1 w.heap.size 28 (.slice a zs.length cap) := boxed_later (Boxed.new _ _ _) hb
    have hB1 := hB0.trans (hb.mono (by simp))
    have s1 := b1.lt
    clear hb hB0
    gi_wp2_with fail
    refine ⟨trivial, (callsIn_wide.2 (clone_c _ ts _ (hT.later hB1) (by omega) hm1)).mono ?_⟩
    rintro e w2 ⟨v, rfl, ho, hb2⟩
    obtain ⟨g, c, rfl, hg1, hg2⟩ := ho.shape (by omega)
    replace b1 := boxed_later b1 hb2
    have hB2 := hB1.trans (hb2.mono hB1.size)
    have s2 := hb2.size
    replace ho := ho.base hB1.size
    simp only [id]
    have hgw : g ≠ w.heap.size := by omega
    clear hb2 hB1
    gi_wp2_with (first | (gi_at_call 62; refine (callsIn_wide.2 (numbered_c _ _ _ _)).mono ?_; rintro e w' ⟨rfl, rfl⟩) | (refine ⟨trivial, ?_⟩; gi_at_call 62; refine (callsIn_wide.2 (numbered_c _ _ _ _)).mono ?_; rintro e w' ⟨rfl, rfl⟩))
    obtain ⟨W0, hW0⟩ : ∃ W0, ((w2.alloc (.cells #[.slice (some ⟨g, 0, none⟩) ts.length c] 22)).alloc (.cells #[.slice a2 ts.length cap2] 22)) = W0 := ⟨_, rfl⟩
    have hB0 : Below w2.heap.size w2 W0 := by rw [← hW0]; exact (((Below.refl _ w2).alloc (Nat.le_refl _) _).alloc (by simp; try omega) _)
    have hs0 : w2.heap.size + 2 ≤ W0.heap.size := by rw [← hW0]; simp
    have bF : Boxed W0 (w2.heap.size) 22 (.slice (some ⟨g, 0, none⟩) ts.length c) := by rw [← hW0]; repeat first | (refine boxed_at ?_; (simp; done)) | refine Boxed.alloc ?_ _
    have bN : Boxed W0 (w2.heap.size + 1) 22 (.slice a2 ts.length cap2) := by rw [← hW0]; repeat first | (refine boxed_at ?_; (simp; done)) | refine Boxed.alloc ?_ _
    rw [hW0]
    clear hW0
    have hB3 := hB2.trans (hB0.mono hB2.size)
    replace b1 := boxed_later b1 hB0
    have ho0 := ho.below hB0
    refine range_outA rfl (by omega) rfl trivial (enters_of Try.func107 (by kernel_rfl) rfl) (numbered_at Fence.wide 8 trivial rfl (by omega) _ w.heap.size _ ts (by omega) W0 bN (by omega) (hT.below hB3)) (fun b hb => by omega) (fun _ => rfl)
      (fun k W => OwnI w.heap.size W (.slice (some ⟨g, 0, none⟩) ts.length c) (fillSt zs.length ts k) ∧ Boxed W w.heap.size 28 (.slice a zs.length cap) ∧ Boxed W w2.heap.size 22 (.slice (some ⟨g, 0, none⟩) ts.length c) ∧ Below w.heap.size w W)
      (fun _ _ _ => False)
      (by repeat' (first | exact ownFrom_pure _ _ | exact Own.from (boxed_own _ _ _) _ | exact Own.from (ownI_Own _ _ _) _ | exact ownFrom_below (Nat.le_refl _) (by omega) | exact ownFrom_kps (by omega) | apply OwnFrom.and))
      (fun _ _ _ _ _ hs _ _ => hs)
      ⟨ho0, b1, bF, hB3⟩ ?a1 ?assign ?body ?done ?stop
    case assign =>
      intro l k W K hk hK
      simp only [numAt]
      gi_wp2
      exact hK
    case body =>
      rintro l k W hl2 hr ⟨hok, b1k, bFk, hB⟩ hlt hsW
      have cF := bFk.cell
      have c1 := b1k.cell
      by_cases hid : nth ts k = -1
      · have hq : (nth ts k == -1) = true := by simp [hid]
        have Hy := Lib.hid (fillSt_yes (n := zs.length) hlt hid)
        have hfl := fillSt_length zs.length ts k
        have Hfl := Lib.hid hfl
        clear hid hfl
        gi_wp2_with fail
        have hfw : Try.prog.follows Departure.mixedOrders = true := by kernel_rfl
        have hne1 : w2.heap.size ≠ g := by omega
        have hsg : w.heap.size ≤ g := by omega
        have Hnb := Lib.hid (show ¬ Band (fun b => b < w.heap.size) W0.heap.size (W0.heap.size + 2 + 0) g from not_band (by omega) (by omega))
        refine wpIn_region_held (S := fun w' => Boxed w' w2.heap.size 22 (.slice (some ⟨g, 0, none⟩) ts.length c) ∧ Boxed w' w.heap.size 28 (.slice a zs.length cap) ∧ Below w.heap.size w w' ∧ Kps (Band (fun b => b < w.heap.size) W0.heap.size (W0.heap.size + 2 + 0)) W w')
          hfw (by kernel_rfl) (fun ⟨_, _, h⟩ => h) ⟨bFk, b1k, hB.drew, ⟨Nat.le_refl _, fun _ _ _ => rfl⟩⟩ ?_
        intro hS0
        refine wpAnyH_take (i := 0) (v := ?v0) rfl (by kernel_rfl) (by kernel_rfl) (by kernel_rfl) (fun _ _ _ h => h) (.inl ⟨by rfl, ?y0⟩) hS0 ?_
        case y0 =>
          intro w' hS
          (have k1 := hS.1.cell; have k2 := hS.2.1.cell; clear hS)
          go_simp
          try with_reducible rfl
        refine wpAnyH_take (i := 1) (v := ?v1) rfl (by kernel_rfl) (by kernel_rfl) (by kernel_rfl) (fun _ _ _ h => h) (.inl ⟨by rfl, ?y1⟩) hS0 ?_
        case y1 =>
          intro w' hS
          (have k1 := hS.1.cell; have k2 := hS.2.1.cell; clear hS)
          go_simp
          try with_reducible rfl
        refine wpAnyH_take (i := 2) (v := ?v2) rfl (by kernel_rfl) (by kernel_rfl) (by kernel_rfl) (fun _ _ _ h => h) (.inl ⟨by rfl, ?y2⟩) hS0 ?_
        case y2 =>
          intro w' hS
          (have k1 := hS.1.cell; have k2 := hS.2.1.cell; clear hS)
          go_simp
          try with_reducible rfl
        refine wpAnyH_take (i := 3) (v := ?v3) rfl (by kernel_rfl) (by kernel_rfl) (by kernel_rfl) (fun _ _ _ h => h) (.inl ⟨by rfl, ?y3⟩) hS0 ?_
        case y3 =>
          intro w' hS
          (have k1 := hS.1.cell; have k2 := hS.2.1.cell; clear hS)
          go_simp
          try with_reducible rfl
        refine wpAnyH_take (i := 4) (v := ?v4) rfl (by kernel_rfl) (by kernel_rfl) (by kernel_rfl) (fun _ _ _ h => h) (.inl ⟨by rfl, ?y4⟩) hS0 ?_
        case y4 =>
          intro w' hS
          (have k1 := hS.1.cell; have k2 := hS.2.1.cell; clear hS)
          go_simp
          try with_reducible rfl
        refine wpAnyH_ready (rs := [5]) (by kernel_rfl) (by simp) ?_
        refine AllReadyH.cons rfl (fun K' hK' => ?_) AllReadyH.nil
        rw [if_pos (by rfl)]
        go_simp
        refine (longestWithout_c _ zs _ (fillSt zs.length ts k) k _ (hI.later hS0.2.2.1) (by exact hok.ints) hm (by have := Hfl.out; omega) (by have := Hfl.out; omega) (by have := Hfl.out; omega)).mono ?_
        rintro e w3 ⟨rfl, hb3⟩
        have ho3 : OwnI w.heap.size w3 (.slice (some ⟨g, 0, none⟩) ts.length c) (fillSt zs.length ts k) := OwnI.of_block hok fun q hq2 => hb3.block q (hok.blk q hq2).2
        have fF3 := ho3.frozen k
        have cK3 := ho3.cellAt (j := k) (by have := Hfl.out; omega)
        refine hK'.out _ _ ⟨boxed_later hS0.1 hb3, boxed_later hS0.2.1 hb3, hS0.2.2.1.trans (hb3.mono hS0.2.2.1.size), hS0.2.2.2.trans (Kps.below hb3)⟩ fun hS3 => ?_
        refine wpAnyH_take (i := 6) (v := ?v6) rfl (by kernel_rfl) (by kernel_rfl) (by kernel_rfl) (fun _ _ _ h => h) (.inl ⟨by rfl, ?y6⟩) hS3 ?_
        case y6 =>
          intro w' hS
          (clear hS)
          go_simp
          try with_reducible rfl
        refine wpAnyH_ready (rs := [7]) (by kernel_rfl) (by simp) ?_
        refine AllReadyH.cons rfl (fun K' hK' => ?_) AllReadyH.nil
        rw [if_pos (by rfl)]
        go_simp
        refine hK'.out _ _ ⟨hS3.1.kept (grownBy_setCell2 _ _ _ _) (by simpa using hne1), hS3.2.1.kept (grownBy_setCell2 _ _ _ _) (by simpa using hgw.symm), hS3.2.2.1.setCell (p := ⟨g, k, none⟩) hsg _, hS3.2.2.2.trans (Kps.setCell _ _ _ _ Hnb.out)⟩ fun hS4 => wpAnyH_done (by kernel_rfl) ?_ _
        exact ⟨hS4.2.2.2, by rw [Hy.out]; exact (ho3.stored k _).1, hS4.2.1, hS4.1, hS4.2.2.1⟩
      · have hq : (nth ts k == -1) = false := by simpa using hid
        have Hy := Lib.hid (fillSt_no (n := zs.length) hlt hid)
        clear hid
        gi_wp2
        exact ⟨Kps.refl _ _, by rw [Hy.out]; exact hok, b1k, bFk, hB⟩
    case done =>
      rintro D W hD ⟨hok, b1k, bFk, hB⟩ hK
      have cF := bFk.cell
      gi_wp2
      refine retM1 hK ⟨_, results_tmp2 rfl _ _ _, ?_⟩
      exact ⟨_, ret_v2 Hc.out.symm, by rw [Hr.out]; exact hok.shut hK, below_shut hB (by omega)⟩
    case stop =>
      rintro D c k W hD hk h
      exact h.elim
  · have Hc := Lib.hid hc
    have hp := codeOf_I64 zs ts
    have hq : ((codeOf zs ts) != 0) = true := by simpa using hc
    have Hr := Lib.hid (show fillR zs ts = [] from if_neg hc)
    clear hc
    refine callsIn_of_wp_marks Try.func35 rfl trivial ?_ rfl
    simp only [Try.ntmps35, List.size_toArray, List.length_cons, List.length_nil, Nat.reduceAdd, Nat.reduceSub, Array.replicate_succ, Array.replicate_zero, List.push_toArray, List.append_toArray, List.nil_append, List.cons_append]
    gi_wp2_with fail
    have hB0 : Below w.heap.size w (w.alloc (.cells #[.slice a zs.length cap] 28)) := (Below.refl _ w).alloc (Nat.le_refl _) _
    refine ⟨trivial, (callsIn_wide.2 (checkTurnsFor_c _ _ zs ts _ (hI.later hB0) (hT.later hB0) (by omega) (by omega))).mono ?_⟩
    rintro e w1 ⟨rfl, hb⟩
    gi_wp2
    refine retM0 ⟨_, results_tmp2 rfl _ _ _, ?_⟩
    exact ⟨_, rfl, by rw [Hr.out]; exact ownI_nil _ _, hB0.trans (hb.mono (by simp))⟩

theorem away_hit {ts : List Int} {i : Int} {s k : Nat} (h1 : 1 ≤ k) (hk : k < ts.length) (hn : noSince ts i s k) (h : nth ts ((s + ts.length - k) % ts.length) = i) : away ts i s = k := by
  unfold away; rw [since_hit h1 hk hn h, if_neg (by omega)]
theorem away_none {ts : List Int} {i : Int} {s : Nat} (hn : noSince ts i s ts.length) : away ts i s = ts.length + 1 := by
  unfold away; rw [since_none hn, if_pos rfl]
theorem awayTo_bd {ts : List Int} {s k : Nat} (h0 : 0 < ts.length) : -1 ≤ awayTo ts s k ∧ awayTo ts s k ≤ ts.length + 1 := by
  have := longTo_bd (ts := ts) (s := s) (k := k) h0
  unfold awayTo; split <;> (try split) <;> omega

set_option maxRecDepth 100000 in
set_option maxHeartbeats 8000000 in
theorem s_FillIdle (c0 : Value) (zs : List Int) (c1 : Value) (ts : List Int) (w : World) (hI : Ints w.heap.size w c0 zs) (_hN : I64s zs) (hm : zs.length ≤ 1048576) (hT : Ints w.heap.size w c1 ts) (_hN1 : I64s ts) (hm1 : ts.length ≤ 1048576) :
    Calls Try.prog 34 #[.agg #[c0], c1] w (GivesI w (fillR zs ts) fun v => .tuple #[v, .int .i64 (codeOf zs ts)]) := by
  obtain ⟨a, cap, rfl⟩ := hI.shape
  obtain ⟨a2, cap2, rfl⟩ := hT.shape
  have hB0 : Below w.heap.size w (w.alloc (.cells #[.slice a zs.length cap] 28)) := (Below.refl _ w).alloc (Nat.le_refl _) _
  by_cases hc : codeOf zs ts = 0
  · obtain ⟨h1, h2⟩ := codeOf_zero hc
    have hl := tasksOk_len h1
    have hl2 := turnsOk_len h2
    have Hc := Lib.hid hc
    have Hr := Lib.hid (show fillR zs ts = fillSt zs.length ts ts.length from if_pos hc)
    clear hc
    go_enter Try.func34, Try.ntmps34
    go_wp2_with fail
    refine (l01Code_c _ _ zs ts _ (hI.later hB0) (hT.later hB0) (by omega) (by omega)).mono ?_
    rintro e w1 ⟨he, hb⟩
    rw [Hc.out] at he
    subst he
    have b1 : Boxed w1 w.heap.size 28 (.slice a zs.length cap) := boxed_later (Boxed.new _ _ _) hb
    have hB1 := hB0.trans (hb.mono (by simp))
    have hw1 := b1.lt
    clear hb hB0
    go_wp2_with fail
    refine (l01Own_c _ ts _ (hT.later hB1) (by omega) hm1).mono ?_
    rintro e w2 ⟨v, rfl, ho, hb2⟩
    obtain ⟨g, c, rfl, hg1, hg2⟩ := ho.shape (by omega)
    replace b1 := boxed_later b1 hb2
    have hB2 := hB1.trans (hb2.mono hB1.size)
    have hB1s := hB1.size
    replace ho := ho.base hB1s
    have hgw : w.heap.size < g := by omega
    simp only [id]
    clear hb2 hB1
    go_wp2
    go_loopw [8] (fun n wr => ∃ k : Nat, k ≤ ts.length ∧ n = .int .i64 k ∧ OwnI w.heap.size wr (.slice (some ⟨g, 0, none⟩) ts.length c) (fillSt zs.length ts k) ∧ Boxed wr w.heap.size 28 (.slice a zs.length cap) ∧ Below w.heap.size w wr) (fun n _ => ts.length - (intOf n).toNat)
    case atStart => exact ⟨0, Nat.zero_le _, rfl, ho, b1, hB2⟩
    case round =>
      obtain ⟨k, hk, rfl, hok, bk, hB⟩ := hrel
      clear ho b1 hB2
      by_cases hlt : k < ts.length
      · have hfl := fillSt_length zs.length ts k
        have hcell := hok.cellAt (j := k) (by omega)
        have hfk := hok.frozen k
        rw [fillSt_later (Nat.le_refl _) hlt] at hcell
        have hz := turnsOk_nth h2 hlt
        have Hfl := Lib.hid hfl
        clear hfl
        by_cases hid : nth ts k = -1
        · have Hy := Lib.hid (fillSt_yes (n := zs.length) hlt hid)
          have hFk : nth (fillSt zs.length ts k) k = -1 := by rw [fillSt_later (Nat.le_refl _) hlt]; exact hid
          have HFk := Lib.hid hFk
          rw [hid] at hcell
          obtain ⟨F, hF⟩ : ∃ F, fillSt zs.length ts k = F := ⟨_, rfl⟩
          rw [hF] at hok Hy HFk Hfl
          have hFl : F.length = ts.length := Hfl.out
          clear hid hFk hF hz
          go_wp2
          go_loopw [9, 10, 11] (fun b aw i wr2 => ∃ j : Nat, j ≤ zs.length ∧ b = .int .i64 ((longTo F k j).1 : Nat) ∧ aw = .int .i64 (awayTo F k j) ∧ i = .int .i64 j ∧ OwnI w.heap.size wr2 (.slice (some ⟨g, 0, none⟩) ts.length c) F ∧ Boxed wr2 w.heap.size 28 (.slice a zs.length cap) ∧ Below w.heap.size w wr2) (fun _ _ i _ => zs.length - (intOf i).toNat)
          case atStart => exact ⟨0, Nat.zero_le _, rfl, rfl, rfl, hok, bk, hB⟩
          case round =>
            obtain ⟨j, hj, rfl, rfl, rfl, hoj, bj, hBj⟩ := hrel
            have k1 := bj.cell
            clear hok bk hB hcell hfk
            go_wp2_with fail
            refine (l01K_c _ _ _ _).mono ?_
            rintro e w3 ⟨rfl, rfl⟩
            have hB3 := hBj.alloc hBj.size (.cells #[.slice a zs.length cap] 28)
            have b3 := bj.alloc (.cells #[.slice a zs.length cap] 28)
            have ho3 : OwnI w.heap.size (wr.alloc (.cells #[.slice a zs.length cap] 28)) (.slice (some ⟨g, 0, none⟩) ts.length c) F := World.ownsRow.alloc hoj _
            obtain ⟨w3, hw3⟩ : ∃ w3, wr.alloc (.cells #[.slice a zs.length cap] 28) = w3 := ⟨_, rfl⟩
            rw [hw3] at hB3 b3 ho3 ⊢
            clear hw3 bj k1 hBj hoj
            have hfk := ho3.frozen k
            have hab := awayTo_bd (ts := F) (s := k) (k := j) (by omega)
            have hlb := longTo_bd (ts := F) (s := k) (k := j) (by omega)
            by_cases hlj : j < zs.length
            · go_wp2
              go_loop [12] (fun o => ∃ m : Nat, 1 ≤ m ∧ m ≤ ts.length + 1 ∧ o = .int .i64 m ∧ noSince F (j : Nat) k m) (fun o => ts.length + 1 - (intOf o).toNat)
              case atStart => exact ⟨1, Nat.le_refl _, by omega, rfl, fun q h1 h2 => by omega⟩
              case round =>
                obtain ⟨m, hm0, hm2, rfl, hno⟩ := hrel
                have Hno := Lib.hid hno
                clear hno
                by_cases hlm : m ≤ ts.length
                · obtain ⟨q, hq⟩ : ∃ q : Nat, (k + ts.length - m) % ts.length = q := ⟨_, rfl⟩
                  have hql : q < ts.length := by rw [← hq]; exact Nat.mod_lt _ (by omega)
                  have hcast : (k : Int) - m + ts.length = ((k + ts.length - m : Nat) : Int) := by omega
                  have hmz : ((k : Int) - m + ts.length).tmod ts.length = q := by rw [hcast, ← hq]; rfl
                  have hme : ((k : Int) - m + ts.length) % ts.length = q := by rw [hcast, ← hq]; simp
                  have hcq := ho3.cellAt (j := q) (by omega)
                  have Hq := Lib.hid hq
                  clear hq hcast
                  by_cases he : nth F q = (j : Int)
                  · have hqq : (nth F q != (j : Int)) = false := by simp [he]
                    have hml : m < ts.length := by
                      rcases Nat.lt_or_ge m ts.length with h | h
                      · exact h
                      · obtain rfl : m = ts.length := by omega
                        have h1 : q = k := by rw [← Hq.out, Nat.add_sub_cancel, Nat.mod_eq_of_lt hlt]
                        rw [h1, HFk.out] at he; omega
                    have haw := away_hit (ts := F) (i := (j : Int)) hm0 (by omega) Hno.out (by rw [hFl, Hq.out]; exact he)
                    have hiff := away_lt (ts := F) (s := k) (k := j) (by omega)
                    rw [haw] at hiff
                    have Haw := Lib.hid haw
                    have Hiff := Lib.hid hiff
                    clear he haw hiff
                    by_cases hgt : awayTo F k j < (m : Int)
                    · have Hl := Lib.hid (longTo_yes (Hiff.out.1 hgt))
                      have Ha := Lib.hid (awayTo_yes (Hiff.out.1 hgt))
                      go_wp2
                      go_roundw
                      case rel => exact ⟨j + 1, by omega, by rw [Hl.out], by rw [Ha.out, Haw.out], by simp, ho3, b3, hB3⟩
                      case measure => simp [intOf]; omega
                    · have Hl := Lib.hid (longTo_no (fun h => hgt (Hiff.out.2 h)))
                      have Ha := Lib.hid (awayTo_no (ts := F) (by omega) (fun h => hgt (Hiff.out.2 h)))
                      go_wp2
                      go_roundw
                      case rel => exact ⟨j + 1, by omega, by rw [Hl.out], by rw [Ha.out], by simp, ho3, b3, hB3⟩
                      case measure => simp [intOf]; omega
                  · have hqq : (nth F q != (j : Int)) = true := by simpa using he
                    have hf : noSince F (j : Nat) k (m + 1) := fun r h1 h2 => by
                      by_cases e : r = m
                      · subst e; rw [hFl, Hq.out]; exact he
                      · exact Hno.out r h1 (by omega)
                    have Hf := Lib.hid hf
                    clear he hf
                    go_wp2
                    exact ⟨⟨m + 1, by omega, by omega, by simp, Hf.out⟩, by simp [intOf]; omega⟩
                · obtain rfl : m = ts.length + 1 := by omega
                  have haw := away_none (ts := F) (i := (j : Int)) (s := k) (fun r h1 h2 => Hno.out r h1 (by omega))
                  have hiff := away_lt (ts := F) (s := k) (k := j) (by omega)
                  rw [haw] at hiff
                  have Haw := Lib.hid haw
                  have Hiff := Lib.hid hiff
                  clear haw hiff
                  by_cases hgt : awayTo F k j < ((ts.length + 1 : Nat) : Int)
                  · have hgt2 : awayTo F k j < ((F.length + 1 : Nat) : Int) := by omega
                    have Hl := Lib.hid (longTo_yes (Hiff.out.1 hgt2))
                    have Ha := Lib.hid (awayTo_yes (Hiff.out.1 hgt2))
                    clear hgt2
                    go_wp2
                    go_roundw
                    case rel => exact ⟨j + 1, by omega, by rw [Hl.out], by rw [Ha.out, Haw.out, hFl]; simp, by simp, ho3, b3, hB3⟩
                    case measure => simp [intOf]; omega
                  · have hgt2 : ¬ awayTo F k j < ((F.length + 1 : Nat) : Int) := by omega
                    have Hl := Lib.hid (longTo_no (fun h => hgt2 (Hiff.out.2 h)))
                    have Ha := Lib.hid (awayTo_no (ts := F) (by omega) (fun h => hgt2 (Hiff.out.2 h)))
                    clear hgt2
                    go_wp2
                    go_roundw
                    case rel => exact ⟨j + 1, by omega, by rw [Hl.out], by rw [Ha.out], by simp, ho3, b3, hB3⟩
                    case measure => simp [intOf]; omega
            · obtain rfl : j = zs.length := by omega
              have hck := ho3.cellAt (j := k) (by omega)
              go_wp2
              go_roundw
              case rel => exact ⟨k + 1, by omega, by simp, by rw [Hy.out]; exact (ho3.stored k _).1, b3.kept (grownBy_setCell2 _ _ _ _) (by simp; omega), hB3.setCell (p := ⟨g, k, none⟩) (by show w.heap.size ≤ g; omega) _⟩
              case measure => simp [intOf]; omega
        · have Hy := Lib.hid (fillSt_no (n := zs.length) hlt hid)
          have hge : 0 ≤ nth ts k := by omega
          clear hid
          go_wp2
          go_roundw
          case rel => exact ⟨k + 1, by omega, by simp, by rw [Hy.out]; exact hok, bk, hB⟩
          case measure => simp [intOf]; omega
      · obtain rfl : k = ts.length := by omega
        go_wp2
        go_ret2
        exact ⟨_, ret_v2 Hc.out.symm, by rw [Hr.out]; unfold OwnI at hok ⊢; rw [fillSt_length] at hok ⊢; exact hok, hB⟩
  · have Hc := Lib.hid hc
    have hp := codeOf_I64 zs ts
    have hq : ((codeOf zs ts) != 0) = true := by simpa using hc
    have Hr := Lib.hid (show fillR zs ts = [] from if_neg hc)
    clear hc
    go_enter Try.func34, Try.ntmps34
    go_wp2_with fail
    refine (l01Code_c _ _ zs ts _ (hI.later hB0) (hT.later hB0) (by omega) (by omega)).mono ?_
    rintro e w1 ⟨rfl, hb⟩
    go_wp2
    go_ret2
    exact ⟨_, rfl, by rw [Hr.out]; exact ownI_nil _ _, hB0.trans (hb.mono (by simp))⟩

end Go.Proofs.Ytimnmlidlbenhaa
