/-
  WorstSlot, CountWithin of the program.
  Conditions: lists of at most 1048576 elements.
-/
import Derived.Sort.QuietIn
import Derived.Test.YtgndbifcncklgaaWaq
namespace Go.Proofs.Ytgndbifcncklgaa
open Go.RowKit Go.Shelf
attribute [local go_sem] Oper.semAt_some

/-- the worst slot among the first k, and the wait there -/
def wsTo (ts : List Int) (x : Int) : Nat → Nat × Nat
  | 0 => (0, 0)
  | k + 1 => if (wsTo ts x k).2 < wa ts [x] k then (k, wa ts [x] k) else wsTo ts x k
def ws0 (ts : List Int) (x : Int) : Int := if comC ts [x] = 0 then ((wsTo ts x ts.length).1 : Nat) else 0
def ws1 (ts : List Int) (x : Int) : Int := if comC ts [x] = 0 then ((wsTo ts x ts.length).2 : Nat) else 0
theorem wsTo_yes {ts : List Int} {x : Int} {k : Nat} (h : (wsTo ts x k).2 < wa ts [x] k) : wsTo ts x (k + 1) = (k, wa ts [x] k) := by simp only [wsTo]; rw [if_pos h]
theorem wsTo_no {ts : List Int} {x : Int} {k : Nat} (h : ¬ (wsTo ts x k).2 < wa ts [x] k) : wsTo ts x (k + 1) = wsTo ts x k := by simp only [wsTo]; rw [if_neg h]
theorem wsTo_bd {ts : List Int} {x : Int} (h0 : 0 < ts.length) : ∀ {k : Nat}, k ≤ ts.length → (wsTo ts x k).1 ≤ k ∧ (wsTo ts x k).2 < ts.length
  | 0, _ => ⟨Nat.le_refl _, h0⟩
  | k + 1, hk => by
    have ih := wsTo_bd (x := x) h0 (k := k) (by omega)
    by_cases h : (wsTo ts x k).2 < wa ts [x] k
    · rw [wsTo_yes h]; exact ⟨by simp, wa_lt [x] h0 (by omega)⟩
    · rw [wsTo_no h]; exact ⟨by omega, ih.2⟩
/-- at how many of the first k slots one waits for at most m slots -/
def ctTo (ts : List Int) (x m : Int) : Nat → Nat
  | 0 => 0
  | k + 1 => ctTo ts x m k + if (wa ts [x] k : Int) ≤ m then 1 else 0
theorem ctTo_yes {ts : List Int} {x m : Int} {k : Nat} (h : (wa ts [x] k : Int) ≤ m) : ctTo ts x m (k + 1) = ctTo ts x m k + 1 := by simp only [ctTo]; rw [if_pos h]
theorem ctTo_no {ts : List Int} {x m : Int} {k : Nat} (h : ¬ (wa ts [x] k : Int) ≤ m) : ctTo ts x m (k + 1) = ctTo ts x m k := by simp only [ctTo]; rw [if_neg h]; rfl
theorem ctTo_le (ts : List Int) (x m : Int) (k : Nat) : ctTo ts x m k ≤ k := by
  induction k with
  | zero => exact Nat.le_refl _
  | succ k ih => simp only [ctTo]; split <;> omega
def ctC (ts : List Int) (x m : Int) : Int := if inB m 0 120 then comC ts [x] else 2
def ctR (ts : List Int) (x m : Int) : Int := if ctC ts x m = 0 then (ctTo ts x m ts.length : Nat) else 0

set_option maxRecDepth 100000 in
set_option maxHeartbeats 8000000 in
theorem i_WorstSlot (c0 : Value) (ts : List Int) (x : Int) (w : World) (hI : Ints w.heap.size w c0 ts) (_hN : I64s ts) (hm : ts.length ≤ 1048576) (_hx : I64 x) :
    Calls Try.prog 31 #[c0, .int .i64 x] w fun e w' => e = .returned (.tuple #[.int .i64 (ws0 ts x), .int .i64 (ws1 ts x), .int .i64 (comC ts [x])]) ∧ Below w.heap.size w w' := by
  obtain ⟨a, cap, rfl⟩ := hI.shape
  refine (callsIn_wide (n := 9)).1 ?_
  by_cases hc : comC ts [x] = 0
  · have hl := comC_len hc
    have H0 := Lib.hid (show ws0 ts x = ((wsTo ts x ts.length).1 : Nat) by unfold ws0; rw [if_pos hc])
    have H1 := Lib.hid (show ws1 ts x = ((wsTo ts x ts.length).2 : Nat) by unfold ws1; rw [if_pos hc])
    have Hc := Lib.hid hc
    clear hc
    refine callsIn_of_wp_marks Try.func31 rfl trivial ?_ rfl
    simp only [Try.ntmps31, List.size_toArray, List.length_cons, List.length_nil, Nat.reduceAdd, Nat.reduceSub, Array.replicate_succ, Array.replicate_zero, List.push_toArray, List.append_toArray, List.nil_append, List.cons_append]
    gi_wp2_with fail
    obtain ⟨W0, hW0⟩ : ∃ W0, ((w.alloc (.cells #[.int .i64 x] 2)).alloc (.cells #[.int .i64 x] 2)) = W0 := ⟨_, rfl⟩
    have hB0 : Below w.heap.size w W0 := by rw [← hW0]; exact (((Below.refl _ w).alloc (Nat.le_refl _) _).alloc (by simp; try omega) _)
    have hs0 : w.heap.size + 2 ≤ W0.heap.size := by rw [← hW0]; simp
    have bX : Boxed W0 (w.heap.size) 2 (.int .i64 x) := by rw [← hW0]; repeat first | (refine boxed_at ?_; (simp; done)) | refine Boxed.alloc ?_ _
    have bV : Boxed W0 (w.heap.size + 1) 2 (.int .i64 x) := by rw [← hW0]; repeat first | (refine boxed_at ?_; (simp; done)) | refine Boxed.alloc ?_ _
    rw [hW0]
    clear hW0
    refine ⟨trivial, (callsIn_wide.2 (checkWaiting_c _ _ ts [x] _ (hI.later hB0) (ints_one (by omega) bV.cell) hm (by simp))).mono ?_⟩
    rintro e w1 ⟨he, hb⟩
    rw [Hc.out] at he
    subst he
    have hB1 := hB0.trans (hb.mono hB0.size)
    replace bX := boxed_later bX hb
    clear hb hB0 bV
    gi_wp2_with fail
    obtain ⟨W1, hWA⟩ : ∃ W1, ((w1.alloc (.cells #[.int .i64 0] 2)).alloc (.cells #[.int .i64 0] 2)) = W1 := ⟨_, rfl⟩
    have hBA : Below w1.heap.size w1 W1 := by rw [← hWA]; exact (((Below.refl _ w1).alloc (Nat.le_refl _) _).alloc (by simp; try omega) _)
    have hsA : w1.heap.size + 2 ≤ W1.heap.size := by rw [← hWA]; simp
    have bS : Boxed W1 (w1.heap.size) 2 (.int .i64 0) := by rw [← hWA]; repeat first | (refine boxed_at ?_; (simp; done)) | refine Boxed.alloc ?_ _
    have bL : Boxed W1 (w1.heap.size + 1) 2 (.int .i64 0) := by rw [← hWA]; repeat first | (refine boxed_at ?_; (simp; done)) | refine Boxed.alloc ?_ _
    rw [hWA]
    clear hWA
    have hB2 := hB1.trans (hBA.mono hB1.size)
    have hwb := bX.lt
    replace bX := boxed_later bX hBA
    clear hBA hs0 hB1
    have hw1 : w.heap.size ≤ W1.heap.size := hB2.size
    have hXl := bX.lt
    obtain ⟨b1, hb1⟩ : ∃ b, w1.heap.size = b := ⟨_, rfl⟩
    have hbw : w.heap.size + 1 ≤ b1 := by omega
    rw [hb1] at hsA bS bL ⊢
    refine ⟨trivial, (callsIn_wide.2 (shiftsOf_c _ ts _ (hI.later hB2) (by omega) hm)).mono ?_⟩
    rintro e w2 ⟨bT, bR, g, c, rfl, hT, hR, ho, hT1, hR1, hRg, hTg, hcap, hB3⟩
    have hB4 := hB2.trans (hB3.mono hB2.size)
    have ho2 := ho.base hB2.size
    have hg := (ho.blk _ rfl).1
    have hs3 := hB3.size
    have hTl := hT.lt
    have hRl := hR.lt
    replace bX := boxed_later bX hB3
    replace bS := boxed_later bS hB3
    replace bL := boxed_later bL hB3
    clear ho hB3 hB2
    gi_wp2_with fail
    refine range_outA (Keep := fun b => b < w.heap.size ∨ b = bR) (c := 4) rfl (by omega) rfl trivial (enters_of Try.func113 (by kernel_rfl) rfl) (shiftsOf_at 8 bT bR w.heap.size g c _ ts (by omega) hm hcap w2 hT hR (by omega) (hI.below hB4)) (fun b hb => by omega) (fun _ => rfl)
      (fun k W => (Boxed W w.heap.size 2 (.int .i64 x) ∧ Boxed W b1 2 (.int .i64 ((wsTo ts x k).1 : Nat)) ∧ Boxed W (b1 + 1) 2 (.int .i64 ((wsTo ts x k).2 : Nat)) ∧ OwnI w.heap.size W (.slice (some ⟨g, 0, none⟩) (ts.length + ts.length) c) (ts ++ ts)) ∧ Below w.heap.size w W)
      (fun _ _ _ => False)
      (by repeat' (first | exact ownFrom_pure _ _ | exact Own.from (boxed_own _ _ _) _ | exact Own.from (ownI_Own _ _ _) _ | exact Own.from (ownB_Own _ _ _) _ | exact ownFrom_below (Nat.le_refl _) (by omega) | exact ownFrom_kps (by omega) | apply OwnFrom.and))
      (fun _ _ _ _ _ hs _ _ => hs)
      ⟨⟨bX, bS, bL, ho2⟩, hB4⟩ ?a1 ?assign ?body ?done ?stop
    case assign =>
      intro l k W K hk hK
      simp only [shiftAt]
      gi_wp2
      exact hK
    case body =>
      rintro l k W hl2 hr ⟨⟨bX1, bS1, bL1, ho1⟩, hB⟩ hlt hsW
      have cX := bX1.cell
      have hsl : (shiftL ts k).length = ts.length := shiftL_length (by omega)
      have hbd := wsTo_bd (x := x) (show 0 < ts.length by omega) (k := k) (by omega)
      have hwl := wa_lt [x] (s := k) (show 0 < ts.length by omega) (by omega)
      have Hy := Lib.hid (wsTo_yes (ts := ts) (x := x) (k := k))
      have Hn := Lib.hid (wsTo_no (ts := ts) (x := x) (k := k))
      have Hsl := Lib.hid hsl
      clear hsl
      gi_wp2_with fail
      obtain ⟨W3, hWV⟩ : ∃ W3, (W.alloc (.cells #[.int .i64 x] 2)) = W3 := ⟨_, rfl⟩
      have hBV : Below W.heap.size W W3 := by rw [← hWV]; exact ((Below.refl _ W).alloc (Nat.le_refl _) _)
      have hsV : W.heap.size + 1 ≤ W3.heap.size := by rw [← hWV]; simp
      have bV : Boxed W3 (W.heap.size) 2 (.int .i64 x) := by rw [← hWV]; repeat first | (refine boxed_at ?_; (simp; done)) | refine Boxed.alloc ?_ _
      rw [hWV]
      clear hWV
      have hB3 := hB.trans (hBV.mono hB.size)
      refine ⟨trivial, (callsIn_wide.2 (waitFor_c _ _ (shiftL ts k) [x] _ (ints_sh (ho1.below hBV) hlt) (ints_one (by omega) bV.cell) (by rw [Hsl.out]; omega) (by rw [Hsl.out]; omega) (by simp))).mono ?_⟩
      rintro e w4 ⟨he, hb4⟩
      obtain ⟨m, hm⟩ : ∃ m, wa ts [x] k = m := ⟨_, rfl⟩
      rw [show waTo (shiftL ts k) [x] [x].length = m from hm] at he
      subst he
      rw [hm] at hwl
      have Hm := Lib.hid hm
      have hb5 := hBV.trans (hb4.mono hBV.size)
      have hB5 := hB.trans (hb5.mono hB.size)
      have hk5 : Kps (Band (fun b => b < w.heap.size ∨ b = bR) w2.heap.size (w2.heap.size + 2 + 4)) W w4 := ⟨hb5.size, fun j _ hj => hb5.block j hj⟩
      replace bX1 := boxed_later bX1 hb5
      replace bS1 := boxed_later bS1 hb5
      replace bL1 := boxed_later bL1 hb5
      have ho5 := ho1.below hb5
      clear hm hb4 hBV hB3 bV cX hB hb5 ho1
      obtain ⟨p, hp⟩ : ∃ p, (wsTo ts x k).1 = p := ⟨_, rfl⟩
      obtain ⟨q, hq⟩ : ∃ q, (wsTo ts x k).2 = q := ⟨_, rfl⟩
      rw [hp] at bS1 hbd
      rw [hq] at bL1 hbd
      have Hp := Lib.hid hp
      have Hq := Lib.hid hq
      clear hp hq
      have cS := bS1.cell
      have cL := bL1.cell
      have fS := bS1.frozen
      have fL := bL1.frozen
      have hnb : ∀ b, b = b1 ∨ b = b1 + 1 → ¬ Band (fun b => b < w.heap.size ∨ b = bR) w2.heap.size (w2.heap.size + 2 + 4) b := fun b hb h => by
        rcases h with h | h
        · rcases h with h | h <;> omega
        · omega
      have Hnb := Lib.hid hnb
      have n1 : b1 ≠ g := by omega
      have n2 : b1 + 1 ≠ g := by omega
      clear hnb
      by_cases hlt2 : q < m
      · have E := Lib.hid (Hy.out (by rw [Hq.out, Hm.out]; exact hlt2))
        gi_wp2
        exact ⟨(hk5.trans (Kps.setCell _ _ _ _ (Hnb.out _ (.inl rfl)))).trans (Kps.setCell _ _ _ _ (Hnb.out _ (.inr rfl))), ⟨(bX1.other (by omega) _).other (by omega) _, by rw [E.out]; exact (bS1.set _).other (by omega) _, by rw [E.out, Hm.out]; exact (bL1.other (by omega) _).set _,
          (ho5.kept (grownBy_setCell2 _ _ _ _) (.inr (by show some g ≠ some b1; simp; omega))).kept (grownBy_setCell2 _ _ _ _) (.inr (by show some g ≠ some (b1 + 1); simp; omega))⟩,
          (hB5.setCell (p := ⟨b1, 0, none⟩) (by simp; omega) _).setCell (p := ⟨b1 + 1, 0, none⟩) (by simp; omega) _⟩
      · have E := Lib.hid (Hn.out (by rw [Hq.out, Hm.out]; exact hlt2))
        gi_wp2
        exact ⟨hk5, ⟨bX1, by rw [E.out, Hp.out]; exact bS1, by rw [E.out, Hq.out]; exact bL1, ho5⟩, hB5⟩
    case done =>
      rintro D W hD ⟨⟨bX1, bS1, bL1, ho1⟩, hB⟩ hK
      have cS := bS1.cell
      have cL := bL1.cell
      gi_wp2_with fail
      gi_quiet (fail)
      gi_wp2
      have hK' : (W.drewN nq).heap[D]? = some (.deferred (some [])) := hK
      refine retM1 hK' ⟨_, results_tmp3 rfl _ _ _, ?_⟩
      exact ⟨ret_i3d H0.out.symm H1.out.symm Hc.out.symm, below_shut (below_drewN hB _) (by omega)⟩
    case stop =>
      rintro D c k W hD hk h
      exact h.elim
  · have H0 := Lib.hid (show ws0 ts x = 0 by unfold ws0; rw [if_neg hc])
    have H1 := Lib.hid (show ws1 ts x = 0 by unfold ws1; rw [if_neg hc])
    have hcz : (comC ts [x] == 0) = false := by simp [hc]
    obtain ⟨q, hq⟩ : ∃ q, comC ts [x] = q := ⟨_, rfl⟩
    have Hq := Lib.hid hq
    rw [hq] at hcz hc
    clear hq
    refine callsIn_of_wp_marks Try.func31 rfl trivial ?_ rfl
    simp only [Try.ntmps31, List.size_toArray, List.length_cons, List.length_nil, Nat.reduceAdd, Nat.reduceSub, Array.replicate_succ, Array.replicate_zero, List.push_toArray, List.append_toArray, List.nil_append, List.cons_append]
    gi_wp2_with fail
    obtain ⟨W0, hW0⟩ : ∃ W0, ((w.alloc (.cells #[.int .i64 x] 2)).alloc (.cells #[.int .i64 x] 2)) = W0 := ⟨_, rfl⟩
    have hB0 : Below w.heap.size w W0 := by rw [← hW0]; exact (((Below.refl _ w).alloc (Nat.le_refl _) _).alloc (by simp; try omega) _)
    have hs0 : w.heap.size + 2 ≤ W0.heap.size := by rw [← hW0]; simp
    have bX : Boxed W0 (w.heap.size) 2 (.int .i64 x) := by rw [← hW0]; repeat first | (refine boxed_at ?_; (simp; done)) | refine Boxed.alloc ?_ _
    have bV : Boxed W0 (w.heap.size + 1) 2 (.int .i64 x) := by rw [← hW0]; repeat first | (refine boxed_at ?_; (simp; done)) | refine Boxed.alloc ?_ _
    rw [hW0]
    clear hW0
    refine ⟨trivial, (callsIn_wide.2 (checkWaiting_c _ _ ts [x] _ (hI.later hB0) (ints_one (by omega) bV.cell) hm (by simp))).mono ?_⟩
    rintro e w1 ⟨he, hb⟩
    rw [Hq.out] at he
    subst he
    gi_wp2
    refine retM0 ⟨_, results_tmp3 rfl _ _ _, ?_⟩
    exact ⟨ret_i3d H0.out.symm H1.out.symm Hq.out.symm, hB0.trans (hb.mono hB0.size)⟩

theorem ctC_len {ts : List Int} {x m : Int} (h : ctC ts x m = 0) : inB m 0 120 = true ∧ comC ts [x] = 0 := by
  unfold ctC at h
  cases hb : inB m 0 120
  · rw [hb] at h; cases h
  · rw [hb] at h; exact ⟨rfl, h⟩

set_option maxRecDepth 100000 in
set_option maxHeartbeats 8000000 in
theorem i_CountWithin (c0 : Value) (ts : List Int) (x m : Int) (w : World) (hI : Ints w.heap.size w c0 ts) (_hN : I64s ts) (hm : ts.length ≤ 1048576) (_hx : I64 x) (_hmm : I64 m) :
    Calls Try.prog 39 #[c0, .int .i64 x, .int .i64 m] w fun e w' => e = .returned (.tuple #[.int .i64 (ctR ts x m), .int .i64 (ctC ts x m)]) ∧ Below w.heap.size w w' := by
  obtain ⟨a, cap, rfl⟩ := hI.shape
  refine (callsIn_wide (n := 9)).1 ?_
  by_cases hc : ctC ts x m = 0
  · obtain ⟨hin, hcc⟩ := ctC_len hc
    have hl := comC_len hcc
    have hi := inB_true.1 hin
    have H0 := Lib.hid (show ctR ts x m = (ctTo ts x m ts.length : Nat) by unfold ctR; rw [if_pos hc])
    have Hc := Lib.hid hc
    have Hcc := Lib.hid hcc
    clear hc hcc hin
    refine callsIn_of_wp_marks Try.func39 rfl trivial ?_ rfl
    simp only [Try.ntmps39, List.size_toArray, List.length_cons, List.length_nil, Nat.reduceAdd, Nat.reduceSub, Array.replicate_succ, Array.replicate_zero, List.push_toArray, List.append_toArray, List.nil_append, List.cons_append]
    gi_wp2_with fail
    obtain ⟨W0, hW0⟩ : ∃ W0, (((w.alloc (.cells #[.int .i64 x] 2)).alloc (.cells #[.int .i64 m] 2)).alloc (.cells #[.int .i64 x] 2)) = W0 := ⟨_, rfl⟩
    have hB0 : Below w.heap.size w W0 := by rw [← hW0]; exact ((((Below.refl _ w).alloc (Nat.le_refl _) _).alloc (by simp; try omega) _).alloc (by simp; try omega) _)
    have hs0 : w.heap.size + 3 ≤ W0.heap.size := by rw [← hW0]; simp
    have bX : Boxed W0 (w.heap.size) 2 (.int .i64 x) := by rw [← hW0]; repeat first | (refine boxed_at ?_; (simp; done)) | refine Boxed.alloc ?_ _
    have bM : Boxed W0 (w.heap.size + 1) 2 (.int .i64 m) := by rw [← hW0]; repeat first | (refine boxed_at ?_; (simp; done)) | refine Boxed.alloc ?_ _
    have bV : Boxed W0 (w.heap.size + 1 + 1) 2 (.int .i64 x) := by rw [← hW0]; repeat first | (refine boxed_at ?_; (simp; done)) | refine Boxed.alloc ?_ _
    rw [hW0]
    clear hW0
    refine ⟨trivial, (callsIn_wide.2 (checkWaiting_c _ _ ts [x] _ (hI.later hB0) (ints_one (by omega) bV.cell) hm (by simp))).mono ?_⟩
    rintro e w1 ⟨he, hb⟩
    rw [Hcc.out] at he
    subst he
    have hB1 := hB0.trans (hb.mono hB0.size)
    replace bX := boxed_later bX hb
    replace bM := boxed_later bM hb
    clear hb hB0 bV
    gi_wp2_with fail
    obtain ⟨W1, hWA⟩ : ∃ W1, (w1.alloc (.cells #[.int .i64 0] 2)) = W1 := ⟨_, rfl⟩
    have hBA : Below w1.heap.size w1 W1 := by rw [← hWA]; exact ((Below.refl _ w1).alloc (Nat.le_refl _) _)
    have hsA : w1.heap.size + 1 ≤ W1.heap.size := by rw [← hWA]; simp
    have bC : Boxed W1 (w1.heap.size) 2 (.int .i64 0) := by rw [← hWA]; repeat first | (refine boxed_at ?_; (simp; done)) | refine Boxed.alloc ?_ _
    rw [hWA]
    clear hWA
    have hB2 := hB1.trans (hBA.mono hB1.size)
    have hwb := bM.lt
    replace bX := boxed_later bX hBA
    replace bM := boxed_later bM hBA
    clear hBA hs0 hB1
    have hw1 : w.heap.size ≤ W1.heap.size := hB2.size
    obtain ⟨b1, hb1⟩ : ∃ b, w1.heap.size = b := ⟨_, rfl⟩
    have hbw : w.heap.size + 2 ≤ b1 := by omega
    rw [hb1] at hsA bC ⊢
    refine ⟨trivial, (callsIn_wide.2 (shiftsOf_c _ ts _ (hI.later hB2) (by omega) hm)).mono ?_⟩
    rintro e w2 ⟨bT, bR, g, c, rfl, hT, hR, ho, hT1, hR1, hRg, hTg, hcap, hB3⟩
    have hB4 := hB2.trans (hB3.mono hB2.size)
    have ho2 := ho.base hB2.size
    have hg := (ho.blk _ rfl).1
    have hs3 := hB3.size
    have hTl := hT.lt
    have hRl := hR.lt
    replace bX := boxed_later bX hB3
    replace bM := boxed_later bM hB3
    replace bC := boxed_later bC hB3
    clear ho hB3 hB2
    gi_wp2_with fail
    refine range_outA (Keep := fun b => b < w.heap.size ∨ b = bR) (c := 4) rfl (by omega) rfl trivial (enters_of Try.func113 (by kernel_rfl) rfl) (shiftsOf_at 8 bT bR w.heap.size g c _ ts (by omega) hm hcap w2 hT hR (by omega) (hI.below hB4)) (fun b hb => by omega) (fun _ => rfl)
      (fun k W => (Boxed W w.heap.size 2 (.int .i64 x) ∧ Boxed W (w.heap.size + 1) 2 (.int .i64 m) ∧ Boxed W b1 2 (.int .i64 (ctTo ts x m k : Nat)) ∧ OwnI w.heap.size W (.slice (some ⟨g, 0, none⟩) (ts.length + ts.length) c) (ts ++ ts)) ∧ Below w.heap.size w W)
      (fun _ _ _ => False)
      (by repeat' (first | exact ownFrom_pure _ _ | exact Own.from (boxed_own _ _ _) _ | exact Own.from (ownI_Own _ _ _) _ | exact Own.from (ownB_Own _ _ _) _ | exact ownFrom_below (Nat.le_refl _) (by omega) | exact ownFrom_kps (by omega) | apply OwnFrom.and))
      (fun _ _ _ _ _ hs _ _ => hs)
      ⟨⟨bX, bM, bC, ho2⟩, hB4⟩ ?a1 ?assign ?body ?done ?stop
    case assign =>
      intro l k W K hk hK
      simp only [shiftAt]
      gi_wp2
      exact hK
    case body =>
      rintro l k W hl2 hr ⟨⟨bX1, bM1, bC1, ho1⟩, hB⟩ hlt hsW
      have cX := bX1.cell
      have cM := bM1.cell
      have hsl : (shiftL ts k).length = ts.length := shiftL_length (by omega)
      have hbd := ctTo_le ts x m k
      have hwl := wa_lt [x] (s := k) (show 0 < ts.length by omega) (by omega)
      have Hy := Lib.hid (ctTo_yes (ts := ts) (x := x) (m := m) (k := k))
      have Hn := Lib.hid (fun h : m < (wa ts [x] k : Int) => ctTo_no (ts := ts) (x := x) (m := m) (k := k) (by omega))
      have Hsl := Lib.hid hsl
      clear hsl
      obtain ⟨q, hq⟩ : ∃ q, wa ts [x] k = q := ⟨_, rfl⟩
      rw [hq] at hwl
      have Hq := Lib.hid hq
      obtain ⟨p, hp⟩ : ∃ p, ctTo ts x m k = p := ⟨_, rfl⟩
      rw [hp] at hbd bC1
      have Hp := Lib.hid hp
      clear hq hp cX cM
      have hfw : Try.prog.follows Departure.mixedOrders = true := by kernel_rfl
      have hn0 : ¬ Band (fun b => b < w.heap.size ∨ b = bR) w2.heap.size (w2.heap.size + 2 + 4) b1 := fun h => by
        rcases h with h | h
        · rcases h with h | h <;> omega
        · omega
      have n1 : b1 ≠ g := by omega
      gi_wp2_with fail
      by_cases hle : (q : Int) ≤ m
      · have E := Lib.hid (Hy.out (by rw [Hq.out]; exact hle))
        refine wpIn_region_held (S := fun w' => Boxed w' w.heap.size 2 (.int .i64 x) ∧ Boxed w' (w.heap.size + 1) 2 (.int .i64 m) ∧ Below W.heap.size W w') hfw (by kernel_rfl) (fun ⟨_, _, h⟩ => h) ⟨bX1, bM1, (Below.refl _ _).drew⟩ ?_
        intro hS0
        refine wpAnyH_take (i := 0) (v := ?vu10) rfl (by kernel_rfl) (by kernel_rfl) (by kernel_rfl) (fun _ _ _ h => h) (.inl ⟨by first | kernel_rfl | rfl, ?yu10⟩) hS0 ?_
        case yu10 =>
          intro w' hS
          (have k1 := hS.1.cell; have k2 := hS.2.1.cell; clear hS)
          go_simp
          try with_reducible rfl
        refine wpAnyH_take (i := 1) (v := ?vu11) rfl (by kernel_rfl) (by kernel_rfl) (by kernel_rfl) (fun _ _ _ h => h) (.inl ⟨by first | kernel_rfl | rfl, ?yu11⟩) hS0 ?_
        case yu11 =>
          intro w' hS
          (have k1 := hS.1.cell; have k2 := hS.2.1.cell; clear hS)
          go_simp
          try with_reducible rfl
        refine wpAnyH_take (i := 4) (v := ?vu14) rfl (by kernel_rfl) (by kernel_rfl) (by kernel_rfl) (fun _ _ _ h => h) (.inl ⟨by first | kernel_rfl | rfl, ?yu14⟩) hS0 ?_
        case yu14 =>
          intro w' hS
          (have k1 := hS.1.cell; have k2 := hS.2.1.cell; clear hS)
          go_simp
          try with_reducible rfl
        try simp only [Act.put, List.getElem_toArray, List.getElem_cons_zero, List.getElem_cons_succ, List.setIfInBounds_toArray, List.set_cons_zero, List.set_cons_succ]
        refine wpAnyH_ready (rs := [2]) (by kernel_rfl) (by simp) ?_
        refine AllReadyH.cons rfl (fun K' hK' => ?_) AllReadyH.nil
        rw [if_pos (by first | kernel_rfl | rfl)]
        go_simp
        have hbv : Below W.heap.size W (W.drew.alloc (.cells #[.int .i64 x] 2)) := (Below.refl _ W).drew.alloc (by simp) _
        have hIv := ints_one_new W.drew x 2
        refine hK'.out _ _ ⟨boxed_later hS0.1 ((Below.refl _ W.drew).alloc (Nat.le_refl _) _), boxed_later hS0.2.1 ((Below.refl _ W.drew).alloc (Nat.le_refl _) _), hbv⟩ fun hS1 => ?_
        clear hK' hS0
        refine wpAnyH_ready (rs := [3]) (by kernel_rfl) (by simp) ?_
        refine AllReadyH.cons rfl (fun K' hK' => ?_) AllReadyH.nil
        rw [if_pos (by first | kernel_rfl | rfl)]
        go_simp
        refine (waitFor_c _ _ (shiftL ts k) [x] _ (ints_sh (ho1.below hbv) hlt) hIv (by rw [Hsl.out]; omega) (by rw [Hsl.out]; omega) (by simp)).mono ?_
        rintro e w4 ⟨he, hb4⟩
        rw [show waTo (shiftL ts k) [x] [x].length = q from Hq.out] at he
        subst he
        refine hK'.out _ _ ⟨boxed_later hS1.1 hb4, boxed_later hS1.2.1 hb4, hS1.2.2.trans (hb4.mono hS1.2.2.size)⟩ fun hS2 => ?_
        clear hK' hS1 hb4
        refine wpAnyH_take (i := 5) (v := (.bool true)) rfl (by kernel_rfl) (by kernel_rfl) (by kernel_rfl) (fun _ _ _ h => h) (.inl ⟨by first | kernel_rfl | rfl, ?yu25⟩) hS2 ?_
        case yu25 =>
          intro w' hS
          (clear hS)
          go_simp
          first | done | (simp; done) | (simp; omega) | omega | (simp [*]; done)
        refine wpAnyH_done (by kernel_rfl) ?_ _
        have hb5 := hS2.2.2
        have hB5 := hB.trans (hb5.mono hB.size)
        have hk5 : Kps (Band (fun b => b < w.heap.size ∨ b = bR) w2.heap.size (w2.heap.size + 2 + 4)) W w4 := ⟨hb5.size, fun j _ hj => hb5.block j hj⟩
        have bC5 := boxed_later bC1 hb5
        have bX5 := boxed_later bX1 hb5
        have bM5 := boxed_later bM1 hb5
        have ho5 := ho1.below hb5
        have cC := bC5.cell
        have fC := bC5.frozen
        clear hbv hIv hS2 hb5 bC1 bX1 bM1 ho1 hB
        gi_wp2
        exact ⟨hk5.trans (Kps.setCell _ _ _ _ hn0), ⟨bX5.other (by omega) _, bM5.other (by omega) _, by rw [E.out, Hp.out]; exact bC5.set _, ho5.kept (grownBy_setCell2 _ _ _ _) (.inr (by show some g ≠ some b1; simp; omega))⟩, hB5.setCell (p := ⟨b1, 0, none⟩) (by simp; omega) _⟩
      · have E := Lib.hid (Hn.out (by rw [Hq.out]; omega))
        refine wpIn_region_held (S := fun w' => Boxed w' w.heap.size 2 (.int .i64 x) ∧ Boxed w' (w.heap.size + 1) 2 (.int .i64 m) ∧ Below W.heap.size W w') hfw (by kernel_rfl) (fun ⟨_, _, h⟩ => h) ⟨bX1, bM1, (Below.refl _ _).drew⟩ ?_
        intro hS0
        refine wpAnyH_take (i := 0) (v := ?vv10) rfl (by kernel_rfl) (by kernel_rfl) (by kernel_rfl) (fun _ _ _ h => h) (.inl ⟨by first | kernel_rfl | rfl, ?yv10⟩) hS0 ?_
        case yv10 =>
          intro w' hS
          (have k1 := hS.1.cell; have k2 := hS.2.1.cell; clear hS)
          go_simp
          try with_reducible rfl
        refine wpAnyH_take (i := 1) (v := ?vv11) rfl (by kernel_rfl) (by kernel_rfl) (by kernel_rfl) (fun _ _ _ h => h) (.inl ⟨by first | kernel_rfl | rfl, ?yv11⟩) hS0 ?_
        case yv11 =>
          intro w' hS
          (have k1 := hS.1.cell; have k2 := hS.2.1.cell; clear hS)
          go_simp
          try with_reducible rfl
        refine wpAnyH_take (i := 4) (v := ?vv14) rfl (by kernel_rfl) (by kernel_rfl) (by kernel_rfl) (fun _ _ _ h => h) (.inl ⟨by first | kernel_rfl | rfl, ?yv14⟩) hS0 ?_
        case yv14 =>
          intro w' hS
          (have k1 := hS.1.cell; have k2 := hS.2.1.cell; clear hS)
          go_simp
          try with_reducible rfl
        try simp only [Act.put, List.getElem_toArray, List.getElem_cons_zero, List.getElem_cons_succ, List.setIfInBounds_toArray, List.set_cons_zero, List.set_cons_succ]
        refine wpAnyH_ready (rs := [2]) (by kernel_rfl) (by simp) ?_
        refine AllReadyH.cons rfl (fun K' hK' => ?_) AllReadyH.nil
        rw [if_pos (by first | kernel_rfl | rfl)]
        go_simp
        have hbv : Below W.heap.size W (W.drew.alloc (.cells #[.int .i64 x] 2)) := (Below.refl _ W).drew.alloc (by simp) _
        have hIv := ints_one_new W.drew x 2
        refine hK'.out _ _ ⟨boxed_later hS0.1 ((Below.refl _ W.drew).alloc (Nat.le_refl _) _), boxed_later hS0.2.1 ((Below.refl _ W.drew).alloc (Nat.le_refl _) _), hbv⟩ fun hS1 => ?_
        clear hK' hS0
        refine wpAnyH_ready (rs := [3]) (by kernel_rfl) (by simp) ?_
        refine AllReadyH.cons rfl (fun K' hK' => ?_) AllReadyH.nil
        rw [if_pos (by first | kernel_rfl | rfl)]
        go_simp
        refine (waitFor_c _ _ (shiftL ts k) [x] _ (ints_sh (ho1.below hbv) hlt) hIv (by rw [Hsl.out]; omega) (by rw [Hsl.out]; omega) (by simp)).mono ?_
        rintro e w4 ⟨he, hb4⟩
        rw [show waTo (shiftL ts k) [x] [x].length = q from Hq.out] at he
        subst he
        refine hK'.out _ _ ⟨boxed_later hS1.1 hb4, boxed_later hS1.2.1 hb4, hS1.2.2.trans (hb4.mono hS1.2.2.size)⟩ fun hS2 => ?_
        clear hK' hS1 hb4
        refine wpAnyH_take (i := 5) (v := (.bool false)) rfl (by kernel_rfl) (by kernel_rfl) (by kernel_rfl) (fun _ _ _ h => h) (.inl ⟨by first | kernel_rfl | rfl, ?yv25⟩) hS2 ?_
        case yv25 =>
          intro w' hS
          (clear hS)
          go_simp
          first | done | (simp; done) | (simp; omega) | omega | (simp [*]; done)
        refine wpAnyH_done (by kernel_rfl) ?_ _
        have hb5 := hS2.2.2
        have hB5 := hB.trans (hb5.mono hB.size)
        have hk5 : Kps (Band (fun b => b < w.heap.size ∨ b = bR) w2.heap.size (w2.heap.size + 2 + 4)) W w4 := ⟨hb5.size, fun j _ hj => hb5.block j hj⟩
        have bC5 := boxed_later bC1 hb5
        have bX5 := boxed_later bX1 hb5
        have bM5 := boxed_later bM1 hb5
        have ho5 := ho1.below hb5
        have cC := bC5.cell
        have fC := bC5.frozen
        clear hbv hIv hS2 hb5 bC1 bX1 bM1 ho1 hB
        gi_wp2
        exact ⟨hk5, ⟨bX5, bM5, by rw [E.out, Hp.out]; exact bC5, ho5⟩, hB5⟩
    case done =>
      rintro D W hD ⟨⟨bX1, bM1, bC1, ho1⟩, hB⟩ hK
      have cC := bC1.cell
      gi_wp2_with fail
      refine retM1 hK ⟨_, results_tmp2 rfl _ _ _, ?_⟩
      exact ⟨ret_i2d H0.out.symm Hc.out.symm, below_shut hB (by omega)⟩
    case stop =>
      rintro D c k W hD hk h
      exact h.elim
  · have H0 := Lib.hid (show ctR ts x m = 0 by unfold ctR; rw [if_neg hc])
    by_cases h1 : m < 0
    · have Hc := Lib.hid (show ctC ts x m = 2 by unfold ctC; rw [inB_false.2 (.inl h1)]; rfl)
      clear hc
      refine callsIn_of_wp_marks Try.func39 rfl trivial ?_ rfl
      simp only [Try.ntmps39, List.size_toArray, List.length_cons, List.length_nil, Nat.reduceAdd, Nat.reduceSub, Array.replicate_succ, Array.replicate_zero, List.push_toArray, List.append_toArray, List.nil_append, List.cons_append]
      gi_wp2
      refine retM0 ⟨_, results_tmp2 rfl _ _ _, ?_⟩
      exact ⟨ret_i2d H0.out.symm Hc.out.symm, ((Below.refl _ w).alloc (Nat.le_refl _) _).alloc (by simp) _⟩
    · by_cases h2 : 120 < m
      · have Hc := Lib.hid (show ctC ts x m = 2 by unfold ctC; rw [inB_false.2 (.inr h2)]; rfl)
        clear hc
        refine callsIn_of_wp_marks Try.func39 rfl trivial ?_ rfl
        simp only [Try.ntmps39, List.size_toArray, List.length_cons, List.length_nil, Nat.reduceAdd, Nat.reduceSub, Array.replicate_succ, Array.replicate_zero, List.push_toArray, List.append_toArray, List.nil_append, List.cons_append]
        gi_wp2
        refine retM0 ⟨_, results_tmp2 rfl _ _ _, ?_⟩
        exact ⟨ret_i2d H0.out.symm Hc.out.symm, ((Below.refl _ w).alloc (Nat.le_refl _) _).alloc (by simp) _⟩
      · have hcq : ctC ts x m = comC ts [x] := by unfold ctC; rw [inB_true.2 (by omega)]; rfl
        rw [hcq] at hc
        have hcz : (comC ts [x] == 0) = false := by simp [hc]
        obtain ⟨q, hq⟩ : ∃ q, comC ts [x] = q := ⟨_, rfl⟩
        have Hc := Lib.hid (hcq.trans hq)
        have Hq := Lib.hid hq
        rw [hq] at hcz hc
        clear hq hcq
        refine callsIn_of_wp_marks Try.func39 rfl trivial ?_ rfl
        simp only [Try.ntmps39, List.size_toArray, List.length_cons, List.length_nil, Nat.reduceAdd, Nat.reduceSub, Array.replicate_succ, Array.replicate_zero, List.push_toArray, List.append_toArray, List.nil_append, List.cons_append]
        gi_wp2_with fail
        obtain ⟨W0, hW0⟩ : ∃ W0, (((w.alloc (.cells #[.int .i64 x] 2)).alloc (.cells #[.int .i64 m] 2)).alloc (.cells #[.int .i64 x] 2)) = W0 := ⟨_, rfl⟩
        have hB0 : Below w.heap.size w W0 := by rw [← hW0]; exact ((((Below.refl _ w).alloc (Nat.le_refl _) _).alloc (by simp; try omega) _).alloc (by simp; try omega) _)
        have hs0 : w.heap.size + 3 ≤ W0.heap.size := by rw [← hW0]; simp
        have bX : Boxed W0 (w.heap.size) 2 (.int .i64 x) := by rw [← hW0]; repeat first | (refine boxed_at ?_; (simp; done)) | refine Boxed.alloc ?_ _
        have bM : Boxed W0 (w.heap.size + 1) 2 (.int .i64 m) := by rw [← hW0]; repeat first | (refine boxed_at ?_; (simp; done)) | refine Boxed.alloc ?_ _
        have bV : Boxed W0 (w.heap.size + 1 + 1) 2 (.int .i64 x) := by rw [← hW0]; repeat first | (refine boxed_at ?_; (simp; done)) | refine Boxed.alloc ?_ _
        rw [hW0]
        clear hW0
        refine ⟨trivial, (callsIn_wide.2 (checkWaiting_c _ _ ts [x] _ (hI.later hB0) (ints_one (by omega) bV.cell) hm (by simp))).mono ?_⟩
        rintro e w1 ⟨he, hb⟩
        rw [Hq.out] at he
        subst he
        gi_wp2
        refine retM0 ⟨_, results_tmp2 rfl _ _ _, ?_⟩
        exact ⟨ret_i2d H0.out.symm Hc.out.symm, hB0.trans (hb.mono hB0.size)⟩

end Go.Proofs.Ytgndbifcncklgaa
