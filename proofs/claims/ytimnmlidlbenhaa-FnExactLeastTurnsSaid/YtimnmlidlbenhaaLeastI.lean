/-
  LeastTurns of the program.
  Conditions: lists of at most 1048576 elements.
-/
import Derived.Test.YtimnmlidlbenhaaLeast
import Derived.Test.YtimnmlidlbenhaaShiftIt
namespace Go.Proofs.Ytimnmlidlbenhaa
open Go.RowKit Go.Shelf
attribute [local go_sem] Oper.semAt_some

/-- a value that holds the list zs: the turns themselves, or one of their shifts in the block g -/
theorem ints_shift {B g cap n : Nat} {W : World} {ts : List Int} (ho : OwnI B W (.slice (some ⟨g, 0, none⟩) (ts.length + ts.length) cap) (ts ++ ts)) (hn : n < ts.length) : Ints W.heap.size W (.slice (some ⟨g, n, none⟩) ts.length ts.length) (shiftL ts n) := by
  have hsl : (shiftL ts n).length = ts.length := shiftL_length (by omega)
  refine ⟨_, _, by rw [hsl], .inr ⟨g, n, rfl, (ho.blk g rfl).2, fun j hj => ?_⟩⟩
  rw [hsl] at hj
  have := ho.cellAt (j := n + j) (by simp; omega)
  rw [this, nth_twice (by omega) hj]
/-- the best value so far -/
def bestV (sv : Value) (g : Nat) (ts : List Int) : Nat → Value
  | 0 => sv
  | k + 1 => if lessL (shiftL ts k) (leastTo ts k).1 then .slice (some ⟨g, k, none⟩) ts.length ts.length else bestV sv g ts k
theorem bestV_yes {sv : Value} {g k : Nat} {ts : List Int} (h : lessL (shiftL ts k) (leastTo ts k).1 = true) : bestV sv g ts (k + 1) = .slice (some ⟨g, k, none⟩) ts.length ts.length := by simp [bestV, h]
theorem bestV_no {sv : Value} {g k : Nat} {ts : List Int} (h : lessL (shiftL ts k) (leastTo ts k).1 = false) : bestV sv g ts (k + 1) = bestV sv g ts k := by simp [bestV, h]
theorem ints_best {B g cap k : Nat} {W : World} {sv : Value} {ts : List Int} (ho : OwnI B W (.slice (some ⟨g, 0, none⟩) (ts.length + ts.length) cap) (ts ++ ts)) (hI : Ints W.heap.size W sv ts) (hk : k ≤ ts.length) : Ints W.heap.size W (bestV sv g ts k) (leastTo ts k).1 := by
  induction k with
  | zero => exact hI
  | succ k ih =>
    cases h : lessL (shiftL ts k) (leastTo ts k).1
    · rw [bestV_no h, leastTo_no h]; exact ih (by omega)
    · rw [bestV_yes h, leastTo_yes h]; exact ints_shift ho (by omega)
theorem bestV_shape (a : Option Addr) (cap : Nat) (g : Nat) (ts : List Int) (k : Nat) : ∃ a' c', bestV (.slice a ts.length cap) g ts k = .slice a' ts.length c' := by
  induction k with
  | zero => exact ⟨a, cap, rfl⟩
  | succ k ih =>
    cases h : lessL (shiftL ts k) (leastTo ts k).1
    · rw [bestV_no h]; exact ih
    · rw [bestV_yes h]; exact ⟨_, _, rfl⟩

set_option maxRecDepth 100000 in
set_option maxHeartbeats 8000000 in
theorem i_LeastTurns (c0 : Value) (ts : List Int) (w : World) (hI : Ints w.heap.size w c0 ts) (_hN : I64s ts) (hm : ts.length ≤ 1048576) (_hcp : CapOk c0 ts.length) :
    Calls Try.prog 33 #[c0] w (GivesI w (leastR ts) fun v => .tuple #[v, .int .i64 (leastB ts), .int .i64 (greatC ts)]) := by
  obtain ⟨a, cap, rfl⟩ := hI.shape
  refine (callsIn_wide (n := 9)).1 ?_
  cases ht : turnsOk ts 8
  · have Hr := Lib.hid (show leastR ts = [] by unfold leastR; rw [ht]; rfl)
    have Hb := Lib.hid (show leastB ts = 0 by unfold leastB; rw [ht]; rfl)
    have Hc := Lib.hid (show greatC ts = 2 by unfold greatC; rw [ht]; rfl)
    have Ht := Lib.hid ht
    clear ht
    refine callsIn_of_wp_marks Try.func33 rfl trivial ?_ rfl
    simp only [Try.ntmps33, List.size_toArray, List.length_cons, List.length_nil, Nat.reduceAdd, Nat.reduceSub, Array.replicate_succ, Array.replicate_zero, List.push_toArray, List.append_toArray, List.nil_append, List.cons_append]
    gi_wp2_with fail
    refine ⟨trivial, (callsIn_wide.2 (areTurns_c _ ts 8 _ hI (by omega))).mono ?_⟩
    rintro e w1 ⟨he, hb⟩
    rw [Ht.out] at he
    subst he
    gi_wp2
    refine retM0 ⟨_, results_tmp3 rfl _ _ _, ?_⟩
    exact ⟨_, ret_v3 Hb.out.symm Hc.out.symm, by rw [Hr.out]; exact ownI_nil _ _, hb⟩
  · have Hr := Lib.hid (show leastR ts = (leastTo ts ts.length).1 by unfold leastR; rw [ht]; rfl)
    have Hb := Lib.hid (show leastB ts = ((leastTo ts ts.length).2 : Nat) by unfold leastB; rw [ht]; rfl)
    have Hc := Lib.hid (show greatC ts = 0 by unfold greatC; rw [ht]; rfl)
    have Ht := Lib.hid ht
    have hl := turnsOk_len ht
    clear ht
    refine callsIn_of_wp_marks Try.func33 rfl trivial ?_ rfl
    simp only [Try.ntmps33, List.size_toArray, List.length_cons, List.length_nil, Nat.reduceAdd, Nat.reduceSub, Array.replicate_succ, Array.replicate_zero, List.push_toArray, List.append_toArray, List.nil_append, List.cons_append]
    gi_wp2_with fail
    refine ⟨trivial, (callsIn_wide.2 (areTurns_c _ ts 8 _ hI (by omega))).mono ?_⟩
    rintro e w1 ⟨he, hb⟩
    rw [Ht.out] at he
    subst he
    gi_wp2_with fail
    obtain ⟨W0, hW1⟩ : ∃ W0, ((w1.alloc (.cells #[.slice a ts.length cap] 22)).alloc (.cells #[.int .i64 0] 2)) = W0 := ⟨_, rfl⟩
    have hB1 : Below w1.heap.size w1 W0 := by rw [← hW1]; exact (((Below.refl _ w1).alloc (Nat.le_refl _) _).alloc (by simp; try omega) _)
    have hs1 : w1.heap.size + 2 ≤ W0.heap.size := by rw [← hW1]; simp
    have bL : Boxed W0 (w1.heap.size) 22 (.slice a ts.length cap) := by rw [← hW1]; repeat first | (refine boxed_at ?_; (simp; done)) | refine Boxed.alloc ?_ _
    have bY : Boxed W0 (w1.heap.size + 1) 2 (.int .i64 0) := by rw [← hW1]; repeat first | (refine boxed_at ?_; (simp; done)) | refine Boxed.alloc ?_ _
    rw [hW1]
    clear hW1
    have hB2 := hb.trans (hB1.mono hb.size)
    have hbs := hb.size
    refine ⟨trivial, (callsIn_wide.2 (shiftsOf_c _ ts _ (hI.later hB2) (by omega) hm)).mono ?_⟩
    rintro e w2 ⟨bT, bR, g, c, rfl, hT, hR, ho, hT1, hR1, hRg, hTg, hcap, hB3⟩
    have hB4 := hB2.trans (hB3.mono hB2.size)
    have ho2 := ho.base hB2.size
    have hg := (ho.blk _ rfl).1
    have hs3 := hB3.size
    have hTl := hT.lt
    have hRl := hR.lt
    replace bL := boxed_later bL hB3
    replace bY := boxed_later bY hB3
    clear ho hb hB1 hB2 hB3
    gi_wp2_with fail
    refine range_outA (Keep := fun b => b < w.heap.size ∨ b = bR) (c := 4) rfl (by omega) rfl trivial (enters_of Try.func111 (by kernel_rfl) rfl) (shiftsOf_at 8 bT bR w.heap.size g c _ ts (by omega) hm hcap w2 hT hR (by omega) (hI.below hB4)) (fun b hb => by omega) (fun _ => rfl)
      (fun k W => (Boxed W w1.heap.size 22 (bestV (.slice a ts.length cap) g ts k) ∧ Boxed W (w1.heap.size + 1) 2 (.int .i64 ((leastTo ts k).2 : Nat)) ∧ OwnI w.heap.size W (.slice (some ⟨g, 0, none⟩) (ts.length + ts.length) c) (ts ++ ts)) ∧ Below w.heap.size w W)
      (fun _ _ _ => False)
      (by repeat' (first | exact ownFrom_pure _ _ | exact Own.from (boxed_own _ _ _) _ | exact Own.from (ownI_Own _ _ _) _ | exact Own.from (ownB_Own _ _ _) _ | exact ownFrom_below (Nat.le_refl _) (by omega) | exact ownFrom_kps (by omega) | apply OwnFrom.and))
      (fun _ _ _ _ _ hs _ _ => hs)
      ⟨⟨bL, bY, ho2⟩, hB4⟩ ?a1 ?assign ?body ?done ?stop
    case assign =>
      intro l k W K hk hK
      simp only [shiftAt]
      gi_wp2
      exact hK
    case body =>
      rintro l k W hl2 hr ⟨⟨bL1, bY1, ho1⟩, hB⟩ hlt hsW
      have cL := bL1.cell
      have fL := bL1.frozen
      have cY := bY1.cell
      have fY := bY1.frozen
      have i1 := ints_shift ho1 hlt
      have i2 := ints_best ho1 (hI.later hB) (show k ≤ ts.length by omega)
      have hnb : ∀ b, b = w1.heap.size ∨ b = w1.heap.size + 1 → ¬ Band (fun b => b < w.heap.size ∨ b = bR) w2.heap.size (w2.heap.size + 2 + 4) b := fun b hb h => by
        rcases h with h | h
        · rcases h with h | h <;> omega
        · omega
      have Hnb := Lib.hid hnb
      have n1 : w1.heap.size ≠ g := by omega
      have n2 : w1.heap.size + 1 ≠ g := by omega
      have hln := leastTo_len (ts := ts) (show k ≤ ts.length by omega)
      have Hln := Lib.hid hln
      clear hnb hln
      gi_wp2_with fail
      refine ⟨trivial, (callsIn_wide.2 (compare_c _ _ (shiftL ts k) (leastTo ts k).1 _ i1 i2 (by rw [Hln.out, shiftL_length (by omega)]) (by rw [shiftL_length (by omega)]; exact hm))).mono ?_⟩
      rintro e w3 ⟨rfl, rfl⟩
      have hiff := cmpL_less (shiftL ts k) (leastTo ts k).1
      have hcb := cmpL_bd (shiftL ts k) (leastTo ts k).1
      cases hd : lessL (shiftL ts k) (leastTo ts k).1
      · have hge : ¬ cmpL (shiftL ts k) (leastTo ts k).1 < 0 := by rw [hiff, hd]; simp
        have H1 := Lib.hid (leastTo_no hd)
        have H2 := Lib.hid (bestV_no (sv := .slice a ts.length cap) (g := g) hd)
        clear hd hiff
        gi_wp2
        exact ⟨Kps.refl _ _, ⟨by rw [H2.out]; exact bL1, by rw [H1.out]; exact bY1, ho1⟩, hB⟩
      · have hge : cmpL (shiftL ts k) (leastTo ts k).1 < 0 := by rw [hiff, hd]
        have H1 := Lib.hid (leastTo_yes hd)
        have H2 := Lib.hid (bestV_yes (sv := .slice a ts.length cap) (g := g) hd)
        clear hd hiff
        gi_wp2
        exact ⟨(Kps.setCell _ _ _ _ (Hnb.out _ (.inl rfl))).trans (Kps.setCell _ _ _ _ (Hnb.out _ (.inr rfl))), ⟨by rw [H2.out]; exact (bL1.set _).other (by omega) _, by rw [H1.out]; exact (bY1.other (by omega) _).set _,
          (ho1.kept (grownBy_setCell2 _ _ _ _) (.inr (by show some g ≠ some w1.heap.size; simp; omega))).kept (grownBy_setCell2 _ _ _ _) (.inr (by show some g ≠ some (w1.heap.size + 1); simp; omega))⟩,
          (hB.setCell (p := ⟨w1.heap.size, 0, none⟩) hbs _).setCell (p := ⟨w1.heap.size + 1, 0, none⟩) (by show w.heap.size ≤ w1.heap.size + 1; omega) _⟩
    case done =>
      rintro D W hD ⟨⟨bL1, bY1, ho1⟩, hB⟩ hK
      have cL := bL1.cell
      have cY := bY1.cell
      have i2 := ints_best ho1 (hI.later hB) (Nat.le_refl _)
      have hfw : Try.prog.follows Departure.mixedOrders = true := by kernel_rfl
      have hln := leastTo_len (ts := ts) (Nat.le_refl ts.length)
      gi_wp2_with fail
      refine wpIn_wide.2 (wp_region_noPanic (wp_region_held_drew (S := fun w' => Boxed w' w1.heap.size 22 (bestV (.slice a ts.length cap) g ts ts.length) ∧ Boxed w' (w1.heap.size + 1) 2 (.int .i64 ((leastTo ts ts.length).2 : Nat)) ∧ Below w.heap.size w w' ∧ w'.heap[D]? = some (.deferred (some []))) hfw ⟨bL1, bY1, hB.drew, hK⟩ ?_))
      intro hS0
      refine wpAnyH_take (i := 0) (v := ?v0) rfl (by kernel_rfl) (by kernel_rfl) (by kernel_rfl) (fun _ _ _ h => h) (.inl ⟨by rfl, ?y0⟩) hS0 ?_
      case y0 =>
        intro w' hS
        (have k1 := hS.1.cell; have k2 := hS.2.1.cell; clear hS)
        go_simp
        try with_reducible rfl
      refine wpAnyH_take (i := 2) (v := ?v2) rfl (by kernel_rfl) (by kernel_rfl) (by kernel_rfl) (fun _ _ _ h => h) (.inl ⟨by rfl, ?y2⟩) hS0 ?_
      case y2 =>
        intro w' hS
        (have k1 := hS.1.cell; have k2 := hS.2.1.cell; clear hS)
        go_simp
        try with_reducible rfl
      refine wpAnyH_ready (rs := [1]) (by kernel_rfl) (by simp) ?_
      refine AllReadyH.cons rfl (fun K' hK' => ?_) AllReadyH.nil
      rw [if_pos (by rfl)]
      go_simp
      refine (clone_c _ (leastTo ts ts.length).1 _ (by exact i2) (by omega) (by omega)).mono ?_
      rintro e w4 ⟨v, rfl, ho4, hB4'⟩
      have hDl : D < W.heap.size := (Array.getElem?_eq_some_iff.1 hK).1
      refine hK'.out _ _ ⟨boxed_later hS0.1 hB4', boxed_later hS0.2.1 hB4', hS0.2.2.1.trans (hB4'.mono hS0.2.2.1.size), (hB4'.block D hDl).trans hS0.2.2.2⟩ fun hS4 => ?_
      simp only [id]
      refine wpAnyH_take (i := 3) (v := ?v3) rfl (by kernel_rfl) (by kernel_rfl) (by kernel_rfl) (fun _ _ _ h => h) (.inl ⟨by rfl, ?y3⟩) hS4 ?_
      case y3 =>
        intro w' hS
        (clear hS)
        go_simp
        try with_reducible rfl
      refine wpAnyH_take (i := 4) (v := ?v4) rfl (by kernel_rfl) (by kernel_rfl) (by kernel_rfl) (fun _ _ _ h => h) (.inl ⟨by rfl, ?y4⟩) hS4 ?_
      case y4 =>
        intro w' hS
        (clear hS)
        go_simp
        try with_reducible rfl
      refine wpAnyH_take (i := 5) (v := ?v5) rfl (by kernel_rfl) (by kernel_rfl) (by kernel_rfl) (fun _ _ _ h => h) (.inl ⟨by rfl, ?y5⟩) hS4 ?_
      case y5 =>
        intro w' hS
        (clear hS)
        go_simp
        try with_reducible rfl
      refine wpAnyH_done (by kernel_rfl) (NoPanic.normal ?_) _
      gi_wp2
      refine retM1 hS4.2.2.2 ⟨_, results_tmp3 rfl _ _ _, ?_⟩
      exact ⟨_, ret_v3 Hb.out.symm Hc.out.symm, by rw [Hr.out]; exact (ho4.base hB.size).shut hS4.2.2.2, below_shut hS4.2.2.1 (by omega)⟩
    case stop =>
      rintro D c k W hD hk h
      exact h.elim

end Go.Proofs.Ytimnmlidlbenhaa
