/-
  Level turns of the program, second part: the least of a ranking, the list of rules, shares.
  Conditions: lists of at most 1048576 elements.
-/
import Derived.Test.YtnhdfpmjebfjmaaLvI
import Derived.Test.YtnhdfpmjebfjmaaReg
namespace Go.Proofs.Ytnhdfpmjebfjmaa
open Go.RowKit Go.Shelf
attribute [local go_sem] Oper.semAt_some

theorem slotRules_c (w : World) : Calls Try.prog 69 #[] w fun e w' => e = .returned (.slice (some ⟨w.heap.size, 0, none⟩) 2 2) ∧ w' = w.alloc (.cells #[.func (.func 99) #[] #[], .func (.func 100) #[] #[]] 83) := by
  go_enter Try.func69, Try.ntmps69
  go_wp2
  go_ret
  exact ⟨rfl, rfl⟩

set_option maxRecDepth 100000 in
set_option maxHeartbeats 4000000 in
theorem least_c (sv : Value) (cs : List (Int × Int)) (w : World) (hI : Cls w.heap.size w sv cs) (hl : cs.length ≤ 8) :
    Calls Try.prog 98 #[sv] w fun e w' => ((cs.length = 0 ∧ e = .returned (.tuple #[.agg #[.int .i64 0, .int .i64 0], .bool false])) ∨ ∃ j, FstLeast cs cs.length j ∧ e = .returned (.tuple #[.agg #[.int .i64 (rst cs j), .int .i64 (gp cs j)], .bool true])) ∧ Below w.heap.size w w' := by
  obtain ⟨a, cap, rfl⟩ := hI.shape
  obtain ⟨W0, hW0⟩ : ∃ W0, w.alloc (.cells #[.int .i64 0, .int .i64 0] 108) = W0 := ⟨_, rfl⟩
  have hB0 : Below w.heap.size w W0 := by rw [← hW0]; exact (Below.refl _ w).alloc (Nat.le_refl _) _
  have bR : Box2 W0 w.heap.size 108 (.int .i64 0) (.int .i64 0) := by rw [← hW0]; exact Box2.new w _ _ _
  by_cases h0 : cs.length = 0
  · have f0 := bR.frozen 0
    have f1 := (bR.set0 (.int .i64 0)).frozen 1
    have q0 := bR.c0
    have g1 := (bR.set0 (.int .i64 0)).c1
    have bR2 := (bR.set0 (.int .i64 0)).set1 (.int .i64 0)
    have r0 := bR2.c0
    have r1 := bR2.c1
    have hB2 := (hB0.setCell (p := ⟨w.heap.size, 0, none⟩) (by simp) (.int .i64 0)).setCell (p := ⟨w.heap.size, 1, none⟩) (by simp) (.int .i64 0)
    have H0 := Lib.hid h0
    rw [h0]
    go_enter Try.func98, Try.ntmps98
    go_wp2
    refine bodyPost_ret (v := .tuple #[.agg #[.int .i64 0, .int .i64 0], .bool false]) (by simp [results, Try.results98, go_sem, r0, r1]) rfl ?_
    exact ⟨.inl ⟨by first | trivial | rfl, rfl⟩, hB2⟩
  · have hq : ((cs.length : Int) == 0) = false := by rw [beq_eq_false_iff_ne]; omega
    go_enter Try.func98, Try.ntmps98
    go_wp2_with fail
    try rw [hW0]
    clear hW0
    refine (minFunc_c _ cs W0 (hI.later hB0) (by omega) hl).mono ?_
    rintro e w2 ⟨j, hj, rfl, hb⟩
    have bR1 := bR.later hb
    have f0 := bR1.frozen 0
    have f1 := (bR1.set0 (.int .i64 (rst cs j))).frozen 1
    have q0 := bR1.c0
    have g1 := (bR1.set0 (.int .i64 (rst cs j))).c1
    have bR2 := (bR1.set0 (.int .i64 (rst cs j))).set1 (.int .i64 (gp cs j))
    have r0 := bR2.c0
    have r1 := bR2.c1
    have hB2 := ((hB0.trans (hb.mono hB0.size)).setCell (p := ⟨w.heap.size, 0, none⟩) (by simp) (.int .i64 (rst cs j))).setCell (p := ⟨w.heap.size, 1, none⟩) (by simp) (.int .i64 (gp cs j))
    go_wp2
    refine bodyPost_ret (v := .tuple #[.agg #[.int .i64 (rst cs j), .int .i64 (gp cs j)], .bool true]) (by simp [results, Try.results98, go_sem, r0, r1]) rfl ?_
    exact ⟨.inr ⟨j, hj, rfl⟩, hB2⟩

/-! ### shares -/
set_option maxRecDepth 100000 in
set_option maxHeartbeats 4000000 in
theorem unitsOf_c (sv : Value) (ds : List Int) (w : World) (hI : Ints w.heap.size w sv ds) (hl : ds.length ≤ 8) (hd : ∀ i, i < ds.length → 1 ≤ nth ds i ∧ nth ds i ≤ 60) :
    Calls Try.prog 97 #[sv] w fun e w' => e = .returned (.int .i64 (sumN (nth ds) ds.length)) ∧ Below w.heap.size w w' := by
  obtain ⟨a, cap, rfl⟩ := hI.shape
  refine (callsIn_wide (n := 9)).1 ?_
  refine callsIn_of_wp_marks Try.func97 rfl trivial ?_ rfl
  simp only [Try.ntmps97, List.size_toArray, List.length_cons, List.length_nil, Nat.reduceAdd, Nat.reduceSub, Array.replicate_succ, Array.replicate_zero, List.push_toArray, List.append_toArray, List.nil_append, List.cons_append]
  gi_wp2_with (first | (gi_at_call 88; refine (callsIn_wide.2 (numbered_c _ _ _ _)).mono ?_; rintro e w' ⟨rfl, rfl⟩) | (refine ⟨trivial, ?_⟩; gi_at_call 88; refine (callsIn_wide.2 (numbered_c _ _ _ _)).mono ?_; rintro e w' ⟨rfl, rfl⟩))
  obtain ⟨W0, hW0⟩ : ∃ W0, ((w.alloc (.cells #[.int .i64 0] 2)).alloc (.cells #[.slice a ds.length cap] 22)) = W0 := ⟨_, rfl⟩
  have hB0 : Below w.heap.size w W0 := by rw [← hW0]; exact (((Below.refl _ w).alloc (Nat.le_refl _) _).alloc (by simp; try omega) _)
  have hs0 : w.heap.size + 2 ≤ W0.heap.size := by rw [← hW0]; simp
  have bS : Boxed W0 (w.heap.size) 2 (.int .i64 0) := by rw [← hW0]; repeat first | (refine boxed_at ?_; (simp; done)) | refine Boxed.alloc ?_ _
  have bN : Boxed W0 (w.heap.size + 1) 22 (.slice a ds.length cap) := by rw [← hW0]; repeat first | (refine boxed_at ?_; (simp; done)) | refine Boxed.alloc ?_ _
  rw [hW0]
  clear hW0
  refine range_outA rfl (by omega) rfl trivial (enters_of Try.func111 (by kernel_rfl) rfl) (numbered_at Fence.wide 8 trivial rfl (by omega) _ w.heap.size _ ds (by omega) W0 bN (by omega) (hI.below hB0)) (fun b hb => by omega) (fun _ => rfl)
    (fun k W => Boxed W w.heap.size 2 (.int .i64 (sumN (nth ds) k)) ∧ Below w.heap.size w W)
    (fun _ _ _ => False)
    (OwnFrom.and (Own.from (boxed_own _ _ _) _) (ownFrom_below (Nat.le_refl _) (by omega)))
    (fun _ _ _ _ _ hs _ _ => hs)
    ⟨bS, hB0⟩ ?a1 ?assign ?body ?done ?stop
  case assign =>
    intro l k W K hk hK
    simp only [numAt]
    gi_wp2
    exact hK
  case body =>
    rintro l k W hl hr ⟨bS1, hB⟩ hlt hsz
    have hnb : ¬ Band (fun b => b < w.heap.size) W0.heap.size (W0.heap.size + 2 + 0) w.heap.size := not_band (by omega) (by omega)
    have hb := sumN_bd (f := nth ds) (k := k) (a := 1) (b := 60) (fun i hi => hd i (by omega))
    have he := hd k hlt
    have Hs := Lib.hid (show sumN (nth ds) (k + 1) = sumN (nth ds) k + nth ds k from rfl)
    obtain ⟨q, hq⟩ : ∃ q, sumN (nth ds) k = q := ⟨_, rfl⟩
    have Hq := Lib.hid hq
    rw [hq] at hb bS1
    have cS := bS1.cell
    have fS := bS1.frozen
    clear hq
    gi_wp2
    exact ⟨Kps.setCell _ _ _ _ hnb, by rw [Hs.out, Hq.out]; exact bS1.set _, hB.setCell (p := ⟨w.heap.size, 0, none⟩) (Nat.le_refl _) _⟩
  case done =>
    rintro D W hD ⟨bS1, hB⟩ hK
    have cS := bS1.cell
    gi_wp2
    exact retM1 hK ⟨_, results_tmp rfl _ _ _, rfl, below_shut hB (by omega)⟩
  case stop =>
    rintro D c k W hD hk h
    exact h.elim

set_option maxRecDepth 100000 in
set_option maxHeartbeats 4000000 in
theorem areShares_c (sv : Value) (ds : List Int) (w : World) (hI : Ints w.heap.size w sv ds) (hm : ds.length ≤ 1048576) :
    Calls Try.prog 67 #[sv] w fun e w' => e = .returned (.bool (dsOk ds)) ∧ Below w.heap.size w w' := by
  obtain ⟨a, cap, rfl⟩ := hI.shape
  by_cases h1 : ds.length < 1
  · have Hf := Lib.hid (show dsOk ds = false by unfold dsOk; rw [inB_false.2 (show ((ds.length : Int) < 1 ∨ (8 : Int) < ds.length) by omega)]; simp)
    go_enter Try.func67, Try.ntmps67
    go_wp2
    go_ret
    exact ⟨ret_bool Hf.out.symm, Below.refl _ _⟩
  · by_cases h8 : 8 < ds.length
    · have Hf := Lib.hid (show dsOk ds = false by unfold dsOk; rw [inB_false.2 (show ((ds.length : Int) < 1 ∨ (8 : Int) < ds.length) by omega)]; simp)
      go_enter Try.func67, Try.ntmps67
      go_wp2
      go_ret
      exact ⟨ret_bool Hf.out.symm, Below.refl _ _⟩
    · cases ha : (ds.all fun z => inB z 1 60)
      · have Hf := Lib.hid (show dsOk ds = false by unfold dsOk; rw [ha]; rfl)
        have Ha := Lib.hid ha
        clear ha
        go_enter Try.func67, Try.ntmps67
        go_wp2_with fail
        refine (areWithin_d false _ ds 1 60 _ hI (by omega) Ha.out).mono ?_
        rintro e w1 ⟨rfl, hb⟩
        go_wp2
        go_ret
        exact ⟨ret_bool Hf.out.symm, hb⟩
      · have hd : ∀ i, i < ds.length → 1 ≤ nth ds i ∧ nth ds i ≤ 60 := fun i hi => by rw [List.all_eq_true] at ha; exact inB_true.1 (ha _ (nth_mem hi))
        have Ha := Lib.hid ha
        have Hd := Lib.hid hd
        have hb := sumN_bd hd
        have Hv := Lib.hid (show dsOk ds = decide (sumN (nth ds) ds.length ≤ 60) by unfold dsOk; rw [ha, inB_true.2 (by omega)]; rfl)
        obtain ⟨q, hq⟩ : ∃ q, sumN (nth ds) ds.length = q := ⟨_, rfl⟩
        have Hq := Lib.hid hq
        clear ha hd hb hq
        by_cases h60 : q ≤ 60
        · go_enter Try.func67, Try.ntmps67
          go_wp2_with fail
          refine (areWithin_d true _ ds 1 60 _ hI (by omega) Ha.out).mono ?_
          rintro e w1 ⟨rfl, hb⟩
          go_wp2_with fail
          refine (unitsOf_c _ ds _ (hI.later hb) (by omega) Hd.out).mono ?_
          rintro e w2 ⟨he, hb2⟩
          rw [Hq.out] at he
          subst he
          go_wp2
          go_ret
          exact ⟨ret_bool (by rw [Hv.out, Hq.out, decide_eq_true h60]), hb.trans (hb2.mono hb.size)⟩
        · go_enter Try.func67, Try.ntmps67
          go_wp2_with fail
          refine (areWithin_d true _ ds 1 60 _ hI (by omega) Ha.out).mono ?_
          rintro e w1 ⟨rfl, hb⟩
          go_wp2_with fail
          refine (unitsOf_c _ ds _ (hI.later hb) (by omega) Hd.out).mono ?_
          rintro e w2 ⟨he, hb2⟩
          rw [Hq.out] at he
          subst he
          go_wp2
          go_ret
          exact ⟨ret_bool (by rw [Hv.out, Hq.out]), hb.trans (hb2.mono hb.size)⟩

end Go.Proofs.Ytnhdfpmjebfjmaa
