/-
  What is a state, in the program; StepState of the program.
  Conditions: lists of at most 1048576 elements.
-/
import Derived.Test.YthggpmgjgibcoaaStepI
namespace Go.Proofs.Ythggpmgjgibcoaa
open Go.RowKit Go.Shelf
attribute [local go_sem] Oper.semAt_some

set_option maxRecDepth 100000 in
set_option maxHeartbeats 8000000 in
theorem checkStateFor_c (c0 : Value) (zs : List Int) (c1 : Value) (st : List Int) (w : World) (hI : Ints w.heap.size w c0 zs) (hm : zs.length ≤ 1048576) (hT : Ints w.heap.size w c1 st) (_hm1 : st.length ≤ 1048576) :
    Calls Try.prog 124 #[.agg #[c0], c1] w fun e w' => e = .returned (.int .i64 (stCode zs st)) ∧ Below w.heap.size w w' := by
  obtain ⟨a, cap, rfl⟩ := hI.shape
  obtain ⟨a2, cap2, rfl⟩ := hT.shape
  refine (callsIn_wide (n := 9)).1 ?_
  obtain ⟨w0, hw0⟩ : ∃ w0, (w.alloc (.cells #[.slice a zs.length cap] 26)).alloc (.cells #[.int .i64 0] 2) = w0 := ⟨_, rfl⟩
  have hB0 : Below w.heap.size w w0 := by rw [← hw0]; exact ((Below.refl _ w).alloc (Nat.le_refl _) _).alloc (by simp) _
  have bT : Boxed w0 w.heap.size 26 (.slice a zs.length cap) := by rw [← hw0]; exact (Boxed.new w _ _).alloc _
  have bR : Boxed w0 (w.heap.size + 1) 2 (.int .i64 0) := by rw [← hw0]; repeat first | (refine boxed_at ?_; (simp; done)) | refine Boxed.alloc ?_ _
  have kT0 := bT.cell
  cases h1 : tasksOk zs
  · have Hc := Lib.hid (show stCode zs st = 1 by unfold stCode; rw [h1]; rfl)
    have H1 := Lib.hid h1
    clear h1
    refine callsIn_of_wp_marks Try.func124 rfl trivial ?_ rfl
    simp only [Try.ntmps124, List.size_toArray, List.length_cons, List.length_nil, Nat.reduceAdd, Nat.reduceSub, Array.replicate_succ, Array.replicate_zero, List.push_toArray, List.append_toArray, List.nil_append, List.cons_append]
    gi_wp2_with fail
    refine ⟨trivial, (callsIn_wide.2 (isTasks_c _ zs _ (hI.later hB0) (by omega))).mono ?_⟩
    rintro e w1 ⟨he, hb⟩
    rw [H1.out] at he
    subst he
    replace bR := boxed_later bR hb
    have cR := bR.cell
    have fR := bR.frozen
    have hB1 := hB0.trans (hb.mono hB0.size)
    gi_wp2
    have cR2 := (bR.set (.int .i64 1)).cell
    exact retM0 ⟨_, by simp [results, Try.f124, go_sem, cR2], ret_int Hc.out.symm, hB1.setCell (p := ⟨w.heap.size + 1, 0, none⟩) (by simp) _⟩
  · by_cases hlen : st.length = zs.length
    · have hcc : stCode zs st = if stOk zs st then 0 else 2 := by unfold stCode; rw [h1]; rfl
      have Hcc := Lib.hid hcc
      have H1 := Lib.hid h1
      have Hl := Lib.hid hlen
      have hl1 : st.length ≤ zs.length := by omega
      have hl2 : zs.length ≤ st.length := by omega
      have hl8 := tasksOk_len h1
      have hq : ((st.length : Int) != (zs.length : Int)) = false := by simp; omega
      clear h1 hcc hlen
      refine callsIn_of_wp_marks Try.func124 rfl trivial ?_ rfl
      simp only [Try.ntmps124, List.size_toArray, List.length_cons, List.length_nil, Nat.reduceAdd, Nat.reduceSub, Array.replicate_succ, Array.replicate_zero, List.push_toArray, List.append_toArray, List.nil_append, List.cons_append]
      gi_wp2_with fail
      refine ⟨trivial, (callsIn_wide.2 (isTasks_c _ zs _ (hI.later hB0) (by omega))).mono ?_⟩
      rintro e w1 ⟨he, hb⟩
      rw [H1.out] at he
      subst he
      replace bT := boxed_later bT hb
      replace bR := boxed_later bR hb
      have kT := bT.cell
      have hB1 := hB0.trans (hb.mono hB0.size)
      have s1 := bT.lt
      have s2 := bR.lt
      clear hb hB0 hw0 kT0
      gi_wp2_with (first | (gi_at_call 86; refine (callsIn_wide.2 (numbered_c _ _ _ _)).mono ?_; rintro e w' ⟨rfl, rfl⟩) | (refine ⟨trivial, ?_⟩; gi_at_call 86; refine (callsIn_wide.2 (numbered_c _ _ _ _)).mono ?_; rintro e w' ⟨rfl, rfl⟩))
      obtain ⟨W0, hW2⟩ : ∃ W0, (w1.alloc (.cells #[.slice a2 st.length cap2] 24)) = W0 := ⟨_, rfl⟩
      have hB2 : Below w1.heap.size w1 W0 := by rw [← hW2]; exact ((Below.refl _ w1).alloc (Nat.le_refl _) _)
      have hs2 : w1.heap.size + 1 ≤ W0.heap.size := by rw [← hW2]; simp
      have bN : Boxed W0 (w1.heap.size) 24 (.slice a2 st.length cap2) := by rw [← hW2]; repeat first | (refine boxed_at ?_; (simp; done)) | refine Boxed.alloc ?_ _
      rw [hW2]
      clear hW2
      replace bT := boxed_later bT hB2
      replace bR := boxed_later bR hB2
      have hB3 := hB1.trans (hB2.mono hB1.size)
      refine range_outA rfl (by omega) rfl trivial (enters_of Try.func160 (by kernel_rfl) rfl) (numbered_at Fence.wide 8 trivial rfl (by omega) _ w.heap.size _ st (by omega) W0 bN (by omega) (hT.below hB3)) (fun b hb => by omega) (fun _ => rfl)
        (fun k W => (∀ j, j < k → inB (nth st j) 1 (nth zs j) = true) ∧ Boxed W w.heap.size 26 (.slice a zs.length cap) ∧ Boxed W (w.heap.size + 1) 2 (.int .i64 0) ∧ Below w.heap.size w W)
        (fun c _ W => (c = .ret ∧ stOk zs st = false) ∧ Boxed W (w.heap.size + 1) 2 (.int .i64 2) ∧ Below w.heap.size w W)
        (by repeat' (first | exact ownFrom_pure _ _ | exact Own.from (boxed_own _ _ _) _ | exact Own.from (ownI_Own _ _ _) _ | exact Own.from (ownB_Own _ _ _) _ | exact ownFrom_below (Nat.le_refl _) (by omega) | exact ownFrom_kps (by omega) | apply OwnFrom.and))
        (fun c => (by repeat' (first | exact ownFrom_pure _ _ | exact Own.from (boxed_own _ _ _) _ | exact Own.from (ownI_Own _ _ _) _ | exact Own.from (ownB_Own _ _ _) _ | exact ownFrom_below (Nat.le_refl _) (by omega) | exact ownFrom_kps (by omega) | apply OwnFrom.and)))
        ⟨by simp, bT, bR, hB3⟩ ?a1 ?assign ?body ?done ?stop
      case assign =>
        intro l k W K hk hK
        simp only [numAt]
        gi_wp2
        exact hK
      case body =>
        rintro l k W hl hr ⟨hall, bT1, bR1, hB⟩ hlt hs
        have hnb : ¬ Band (fun b => b < w.heap.size) W0.heap.size (W0.heap.size + 2 + 0) (w.heap.size + 1) := not_band (by omega) (by omega)
        have kT := bT1.cell
        have kR := bR1.cell
        have fR := bR1.frozen
        obtain ⟨b, off, rfl, hb, hc⟩ := (hI.below hB).at_ (k := k) (by omega)
        have hcx := hc k (by omega)
        have hk0 : (k : Int) < (zs.length : Int) := by omega
        clear hc bN
        by_cases h1 : nth st k < 1
        · have Hf := Lib.hid (stOk_no (zs := zs) (st := st) (k := k) (by omega) (inB_false.2 (by omega)))
          gi_wp2
          exact ⟨Kps.setCell _ _ _ _ hnb, ⟨rfl, Hf.out⟩, bR1.set _, hB.setCell (p := ⟨w.heap.size + 1, 0, none⟩) (by simp) _⟩
        · by_cases h2 : nth zs k < nth st k
          · have Hf := Lib.hid (stOk_no (zs := zs) (st := st) (k := k) (by omega) (inB_false.2 (by omega)))
            gi_wp2
            exact ⟨Kps.setCell _ _ _ _ hnb, ⟨rfl, Hf.out⟩, bR1.set _, hB.setCell (p := ⟨w.heap.size + 1, 0, none⟩) (by simp) _⟩
          · have he : inB (nth st k) 1 (nth zs k) = true := inB_true.2 (by omega)
            have He := Lib.hid he
            clear he
            gi_wp2
            exact ⟨Kps.refl _ _, fun j hj => by by_cases e : j = k; exact e ▸ He.out; exact hall j (by omega), bT1, bR1, hB⟩
      case done =>
        rintro D W hD ⟨hall, bT1, bR1, hB⟩ hK
        have kR := bR1.cell
        have fR := bR1.frozen
        have hc : stCode zs st = 0 := by rw [Hcc.out, stOk_yes Hl.out (fun j hj => hall j (by omega))]; rfl
        have Hc := Lib.hid hc
        clear hc hall
        gi_wp2
        have hK' := (KeepsOthers.setCell W ⟨w.heap.size + 1, 0, none⟩ (.int .i64 0)).same D _ hK rfl
        have cR2 := (boxed_shut (bR1.set (.int .i64 0)) hK').cell
        exact retM1 hK' ⟨_, by simp [results, Try.f124, go_sem, cR2], ret_int Hc.out.symm, below_shut (hB.setCell (p := ⟨w.heap.size + 1, 0, none⟩) (by simp) _) (by omega)⟩
      case stop =>
        rintro D c k W hD hk ⟨⟨rfl, hf⟩, bR1, hB⟩ hK
        have hc : stCode zs st = 2 := by rw [Hcc.out, hf]; rfl
        have Hc := Lib.hid hc
        clear hc hf
        gi_wp2
        have cR2 := (boxed_shut bR1 hK).cell
        exact retM1 hK ⟨_, by simp [results, Try.f124, go_sem, cR2], ret_int Hc.out.symm, below_shut hB (by omega)⟩
    · have hf : stOk zs st = false := by unfold stOk; rw [decide_eq_false hlen]; rfl
      have Hc := Lib.hid (show stCode zs st = 2 by unfold stCode; rw [h1, hf]; rfl)
      have H1 := Lib.hid h1
      have hq : ((st.length : Int) != (zs.length : Int)) = true := by simp; omega
      clear h1 hf
      refine callsIn_of_wp_marks Try.func124 rfl trivial ?_ rfl
      simp only [Try.ntmps124, List.size_toArray, List.length_cons, List.length_nil, Nat.reduceAdd, Nat.reduceSub, Array.replicate_succ, Array.replicate_zero, List.push_toArray, List.append_toArray, List.nil_append, List.cons_append]
      gi_wp2_with fail
      refine ⟨trivial, (callsIn_wide.2 (isTasks_c _ zs _ (hI.later hB0) (by omega))).mono ?_⟩
      rintro e w1 ⟨he, hb⟩
      rw [H1.out] at he
      subst he
      replace bT := boxed_later bT hb
      have kT := bT.cell
      replace bR := boxed_later bR hb
      have cR := bR.cell
      have fR := bR.frozen
      have hB1 := hB0.trans (hb.mono hB0.size)
      gi_wp2
      have cR2 := (bR.set (.int .i64 2)).cell
      exact retM0 ⟨_, by simp [results, Try.f124, go_sem, cR2], ret_int Hc.out.symm, hB1.setCell (p := ⟨w.heap.size + 1, 0, none⟩) (by simp) _⟩

set_option maxRecDepth 100000 in
set_option maxHeartbeats 8000000 in
theorem i_StepState (c0 : Value) (zs : List Int) (c1 : Value) (st : List Int) (x : Int) (w : World) (hI : Ints w.heap.size w c0 zs) (_hN : I64s zs) (hm : zs.length ≤ 1048576) (hT : Ints w.heap.size w c1 st) (_hN1 : I64s st) (hm1 : st.length ≤ 1048576) (_hx : I64 x) :
    Calls Try.prog 51 #[.agg #[c0], c1, .int .i64 x] w (GivesI w (stepR zs st x) fun v => .tuple #[v, .int .i64 (stepC zs st x)]) := by
  obtain ⟨a, cap, rfl⟩ := hI.shape
  obtain ⟨a2, cap2, rfl⟩ := hT.shape
  have hB0 : Below w.heap.size w (w.alloc (.cells #[.slice a zs.length cap] 26)) := (Below.refl _ w).alloc (Nat.le_refl _) _
  have hp := stCode_bd zs st
  by_cases h0 : stCode zs st = 0
  · obtain ⟨ht, hs⟩ := stCode_zero h0
    have H0 := Lib.hid h0
    cases hi : inB x (-1) (zs.length - 1)
    · have hc : stepC zs st x = 2 := by unfold stepC; rw [if_pos h0, hi]; rfl
      have hr : stepR zs st x = [] := by unfold stepR; rw [if_neg (by omega)]
      have Hc := Lib.hid hc
      have Hr := Lib.hid hr
      have Hi := Lib.hid hi
      clear hc hr hi h0
      go_enter Try.func51, Try.ntmps51
      go_wp2_with fail
      refine (checkStateFor_c _ zs _ st _ (hI.later hB0) hm (hT.later hB0) hm1).mono ?_
      rintro e w1 ⟨he, hb⟩
      rw [H0.out] at he
      subst he
      have b1 : Boxed w1 w.heap.size 26 (.slice a zs.length cap) := boxed_later (Boxed.new _ _ _) hb
      have k1 := b1.cell
      have hB1 := hB0.trans (hb.mono (by simp))
      go_wp2_with fail
      refine (isChoiceFor_c _ zs x _ (hI.later hB1) hm).mono ?_
      rintro e w2 ⟨he, hb2⟩
      rw [Hi.out] at he
      subst he
      go_wp2
      go_ret2
      exact ⟨_, ret_v2 Hc.out.symm, by rw [Hr.out]; exact ownI_nil _ _, hB1.trans (hb2.mono hB1.size)⟩
    · have hcc : stepC zs st x = if Opn st x then 0 else 4 := by unfold stepC; rw [if_pos h0, hi]; rfl
      have Hcc := Lib.hid hcc
      have Hi := Lib.hid hi
      clear hcc hi h0
      go_enter Try.func51, Try.ntmps51
      go_wp2_with fail
      refine (checkStateFor_c _ zs _ st _ (hI.later hB0) hm (hT.later hB0) hm1).mono ?_
      rintro e w1 ⟨he, hb⟩
      rw [H0.out] at he
      subst he
      have b1 : Boxed w1 w.heap.size 26 (.slice a zs.length cap) := boxed_later (Boxed.new _ _ _) hb
      have k1 := b1.cell
      have hB1 := hB0.trans (hb.mono (by simp))
      go_wp2_with fail
      refine (isChoiceFor_c _ zs x _ (hI.later hB1) hm).mono ?_
      rintro e w2 ⟨he, hb2⟩
      rw [Hi.out] at he
      subst he
      replace b1 := boxed_later b1 hb2
      have k2 := b1.cell
      have hB2 := hB1.trans (hb2.mono hB1.size)
      go_wp2_with fail
      refine (outlookOf_c _ zs _ (hI.later hB2) ht).mono ?_
      rintro e w3 ⟨bO, m, rfl, hO, hM, hbo, hbm, hb3⟩
      have hB3 := hB2.trans (hb3.mono hB2.size)
      replace b1 := boxed_later b1 hb3
      have k3 := b1.cell
      have hl8 := tasksOk_len ht
      have hbd : ∀ k, k < st.length → 0 ≤ nth st k ∧ nth st k ≤ 255 := fun k hk => by have h1 := hs.2 k (by rw [← hs.1]; exact hk); have h2 := tasksOk_nth ht (k := k) (by rw [← hs.1]; exact hk); omega
      have hsl : st.length ≤ 8 := by rw [hs.1]; omega
      go_wp2_with fail
      refine (taskStateOf_c _ st _ (hT.later hB3) hsl hbd).mono ?_
      rintro e w4 ⟨rfl, hb4⟩
      have hB4 := hB3.trans (hb4.mono hB3.size)
      replace b1 := boxed_later b1 hb4
      have k4 := b1.cell
      replace hO := hO.later hb4
      go_wp2_with fail
      refine (step_c bO m zs st x _ hO ht hs).mono ?_
      rintro e w5 ⟨⟨hop, rfl⟩ | ⟨hop, rfl⟩, hb5⟩
      · have hc : stepC zs st x = 0 := by rw [Hcc.out, if_pos hop]
        have Hr := Lib.hid (show stepR zs st x = stepL zs st x by unfold stepR; rw [if_pos hc])
        have Hc := Lib.hid hc
        have hB5 := hB4.trans (hb5.mono hB4.size)
        replace b1 := boxed_later b1 hb5
        have hss := hs.step hop
        clear hc hop
        obtain ⟨ys, hys⟩ : ∃ ys, stepL zs st x = ys := ⟨_, rfl⟩
        rw [hys] at hss Hr ⊢
        simp only [arrV, cells8]
        have hbd2 : ∀ k, k < ys.length → 0 ≤ nth ys k ∧ nth ys k ≤ 255 := fun k hk => by have h1 := hss.2 k (by rw [← hss.1]; exact hk); have h2 := tasksOk_nth ht (k := k) (by rw [← hss.1]; exact hk); omega
        have k6 := (b1.alloc (.cells #[.int .u8 (nth ys 0), .int .u8 (nth ys 1), .int .u8 (nth ys 2), .int .u8 (nth ys 3), .int .u8 (nth ys 4), .int .u8 (nth ys 5), .int .u8 (nth ys 6), .int .u8 (nth ys 7)] 115)).cell
        have hB6 : Below w.heap.size w (w5.alloc (.cells #[.int .u8 (nth ys 0), .int .u8 (nth ys 1), .int .u8 (nth ys 2), .int .u8 (nth ys 3), .int .u8 (nth ys 4), .int .u8 (nth ys 5), .int .u8 (nth ys 6), .int .u8 (nth ys 7)] 115)) := hB5.alloc hB5.size _
        go_wp2_with fail
        refine (numbers_c ys _ _ (by rw [hss.1]) (by rw [hss.1]; omega) (by rw [hss.1]; omega) hbd2).mono ?_
        rintro e w6 ⟨v, rfl, ho, hb6⟩
        have hov : ∃ a3 c3, v = .slice a3 ys.length c3 := ho.ints.shape
        obtain ⟨a3, c3, rfl⟩ := hov
        try simp only [id]
        go_wp2
        go_ret2
        exact ⟨_, ret_v2 Hc.out.symm, by rw [Hr.out]; exact ho.base hB6.size, hB6.trans (hb6.mono hB6.size)⟩
      · have hc : stepC zs st x = 4 := by rw [Hcc.out, if_neg hop]
        have Hr := Lib.hid (show stepR zs st x = [] by unfold stepR; rw [if_neg (by omega)])
        have Hc := Lib.hid hc
        clear hc hop
        simp only [arrV, cells8]
        have hB5 := hB4.trans (hb5.mono hB4.size)
        go_wp2
        go_ret2
        exact ⟨_, ret_v2 Hc.out.symm, by rw [Hr.out]; exact ownI_nil _ _, hB5.alloc hB5.size _⟩
  · have hc : stepC zs st x = stCode zs st := by unfold stepC; rw [if_neg h0]
    have hr : stepR zs st x = [] := by unfold stepR; rw [if_neg (by omega)]
    have Hc := Lib.hid hc
    have Hr := Lib.hid hr
    have hq : ((stCode zs st) != 0) = true := by simpa using h0
    clear hc hr h0
    go_enter Try.func51, Try.ntmps51
    go_wp2_with fail
    refine (checkStateFor_c _ zs _ st _ (hI.later hB0) hm (hT.later hB0) hm1).mono ?_
    rintro e w1 ⟨rfl, hb⟩
    go_wp2
    go_ret2
    exact ⟨_, ret_v2 Hc.out.symm, by rw [Hr.out]; exact ownI_nil _ _, hB0.trans (hb.mono (by simp))⟩

end Go.Proofs.Ythggpmgjgibcoaa
