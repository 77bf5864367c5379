/-
  Those who wait, the program: slices.Index, haveTurns, waitFor, checkWaiting, checkComing.
  Conditions: lists of at most 1048576 elements.
-/
import Derived.Test.YtgndbifcncklgaaWas
import Derived.Test.YtgndbifcncklgaaLev
import Derived.Test.YtgndbifcncklgaaGrI
namespace Go.Proofs.Ytgndbifcncklgaa
open Go.RowKit Go.Shelf
attribute [local go_sem] Oper.semAt_some

set_option maxRecDepth 100000 in
set_option maxHeartbeats 4000000 in
theorem sIdx_c (sv : Value) (xs : List Int) (v : Int) (w : World) (hI : Ints w.heap.size w sv xs) (hl : xs.length ≤ 1048576) :
    Calls Try.prog 105 #[sv, .int .i64 v] w fun e w' => e = .returned (.int .i64 (ixI xs v)) ∧ w = w' := by
  obtain ⟨a, cap, rfl⟩ := hI.shape
  go_enter Try.func105, Try.ntmps105
  go_wp2_with fail
  go_loop [8] (fun i => ∃ k : Nat, k ≤ xs.length ∧ i = .int .i64 k ∧ ∀ j, j < k → nth xs j ≠ v) (fun i => xs.length - (intOf i).toNat)
  case atStart => exact ⟨0, Nat.zero_le _, rfl, by simp⟩
  case round =>
    obtain ⟨k, hk, rfl, hall⟩ := hrel
    have Hall := Lib.hid hall
    clear hall
    by_cases hlt : k < xs.length
    · obtain ⟨b, off, rfl, hb, hc⟩ := hI.at_ hlt
      have hcx := hc k hlt
      clear hc
      by_cases he : v = nth xs k
      · have hq : (v == nth xs k) = true := by rw [beq_iff_eq]; exact he
        have He := Lib.hid (idx_at hlt he.symm Hall.out)
        clear he
        go_wp2
        go_ret
        exact ⟨ret_int (by unfold ixI; rw [He.out, if_pos hlt]), rfl⟩
      · have hq : (v == nth xs k) = false := by rw [beq_eq_false_iff_ne]; exact he
        have He := Lib.hid he
        clear he
        go_wp2
        go_round
        case rel => exact ⟨k + 1, by omega, by simp, fun j hj => by by_cases e : j = k; exact e ▸ fun e' => He.out e'.symm; exact Hall.out j (by omega)⟩
        case measure => simp [intOf]; omega
    · obtain rfl : k = xs.length := by omega
      have He := Lib.hid (idx_none Hall.out)
      go_wp2
      go_ret
      exact ⟨ret_int (by unfold ixI; rw [He.out, if_neg (by omega)]), rfl⟩

set_option maxRecDepth 100000 in
set_option maxHeartbeats 4000000 in
theorem haveTurns_c (sv tv : Value) (ts is : List Int) (w : World) (hI : Ints w.heap.size w sv ts) (hT : Ints w.heap.size w tv is) (hl : ts.length ≤ 1048576) (hm : is.length ≤ 1048576) :
    Calls Try.prog 110 #[sv, tv] w fun e w' => e = .returned (.bool (hasAll ts is)) ∧ Below w.heap.size w w' := by
  obtain ⟨a, cap, rfl⟩ := hI.shape
  obtain ⟨a2, cap2, rfl⟩ := hT.shape
  refine (callsIn_wide (n := 9)).1 ?_
  refine callsIn_of_wp_marks Try.func110 rfl trivial ?_ rfl
  simp only [Try.ntmps110, List.size_toArray, List.length_cons, List.length_nil, Nat.reduceAdd, Nat.reduceSub, Array.replicate_succ, Array.replicate_zero, List.push_toArray, List.append_toArray, List.nil_append, List.cons_append]
  gi_wp2_with (first | (gi_at_call 87; refine (callsIn_wide.2 (numbered_c _ _ _ _)).mono ?_; rintro e w' ⟨rfl, rfl⟩) | (refine ⟨trivial, ?_⟩; gi_at_call 87; refine (callsIn_wide.2 (numbered_c _ _ _ _)).mono ?_; rintro e w' ⟨rfl, rfl⟩))
  obtain ⟨W0, hW0⟩ : ∃ W0, (((w.alloc (.cells #[.slice a ts.length cap] 24)).alloc (.cells #[.bool false] 4)).alloc (.cells #[.slice a2 is.length cap2] 24)) = W0 := ⟨_, rfl⟩
  have hB0 : Below w.heap.size w W0 := by rw [← hW0]; exact ((((Below.refl _ w).alloc (Nat.le_refl _) _).alloc (by simp; try omega) _).alloc (by simp; try omega) _)
  have hs0 : w.heap.size + 3 ≤ W0.heap.size := by rw [← hW0]; simp
  have bT : Boxed W0 (w.heap.size) 24 (.slice a ts.length cap) := by rw [← hW0]; repeat first | (refine boxed_at ?_; (simp; done)) | refine Boxed.alloc ?_ _
  have bR : Boxed W0 (w.heap.size + 1) 4 (.bool false) := by rw [← hW0]; repeat first | (refine boxed_at ?_; (simp; done)) | refine Boxed.alloc ?_ _
  have bN : Boxed W0 (w.heap.size + 1 + 1) 24 (.slice a2 is.length cap2) := by rw [← hW0]; repeat first | (refine boxed_at ?_; (simp; done)) | refine Boxed.alloc ?_ _
  rw [hW0]
  clear hW0
  refine range_outA rfl (by omega) rfl trivial (enters_of Try.func124 (by kernel_rfl) rfl) (numbered_at Fence.wide 8 trivial rfl (by omega) _ w.heap.size _ is (by omega) W0 bN (by omega) (hT.below hB0)) (fun b hb => by omega) (fun _ => rfl)
    (fun k W => ((∀ j, j < k → ts.contains (nth is j) = true) ∧ Boxed W w.heap.size 24 (.slice a ts.length cap) ∧ Boxed W (w.heap.size + 1) 4 (.bool false)) ∧ Below w.heap.size w W)
    (fun c k W => (c = .ret ∧ hasAll ts is = false ∧ Boxed W (w.heap.size + 1) 4 (.bool false)) ∧ Below w.heap.size w W)
    (OwnFrom.and (OwnFrom.and (ownFrom_pure _ _) (OwnFrom.and (Own.from (boxed_own _ _ _) _) (Own.from (boxed_own _ _ _) _))) (ownFrom_below (Nat.le_refl _) (by omega)))
    (fun c => OwnFrom.and (OwnFrom.and (ownFrom_pure _ _) (OwnFrom.and (ownFrom_pure _ _) (Own.from (boxed_own _ _ _) _))) (ownFrom_below (Nat.le_refl _) (by omega)))
    ⟨⟨by simp, bT, bR⟩, hB0⟩ ?a1 ?assign ?body ?done ?stop
  case assign =>
    intro l k W K hk hK
    simp only [numAt]
    gi_wp2
    exact hK
  case body =>
    rintro l k W hl' hr ⟨⟨hall, bT1, bR1⟩, hB⟩ hlt hs
    have hnb : ¬ Band (fun b => b < w.heap.size) W0.heap.size (W0.heap.size + 2 + 0) (w.heap.size + 1) := not_band (by omega) (by omega)
    have cT := bT1.cell
    have cR := bR1.cell
    have fR := bR1.frozen
    have Hall := Lib.hid hall
    clear hall
    cases hck : ts.contains (nth is k)
    · have Hk := Lib.hid hck
      have Hf := Lib.hid (hasAll_no hlt hck)
      clear hck
      gi_wp2_with fail
      refine ⟨trivial, (callsIn_wide.2 (sContains_c _ ts (nth is k) _ (hI.later hB) hl)).mono ?_⟩
      rintro e w' ⟨he, rfl⟩
      rw [Hk.out] at he
      subst he
      gi_wp2
      exact ⟨Kps.setCell _ _ _ _ hnb, ⟨rfl, Hf.out, bR1.set _⟩, hB.setCell (p := ⟨w.heap.size + 1, 0, none⟩) (by simp) _⟩
    · have Hk := Lib.hid hck
      clear hck
      gi_wp2_with fail
      refine ⟨trivial, (callsIn_wide.2 (sContains_c _ ts (nth is k) _ (hI.later hB) hl)).mono ?_⟩
      rintro e w' ⟨he, rfl⟩
      rw [Hk.out] at he
      subst he
      gi_wp2
      exact ⟨Kps.refl _ _, ⟨fun j hj => by by_cases e : j = k; (subst e; exact Hk.out); exact Hall.out j (by omega), bT1, bR1⟩, hB⟩
  case done =>
    rintro D W hD ⟨⟨hall, bT1, bR1⟩, hB1⟩ hK
    have cR := bR1.cell
    have fR := bR1.frozen
    have Hf := Lib.hid (hasAll_yes hall)
    clear hall
    gi_wp2
    have hK' := (KeepsOthers.setCell W ⟨w.heap.size + 1, 0, none⟩ (.bool true)).same D _ hK rfl
    have cR2 := (boxed_shut (bR1.set (.bool true)) hK').cell
    exact retM1 hK' ⟨.bool true, by simp [results, Try.f110, go_sem, cR2], ret_bool Hf.out.symm, below_shut (hB1.setCell (p := ⟨w.heap.size + 1, 0, none⟩) (by simp) _) (by omega)⟩
  case stop =>
    rintro D c k W hD hk ⟨⟨rfl, hp, bR1⟩, hB1⟩ hK
    have Hp := Lib.hid hp
    clear hp
    gi_wp2
    have cR2 := (boxed_shut bR1 hK).cell
    exact retM1 hK ⟨.bool false, by simp [results, Try.f110, go_sem, cR2], ret_bool Hp.out.symm, below_shut hB1 (by omega)⟩

set_option maxRecDepth 100000 in
set_option maxHeartbeats 4000000 in
theorem waitFor_c (sv tv : Value) (xs is : List Int) (w : World) (hI : Ints w.heap.size w sv xs) (hT : Ints w.heap.size w tv is) (h0 : 0 < xs.length) (hl : xs.length ≤ 1048576) (hm : is.length ≤ 1048576) :
    Calls Try.prog 62 #[sv, tv] w fun e w' => e = .returned (.int .i64 (waTo xs is is.length : Nat)) ∧ Below w.heap.size w w' := by
  obtain ⟨a, cap, rfl⟩ := hI.shape
  obtain ⟨a2, cap2, rfl⟩ := hT.shape
  refine (callsIn_wide (n := 9)).1 ?_
  refine callsIn_of_wp_marks Try.func62 rfl trivial ?_ rfl
  simp only [Try.ntmps62, List.size_toArray, List.length_cons, List.length_nil, Nat.reduceAdd, Nat.reduceSub, Array.replicate_succ, Array.replicate_zero, List.push_toArray, List.append_toArray, List.nil_append, List.cons_append]
  gi_wp2_with (first | (gi_at_call 87; refine (callsIn_wide.2 (numbered_c _ _ _ _)).mono ?_; rintro e w' ⟨rfl, rfl⟩) | (refine ⟨trivial, ?_⟩; gi_at_call 87; refine (callsIn_wide.2 (numbered_c _ _ _ _)).mono ?_; rintro e w' ⟨rfl, rfl⟩))
  obtain ⟨W0, hW0⟩ : ∃ W0, (((w.alloc (.cells #[.slice a xs.length cap] 24)).alloc (.cells #[.int .i64 0] 3)).alloc (.cells #[.slice a2 is.length cap2] 24)) = W0 := ⟨_, rfl⟩
  have hB0 : Below w.heap.size w W0 := by rw [← hW0]; exact ((((Below.refl _ w).alloc (Nat.le_refl _) _).alloc (by simp; try omega) _).alloc (by simp; try omega) _)
  have hs0 : w.heap.size + 3 ≤ W0.heap.size := by rw [← hW0]; simp
  have bT : Boxed W0 (w.heap.size) 24 (.slice a xs.length cap) := by rw [← hW0]; repeat first | (refine boxed_at ?_; (simp; done)) | refine Boxed.alloc ?_ _
  have bW : Boxed W0 (w.heap.size + 1) 3 (.int .i64 0) := by rw [← hW0]; repeat first | (refine boxed_at ?_; (simp; done)) | refine Boxed.alloc ?_ _
  have bN : Boxed W0 (w.heap.size + 1 + 1) 24 (.slice a2 is.length cap2) := by rw [← hW0]; repeat first | (refine boxed_at ?_; (simp; done)) | refine Boxed.alloc ?_ _
  rw [hW0]
  clear hW0
  refine range_outA rfl (by omega) rfl trivial (enters_of Try.func124 (by kernel_rfl) rfl) (numbered_at Fence.wide 8 trivial rfl (by omega) _ w.heap.size _ is (by omega) W0 bN (by omega) (hT.below hB0)) (fun b hb => by omega) (fun _ => rfl)
    (fun k W => (Boxed W w.heap.size 24 (.slice a xs.length cap) ∧ Boxed W (w.heap.size + 1) 3 (.int .i64 (waTo xs is k : Nat))) ∧ Below w.heap.size w W)
    (fun _ _ _ => False)
    (OwnFrom.and (OwnFrom.and (Own.from (boxed_own _ _ _) _) (Own.from (boxed_own _ _ _) _)) (ownFrom_below (Nat.le_refl _) (by omega)))
    (fun _ _ _ _ _ hs _ _ => hs)
    ⟨⟨bT, bW⟩, hB0⟩ ?a1 ?assign ?body ?done ?stop
  case assign =>
    intro l k W K hk hK
    simp only [numAt]
    gi_wp2
    exact hK
  case body =>
    rintro l k W hl' hr ⟨⟨bT1, bW1⟩, hB⟩ hlt hs
    have hnb : ¬ Band (fun b => b < w.heap.size) W0.heap.size (W0.heap.size + 2 + 0) (w.heap.size + 1) := not_band (by omega) (by omega)
    have cT := bT1.cell
    have hx := waTo_lt is h0 k
    have hi := ixI_bd xs (nth is k)
    have Hs := Lib.hid (show waTo xs is (k + 1) = max (waTo xs is k) (ixI xs (nth is k)).toNat from rfl)
    obtain ⟨p, hp⟩ : ∃ p, waTo xs is k = p := ⟨_, rfl⟩
    obtain ⟨q, hq⟩ : ∃ q, ixI xs (nth is k) = q := ⟨_, rfl⟩
    have Hp := Lib.hid hp
    have Hq := Lib.hid hq
    rw [hp] at hx bW1
    rw [hq] at hi
    clear hp hq
    have cW := bW1.cell
    have fW := bW1.frozen
    have hfw : Try.prog.follows Departure.mixedOrders = true := by kernel_rfl
    obtain ⟨m, hm⟩ : ∃ m, max p q.toNat = m := ⟨_, rfl⟩
    have Hm := Lib.hid hm
    have hmi : (if (p : Int) < q then q else (p : Int)) = (m : Int) := by rw [← hm]; split <;> omega
    clear hm
    gi_wp2_with fail
    refine wpIn_region_held (S := fun w' => Boxed w' w.heap.size 24 (.slice a xs.length cap) ∧ True) hfw (by kernel_rfl) (fun ⟨_, _, h⟩ => h) ⟨bT1, trivial⟩ ?_
    intro hS0
    refine wpAnyH_take (i := 1) (v := ?vr11) rfl (by kernel_rfl) (by kernel_rfl) (by kernel_rfl) (fun _ _ _ h => h) (.inl ⟨by first | kernel_rfl | rfl, ?yr11⟩) hS0 ?_
    case yr11 =>
      intro w' hS
      (have k1 := hS.1.cell; clear hS)
      go_simp
      try with_reducible rfl
    refine wpAnyH_take (i := 2) (v := ?vr12) rfl (by kernel_rfl) (by kernel_rfl) (by kernel_rfl) (fun _ _ _ h => h) (.inl ⟨by first | kernel_rfl | rfl, ?yr12⟩) hS0 ?_
    case yr12 =>
      intro w' hS
      (have k1 := hS.1.cell; clear hS)
      go_simp
      try with_reducible rfl
    try simp only [Act.put, List.getElem_toArray, List.getElem_cons_zero, List.getElem_cons_succ, List.setIfInBounds_toArray, List.set_cons_zero, List.set_cons_succ]
    refine wpAnyH_ready (rs := [0, 3]) (by kernel_rfl) (by simp) ?_
    refine AllReadyH.cons rfl (fun K' hK' => ?_) (AllReadyH.cons rfl (fun K' hK' => ?_) AllReadyH.nil)
    all_goals rw [if_pos (by first | kernel_rfl | rfl)]
    · skip
      go_simp
      refine hK'.out _ _ hS0 fun _ => ?_
      clear hK'
      refine wpAnyH_ready (rs := [3]) (by kernel_rfl) (by simp) ?_
      refine AllReadyH.cons rfl (fun K' hK' => ?_) AllReadyH.nil
      rw [if_pos (by first | kernel_rfl | rfl)]
      go_simp
      refine (sIdx_c _ xs (nth is k) _ (show Ints W.drew.heap.size W.drew _ _ from (hI.later hB.drew)) hl).mono ?_
      rintro e w' ⟨he, rfl⟩
      rw [Hq.out] at he
      subst he
      refine hK'.out _ _ hS0 fun _ => ?_
      clear hK'
      refine wpAnyH_take (i := 4) (v := (.int .i64 (m : Int))) rfl (by kernel_rfl) (by kernel_rfl) (by kernel_rfl) (fun _ _ _ h => h) (.inl ⟨by first | kernel_rfl | rfl, ?yr24⟩) hS0 ?_
      case yr24 =>
        intro w' hS
        (clear hS)
        go_simp
        first | done | (simp; done) | (simp; omega) | omega | (simp [*]; done)
      refine wpAnyH_ready (rs := [5]) (by kernel_rfl) (by simp) ?_
      refine AllReadyH.cons rfl (fun K' hK' => ?_) AllReadyH.nil
      rw [if_pos (by first | kernel_rfl | rfl)]
      go_simp
      refine hK'.out _ _ ⟨bT1.other (by omega) _, trivial⟩ fun hS2 => ?_
      refine wpAnyH_done (by kernel_rfl) ?_ _
      gi_wp2
      exact ⟨⟨(Kps.setCell W (w.heap.size + 1) 0 (.int .i64 (m : Int)) hnb).size, (Kps.setCell W (w.heap.size + 1) 0 (.int .i64 (m : Int)) hnb).same⟩, ⟨hS2.1, by rw [Hs.out, Hp.out, Hq.out, Hm.out]; exact (bW1.set (.int .i64 (m : Int)) : Boxed (W.setCell ⟨w.heap.size + 1, 0, none⟩ (.int .i64 (m : Int))) _ _ _)⟩, (hB.setCell (p := ⟨w.heap.size + 1, 0, none⟩) (by simp) _).drew⟩
    · skip
      go_simp
      refine (sIdx_c _ xs (nth is k) _ (show Ints W.drew.heap.size W.drew _ _ from (hI.later hB.drew)) hl).mono ?_
      rintro e w' ⟨he, rfl⟩
      rw [Hq.out] at he
      subst he
      refine hK'.out _ _ hS0 fun _ => ?_
      clear hK'
      refine wpAnyH_ready (rs := [0]) (by kernel_rfl) (by simp) ?_
      refine AllReadyH.cons rfl (fun K' hK' => ?_) AllReadyH.nil
      rw [if_pos (by first | kernel_rfl | rfl)]
      go_simp
      refine hK'.out _ _ hS0 fun _ => ?_
      clear hK'
      refine wpAnyH_take (i := 4) (v := (.int .i64 (m : Int))) rfl (by kernel_rfl) (by kernel_rfl) (by kernel_rfl) (fun _ _ _ h => h) (.inl ⟨by first | kernel_rfl | rfl, ?yr34⟩) hS0 ?_
      case yr34 =>
        intro w' hS
        (clear hS)
        go_simp
        first | done | (simp; done) | (simp; omega) | omega | (simp [*]; done)
      refine wpAnyH_ready (rs := [5]) (by kernel_rfl) (by simp) ?_
      refine AllReadyH.cons rfl (fun K' hK' => ?_) AllReadyH.nil
      rw [if_pos (by first | kernel_rfl | rfl)]
      go_simp
      refine hK'.out _ _ ⟨bT1.other (by omega) _, trivial⟩ fun hS2 => ?_
      refine wpAnyH_done (by kernel_rfl) ?_ _
      gi_wp2
      exact ⟨⟨(Kps.setCell W (w.heap.size + 1) 0 (.int .i64 (m : Int)) hnb).size, (Kps.setCell W (w.heap.size + 1) 0 (.int .i64 (m : Int)) hnb).same⟩, ⟨hS2.1, by rw [Hs.out, Hp.out, Hq.out, Hm.out]; exact (bW1.set (.int .i64 (m : Int)) : Boxed (W.setCell ⟨w.heap.size + 1, 0, none⟩ (.int .i64 (m : Int))) _ _ _)⟩, (hB.setCell (p := ⟨w.heap.size + 1, 0, none⟩) (by simp) _).drew⟩
  case done =>
    rintro D W hD ⟨⟨bT1, bW1⟩, hB⟩ hK
    have cW := bW1.cell
    have hx := waTo_lt is h0 is.length
    gi_wp2
    exact retM1 hK ⟨_, results_tmp rfl _ _ _, rfl, below_shut hB (by omega)⟩
  case stop =>
    rintro D c k W hD hk h
    exact h.elim

set_option maxRecDepth 100000 in
set_option maxHeartbeats 4000000 in
theorem checkWaiting_c (sv tv : Value) (ts is : List Int) (w : World) (hI : Ints w.heap.size w sv ts) (hT : Ints w.heap.size w tv is) (hl : ts.length ≤ 1048576) (hm : is.length ≤ 1048576) :
    Calls Try.prog 67 #[sv, tv] w fun e w' => e = .returned (.int .i64 (comC ts is)) ∧ Below w.heap.size w w' := by
  obtain ⟨a, cap, rfl⟩ := hI.shape
  obtain ⟨a2, cap2, rfl⟩ := hT.shape
  cases ht : turnsOk ts 8
  · have Hc := Lib.hid (comC_bad (show comB ts is = false by unfold comB; rw [ht, Bool.and_false]))
    have Ht := Lib.hid ht
    clear ht
    go_enter Try.func67, Try.ntmps67
    go_wp2_with fail
    refine (areTurns_c _ ts 8 _ hI (by omega)).mono ?_
    rintro e w1 ⟨he, hb⟩
    rw [Ht.out] at he
    subst he
    go_wp2
    go_ret
    exact ⟨ret_int Hc.out.symm, hb⟩
  · cases hi : is.all (fun z => inB z 0 7)
    · have Hc := Lib.hid (comC_bad (show comB ts is = false by unfold comB; rw [hi]; rfl))
      have Ht := Lib.hid ht
      have Hi := Lib.hid hi
      clear ht hi
      go_enter Try.func67, Try.ntmps67
      go_wp2_with fail
      refine (areTurns_c _ ts 8 _ hI (by omega)).mono ?_
      rintro e w1 ⟨he, hb⟩
      rw [Ht.out] at he
      subst he
      go_wp2_with fail
      refine (areWithin_d false _ is 0 7 _ (hT.later hb) (by omega) Hi.out).mono ?_
      rintro e w2 ⟨rfl, hb2⟩
      go_wp2
      go_ret
      exact ⟨ret_int Hc.out.symm, hb.trans (hb2.mono hb.size)⟩
    · have Hb := Lib.hid (show comB ts is = true by unfold comB; rw [ht, hi]; rfl)
      have Ht := Lib.hid ht
      have Hi := Lib.hid hi
      clear ht hi
      cases hh : hasAll ts is
      · have Hc := Lib.hid (comC_four Hb.out hh)
        have Hh := Lib.hid hh
        clear hh
        go_enter Try.func67, Try.ntmps67
        go_wp2_with fail
        refine (areTurns_c _ ts 8 _ hI (by omega)).mono ?_
        rintro e w1 ⟨he, hb⟩
        rw [Ht.out] at he
        subst he
        go_wp2_with fail
        refine (areWithin_d true _ is 0 7 _ (hT.later hb) (by omega) Hi.out).mono ?_
        rintro e w2 ⟨rfl, hb2⟩
        have hb3 := hb.trans (hb2.mono hb.size)
        clear hb hb2
        go_wp2_with fail
        refine (haveTurns_c _ _ ts is _ (hI.later hb3) (hT.later hb3) hl hm).mono ?_
        rintro e w3 ⟨he, hb4⟩
        rw [Hh.out] at he
        subst he
        go_wp2
        go_ret
        exact ⟨ret_int Hc.out.symm, hb3.trans (hb4.mono hb3.size)⟩
      · have Hc := Lib.hid (comC_zero Hb.out hh)
        have Hh := Lib.hid hh
        clear hh
        go_enter Try.func67, Try.ntmps67
        go_wp2_with fail
        refine (areTurns_c _ ts 8 _ hI (by omega)).mono ?_
        rintro e w1 ⟨he, hb⟩
        rw [Ht.out] at he
        subst he
        go_wp2_with fail
        refine (areWithin_d true _ is 0 7 _ (hT.later hb) (by omega) Hi.out).mono ?_
        rintro e w2 ⟨rfl, hb2⟩
        have hb3 := hb.trans (hb2.mono hb.size)
        clear hb hb2
        go_wp2_with fail
        refine (haveTurns_c _ _ ts is _ (hI.later hb3) (hT.later hb3) hl hm).mono ?_
        rintro e w3 ⟨he, hb4⟩
        rw [Hh.out] at he
        subst he
        go_wp2
        go_ret
        exact ⟨ret_int Hc.out.symm, hb3.trans (hb4.mono hb3.size)⟩

set_option maxRecDepth 100000 in
set_option maxHeartbeats 4000000 in
theorem checkComing_c (sv tv : Value) (ts is : List Int) (s : Int) (w : World) (hI : Ints w.heap.size w sv ts) (hT : Ints w.heap.size w tv is) (hl : ts.length ≤ 1048576) (hm : is.length ≤ 1048576) (hs : I64 s) :
    Calls Try.prog 61 #[sv, .int .i64 s, tv] w fun e w' => e = .returned (.int .i64 (comS ts is s)) ∧ Below w.heap.size w w' := by
  obtain ⟨a, cap, rfl⟩ := hI.shape
  obtain ⟨a2, cap2, rfl⟩ := hT.shape
  unfold I64 at hs
  by_cases h1 : s < 0
  · have Hc := Lib.hid (comS_out (is := is) (show inB s 0 (ts.length - 1) = false from inB_false.2 (by omega)))
    go_enter Try.func61, Try.ntmps61
    go_wp2
    go_ret
    exact ⟨ret_int Hc.out.symm, Below.refl _ _⟩
  · by_cases h2 : (ts.length : Int) ≤ s
    · have Hc := Lib.hid (comS_out (is := is) (show inB s 0 (ts.length - 1) = false from inB_false.2 (by omega)))
      go_enter Try.func61, Try.ntmps61
      go_wp2
      go_ret
      exact ⟨ret_int Hc.out.symm, Below.refl _ _⟩
    · have Hc := Lib.hid (comS_in (is := is) (show inB s 0 (ts.length - 1) = true from inB_true.2 (by omega)))
      go_enter Try.func61, Try.ntmps61
      go_wp2_with fail
      refine (checkWaiting_c _ _ ts is _ hI hT hl hm).mono ?_
      rintro e w1 ⟨rfl, hb⟩
      go_wp2
      go_ret
      exact ⟨ret_int Hc.out.symm, hb⟩

end Go.Proofs.Ytgndbifcncklgaa
