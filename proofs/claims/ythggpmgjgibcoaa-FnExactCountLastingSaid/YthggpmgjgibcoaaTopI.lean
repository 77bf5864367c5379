/-
  IsLasting and CanServe of the program.
  Conditions: lists of at most 1048576 elements.
-/
import Derived.Test.YthggpmgjgibcoaaTop
namespace Go.Proofs.Ythggpmgjgibcoaa
open Go.RowKit Go.Shelf Go.Maps
attribute [local go_sem] Oper.semAt_some

open Classical in
noncomputable def isLastR (zs st : List Int) : Bool := if givenC zs st = 0 then decide (Lasting zs st) else false
open Classical in
noncomputable def canR (zs : List Int) : Bool := if fewC zs = 0 then decide (CanL zs) else false
theorem ret_b2' {a a' : Bool} {b b' : Int} (h : a = a') (k : b = b') : Ending.returned (.tuple #[.bool a, .int .i64 b]) = .returned (.tuple #[.bool a', .int .i64 b']) := by rw [h, k]
theorem bytes_st {zs st : List Int} (ht : tasksOk zs = true) (hs : IsSt zs st) : st.length ≤ 8 ∧ ∀ k, k < st.length → 0 ≤ nth st k ∧ nth st k ≤ 255 := by
  have h8 := tasksOk_len ht
  refine ⟨by rw [hs.1]; omega, fun k hk => ?_⟩
  have h1 := hs.2 k (by rw [← hs.1]; exact hk)
  have h2 := tasksOk_nth ht (k := k) (by rw [← hs.1]; exact hk)
  omega

set_option maxRecDepth 100000 in
set_option maxHeartbeats 8000000 in
open Classical in
theorem canBeServed_c (c0 : Value) (zs : List Int) (w : World) (hI : Ints w.heap.size w c0 zs) (ht : tasksOk zs = true) :
    Calls Try.prog 147 #[.agg #[c0]] w fun e w' => e = .returned (.bool (decide (CanL zs))) ∧ Below w.heap.size w w' := by
  obtain ⟨a, cap, rfl⟩ := hI.shape
  have hB0 : Below w.heap.size w (w.alloc (.cells #[.slice a zs.length cap] 26)) := (Below.refl _ w).alloc (Nat.le_refl _) _
  go_enter Try.func147, Try.ntmps147
  go_wp2_with fail
  refine (outlookOf_c _ zs _ (hI.later hB0) ht).mono ?_
  rintro e w1 ⟨bO, m, rfl, hO, hM, hbo, hbm, hb⟩
  have hB1 := hB0.trans (hb.mono hB0.size)
  have hG := Good.new ht hO hM
  have kF0 : w1.cell? ⟨bO, 1, none⟩ = some (.int .u8 (nth zs 0)) := by have := hO.full (i := 0) (by omega); simpa using this
  have kF1 : w1.cell? ⟨bO, 2, none⟩ = some (.int .u8 (nth zs 1)) := by have := hO.full (i := 1) (by omega); simpa using this
  have kF2 : w1.cell? ⟨bO, 3, none⟩ = some (.int .u8 (nth zs 2)) := by have := hO.full (i := 2) (by omega); simpa using this
  have kF3 : w1.cell? ⟨bO, 4, none⟩ = some (.int .u8 (nth zs 3)) := by have := hO.full (i := 3) (by omega); simpa using this
  have kF4 : w1.cell? ⟨bO, 5, none⟩ = some (.int .u8 (nth zs 4)) := by have := hO.full (i := 4) (by omega); simpa using this
  have kF5 : w1.cell? ⟨bO, 6, none⟩ = some (.int .u8 (nth zs 5)) := by have := hO.full (i := 5) (by omega); simpa using this
  have kF6 : w1.cell? ⟨bO, 7, none⟩ = some (.int .u8 (nth zs 6)) := by have := hO.full (i := 6) (by omega); simpa using this
  have kF7 : w1.cell? ⟨bO, 8, none⟩ = some (.int .u8 (nth zs 7)) := by have := hO.full (i := 7) (by omega); simpa using this
  go_wp2_with fail
  refine (lasts_good ht hG (isSt_full (pos_of ht))).mono ?_
  rintro e w2 ⟨rfl, hG2, hg⟩
  go_wp2
  go_ret
  simp at hbm
  exact ⟨rfl, hB1.grown hg hB1.size (fun j e => by cases e; omega)⟩

set_option maxRecDepth 100000 in
set_option maxHeartbeats 8000000 in
open Classical in
theorem i_CanServe (c0 : Value) (zs : List Int) (w : World) (hI : Ints w.heap.size w c0 zs) (hN : I64s zs) (hm : zs.length ≤ 1048576) :
    Calls Try.prog 61 #[.agg #[c0]] w fun e w' => e = .returned (.tuple #[.bool (canR zs), .int .i64 (fewC zs)]) ∧ Below w.heap.size w w' := by
  obtain ⟨a, cap, rfl⟩ := hI.shape
  have hB0 : Below w.heap.size w (w.alloc (.cells #[.slice a zs.length cap] 26)) := (Below.refl _ w).alloc (Nat.le_refl _) _
  by_cases hc : fewC zs = 0
  · obtain ⟨ht, _⟩ := fewC_ok hc
    have Hr := Lib.hid (show canR zs = decide (CanL zs) by unfold canR; rw [if_pos hc])
    have Hc := Lib.hid hc
    clear hc
    go_enter Try.func61, Try.ntmps61
    go_wp2_with fail
    refine (checkStatesOf_c _ zs _ (hI.later hB0) hN hm).mono ?_
    rintro e w1 ⟨he, hb⟩
    rw [Hc.out] at he
    subst he
    have b1 : Boxed w1 w.heap.size 26 (.slice a zs.length cap) := boxed_later (Boxed.new _ _ _) hb
    have k1 := b1.cell
    have hB1 := hB0.trans (hb.mono (by simp))
    go_wp2_with fail
    refine (canBeServed_c _ zs _ (hI.later hB1) ht).mono ?_
    rintro e w2 ⟨rfl, hb2⟩
    obtain ⟨d, hd⟩ : ∃ d, decide (CanL zs) = d := ⟨_, rfl⟩
    rw [hd] at Hr ⊢
    clear hd
    go_wp2
    go_ret2
    exact ⟨ret_b2' Hr.out.symm Hc.out.symm, hB1.trans (hb2.mono hB1.size)⟩
  · have Hr := Lib.hid (show canR zs = false by unfold canR; rw [if_neg hc])
    have hq : (fewC zs != 0) = true := by simpa using hc
    have hp := fewC_bd zs
    clear hc
    go_enter Try.func61, Try.ntmps61
    go_wp2_with fail
    refine (checkStatesOf_c _ zs _ (hI.later hB0) hN hm).mono ?_
    rintro e w1 ⟨rfl, hb⟩
    go_wp2
    go_ret2
    exact ⟨ret_b2' Hr.out.symm rfl, hB0.trans (hb.mono (by simp))⟩

set_option maxRecDepth 100000 in
set_option maxHeartbeats 8000000 in
open Classical in
theorem i_IsLasting (c0 : Value) (zs : List Int) (c1 : Value) (st : List Int) (w : World) (hI : Ints w.heap.size w c0 zs) (hN : I64s zs) (hm : zs.length ≤ 1048576) (hT : Ints w.heap.size w c1 st) (_hN1 : I64s st) (hm1 : st.length ≤ 1048576) :
    Calls Try.prog 48 #[.agg #[c0], c1] w fun e w' => e = .returned (.tuple #[.bool (isLastR zs st), .int .i64 (givenC zs st)]) ∧ Below w.heap.size w w' := by
  obtain ⟨a, cap, rfl⟩ := hI.shape
  obtain ⟨a2, cap2, rfl⟩ := hT.shape
  have hB0 : Below w.heap.size w (w.alloc (.cells #[.slice a zs.length cap] 26)) := (Below.refl _ w).alloc (Nat.le_refl _) _
  by_cases h0 : stCode zs st = 0
  · obtain ⟨ht, hs⟩ := stCode_zero h0
    have hg : givenC zs st = fewC zs := by unfold givenC; rw [if_pos h0]
    have H0 := Lib.hid h0
    by_cases hc : fewC zs = 0
    · have Hr := Lib.hid (show isLastR zs st = decide (Lasting zs st) by unfold isLastR; rw [hg, if_pos hc])
      have Hg := Lib.hid (hg.trans hc)
      have Hc := Lib.hid hc
      obtain ⟨hl8, hbd⟩ := bytes_st ht hs
      clear hc hg h0
      go_enter Try.func48, Try.ntmps48
      go_wp2_with fail
      refine (checkStateFor_c _ zs _ st _ (hI.later hB0) hm (hT.later hB0) hm1).mono ?_
      rintro e w1 ⟨he, hb⟩
      rw [H0.out] at he
      subst he
      have b1 : Boxed w1 w.heap.size 26 (.slice a zs.length cap) := boxed_later (Boxed.new _ _ _) hb
      have k1 := b1.cell
      have hB1 := hB0.trans (hb.mono (by simp))
      go_wp2_with fail
      refine (checkStatesOf_c _ zs _ (hI.later hB1) hN hm).mono ?_
      rintro e w2 ⟨he, hb2⟩
      rw [Hc.out] at he
      subst he
      replace b1 := boxed_later b1 hb2
      have k2 := b1.cell
      have hB2 := hB1.trans (hb2.mono hB1.size)
      go_wp2_with fail
      refine (outlookOf_c _ zs _ (hI.later hB2) ht).mono ?_
      rintro e w3 ⟨bO, m, rfl, hO, hM, hbo, hbm, hb3⟩
      have hB3 := hB2.trans (hb3.mono hB2.size)
      have hG := Good.new ht hO hM
      go_wp2_with fail
      refine (taskStateOf_c _ st _ (hT.later hB3) hl8 hbd).mono ?_
      rintro e w4 ⟨rfl, hb4⟩
      have hB4 := hB3.trans (hb4.mono hB3.size)
      have hG4 := hG.later hb4
      go_wp2_with fail
      refine (lasts_good ht hG4 hs).mono ?_
      rintro e w5 ⟨rfl, hG5, hg5⟩
      have hsz := hB2.size
      obtain ⟨d, hd⟩ : ∃ d, decide (Lasting zs st) = d := ⟨_, rfl⟩
      rw [hd] at Hr ⊢
      clear hd
      go_wp2
      go_ret2
      exact ⟨ret_b2' Hr.out.symm Hg.out.symm, hB4.grown hg5 hB4.size (fun j e => by cases e; omega)⟩
    · have Hr := Lib.hid (show isLastR zs st = false by unfold isLastR; rw [hg, if_neg hc])
      have Hg := Lib.hid hg
      have hq : (fewC zs != 0) = true := by simpa using hc
      have hp := fewC_bd zs
      clear hc hg h0
      go_enter Try.func48, Try.ntmps48
      go_wp2_with fail
      refine (checkStateFor_c _ zs _ st _ (hI.later hB0) hm (hT.later hB0) hm1).mono ?_
      rintro e w1 ⟨he, hb⟩
      rw [H0.out] at he
      subst he
      have b1 : Boxed w1 w.heap.size 26 (.slice a zs.length cap) := boxed_later (Boxed.new _ _ _) hb
      have k1 := b1.cell
      have hB1 := hB0.trans (hb.mono (by simp))
      go_wp2_with fail
      refine (checkStatesOf_c _ zs _ (hI.later hB1) hN hm).mono ?_
      rintro e w2 ⟨rfl, hb2⟩
      go_wp2
      go_ret2
      exact ⟨ret_b2' Hr.out.symm Hg.out.symm, hB1.trans (hb2.mono hB1.size)⟩
  · have hg : givenC zs st = stCode zs st := by unfold givenC; rw [if_neg h0]
    have Hr := Lib.hid (show isLastR zs st = false by unfold isLastR; rw [hg, if_neg h0])
    have Hg := Lib.hid hg
    have hq : (stCode zs st != 0) = true := by simpa using h0
    have hp := stCode_bd zs st
    clear hg h0
    go_enter Try.func48, Try.ntmps48
    go_wp2_with fail
    refine (checkStateFor_c _ zs _ st _ (hI.later hB0) hm (hT.later hB0) hm1).mono ?_
    rintro e w1 ⟨rfl, hb⟩
    go_wp2
    go_ret2
    exact ⟨ret_b2' Hr.out.symm Hg.out.symm, hB0.trans (hb.mono (by simp))⟩

end Go.Proofs.Ythggpmgjgibcoaa
