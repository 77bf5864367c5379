/-
  BestTurns of the program; the model's search.
  Conditions: lists of at most 1048576 elements.
-/
import Derived.Test.YtgndbifcncklgaaBti
import Derived.Test.YtgndbifcncklgaaWmc
namespace Go.Proofs.Ytgndbifcncklgaa
open Go.RowKit Go.Shelf
attribute [local go_sem] Oper.semAt_some

def btC (ws : List Int) (n : Int) : Int := if wOk ws 1 3 && inB n 1 8 then (if n < ws.length then 3 else 0) else 2
def btR (ws : List Int) (n : Int) : List Int := if btC ws n = 0 then bstL (segB ws n.toNat 0 (ws.length ^ n.toNat)) else []
theorem wOk_three {ws : List Int} (h : wOk ws 1 3 = true) : wOk ws 0 8 = true ∧ ws.length ≤ 3 ∧ ws.contains 0 = false := by
  have hW := wgt (low := 1) (most := 3) (by omega) h
  unfold wOk at h
  rw [Bool.and_eq_true, Bool.and_eq_true, List.all_eq_true, decide_eq_true_eq, decide_eq_true_eq] at h
  obtain ⟨h1, h2, h3⟩ := h
  refine ⟨?_, by omega, contains_no fun j hj e => ?_⟩
  · unfold wOk
    rw [Bool.and_eq_true, Bool.and_eq_true, List.all_eq_true, decide_eq_true_eq, decide_eq_true_eq]
    exact ⟨fun x hx => by have := inB_true.1 (h1 x hx); exact inB_true.2 (by omega), h2, by omega⟩
  · have := hW.el j hj; omega
theorem wOk_three_of {ws : List Int} (h : wOk ws 0 8 = true) (h3 : ws.length ≤ 3) (hc : ws.contains 0 = false) : wOk ws 1 3 = true := by
  have hW := wgt (low := 0) (most := 8) (by omega) h
  unfold wOk at h ⊢
  rw [Bool.and_eq_true, Bool.and_eq_true, List.all_eq_true, decide_eq_true_eq, decide_eq_true_eq] at h ⊢
  refine ⟨fun x hx => ?_, h.2.1, by omega⟩
  have h1 := inB_true.1 (h.1 x hx)
  have : x ≠ 0 := fun e => by
    subst e
    have : ws.contains 0 = true := by rw [List.contains_iff_mem]; exact hx
    rw [hc] at this; cases this
  exact inB_true.2 (by omega)
theorem btC_two {ws : List Int} {n : Int} (h : wOk ws 1 3 = false) : btC ws n = 2 := by unfold btC; rw [h]; rfl
theorem btR_bad {ws : List Int} {n : Int} (h : btC ws n ≠ 0) : btR ws n = [] := by unfold btR; rw [if_neg h]
theorem bstL_len (ws : List Int) (n lo c : Nat) : (bstL (segB ws n lo c)).length ≤ n := by
  cases h : segB ws n lo c with
  | none => simp [bstL]
  | some x =>
    obtain ⟨m, _, h2, _⟩ := segB_some h
    simp only [bstL, h2, dig_len]; exact Nat.le_refl _
theorem btR_len (ws : List Int) (n : Int) : (btR ws n).length * 8 ≤ 140737488351232 := by
  unfold btR
  split
  · rename_i h
    have := bstL_len ws n.toNat 0 (ws.length ^ n.toNat)
    unfold btC at h
    cases h1 : wOk ws 1 3
    · rw [h1] at h; cases h
    · cases h2 : inB n 1 8
      · rw [h1, h2] at h; cases h
      · have := inB_true.1 h2; omega
  · simp

set_option maxRecDepth 100000 in
set_option maxHeartbeats 16000000 in
theorem i_BestTurns (c0 : Value) (ws : List Int) (n : Int) (w : World) (hI : Ints w.heap.size w c0 ws) (_hN : I64s ws) (hm : ws.length ≤ 1048576) (_hn : I64 n) :
    Calls Try.prog 41 #[c0, .int .i64 n] w (GivesI w (btR ws n) fun v => .tuple #[v, .int .i64 (btC ws n)]) := by
  obtain ⟨a, cap, rfl⟩ := hI.shape
  unfold I64 at _hn
  cases hw : wOk ws 0 8
  · have hf : wOk ws 1 3 = false := by
      cases h : wOk ws 1 3
      · rfl
      · rw [(wOk_three h).1] at hw; cases hw
    have Hc := Lib.hid (btC_two (n := n) hf)
    have Hr := Lib.hid (btR_bad (ws := ws) (n := n) (by rw [Hc.out]; decide))
    have Hw := Lib.hid hw
    clear hw hf
    go_enter Try.func41, Try.ntmps41
    go_wp2_with fail
    refine (areWeights_c _ ws _ hI hm).mono ?_
    rintro e w1 ⟨he, hb⟩
    rw [Hw.out] at he
    subst he
    go_wp2
    go_ret2
    exact ⟨_, ret_v2 Hc.out.symm, by rw [Hr.out]; exact ownI_nil _ _, hb⟩
  · have hW := wgt (by omega) hw
    have hl := hW.len
    have Hw := Lib.hid hw
    by_cases h3 : 3 < ws.length
    · have hf : wOk ws 1 3 = false := by
        cases h : wOk ws 1 3
        · rfl
        · have := (wOk_three h).2.1; omega
      have Hc := Lib.hid (btC_two (n := n) hf)
      have Hr := Lib.hid (btR_bad (ws := ws) (n := n) (by rw [Hc.out]; decide))
      have h3i : (3 : Int) < (ws.length : Int) := by omega
      clear hw hf hW
      go_enter Try.func41, Try.ntmps41
      go_wp2_with fail
      refine (areWeights_c _ ws _ hI hm).mono ?_
      rintro e w1 ⟨he, hb⟩
      rw [Hw.out] at he
      subst he
      go_wp2
      go_ret2
      exact ⟨_, ret_v2 Hc.out.symm, by rw [Hr.out]; exact ownI_nil _ _, hb⟩
    · have h3i : ¬ (3 : Int) < (ws.length : Int) := by omega
      cases hz : ws.contains 0
      · have h1 := wOk_three_of hw (by omega) hz
        have Hz := Lib.hid hz
        have H1 := Lib.hid h1
        have HW := Lib.hid hW
        clear hw hz hW h1
        by_cases hn1 : n < 1
        · have Hc := Lib.hid (show btC ws n = 2 by unfold btC; rw [inB_false.2 (.inl hn1), Bool.and_false]; rfl)
          have Hr := Lib.hid (btR_bad (ws := ws) (n := n) (by rw [Hc.out]; decide))
          go_enter Try.func41, Try.ntmps41
          go_wp2_with fail
          refine (areWeights_c _ ws _ hI hm).mono ?_
          rintro e w1 ⟨he, hb⟩
          rw [Hw.out] at he
          subst he
          go_wp2_with fail
          refine (sContains_c _ ws 0 _ (hI.later hb) hm).mono ?_
          rintro e w' ⟨he, rfl⟩
          rw [Hz.out] at he
          subst he
          go_wp2
          go_ret2
          exact ⟨_, ret_v2 Hc.out.symm, by rw [Hr.out]; exact ownI_nil _ _, hb⟩
        · by_cases hn8 : 8 < n
          · have Hc := Lib.hid (show btC ws n = 2 by unfold btC; rw [inB_false.2 (.inr hn8), Bool.and_false]; rfl)
            have Hr := Lib.hid (btR_bad (ws := ws) (n := n) (by rw [Hc.out]; decide))
            go_enter Try.func41, Try.ntmps41
            go_wp2_with fail
            refine (areWeights_c _ ws _ hI hm).mono ?_
            rintro e w1 ⟨he, hb⟩
            rw [Hw.out] at he
            subst he
            go_wp2_with fail
            refine (sContains_c _ ws 0 _ (hI.later hb) hm).mono ?_
            rintro e w' ⟨he, rfl⟩
            rw [Hz.out] at he
            subst he
            go_wp2
            go_ret2
            exact ⟨_, ret_v2 Hc.out.symm, by rw [Hr.out]; exact ownI_nil _ _, hb⟩
          · by_cases hnl : n < ws.length
            · have Hc := Lib.hid (show btC ws n = 3 by unfold btC; rw [H1.out, inB_true.2 (by omega)]; simp [hnl])
              have Hr := Lib.hid (btR_bad (ws := ws) (n := n) (by rw [Hc.out]; decide))
              go_enter Try.func41, Try.ntmps41
              go_wp2_with fail
              refine (areWeights_c _ ws _ hI hm).mono ?_
              rintro e w1 ⟨he, hb⟩
              rw [Hw.out] at he
              subst he
              go_wp2_with fail
              refine (sContains_c _ ws 0 _ (hI.later hb) hm).mono ?_
              rintro e w' ⟨he, rfl⟩
              rw [Hz.out] at he
              subst he
              go_wp2
              go_ret2
              exact ⟨_, ret_v2 Hc.out.symm, by rw [Hr.out]; exact ownI_nil _ _, hb⟩
            · have hc : btC ws n = 0 := by unfold btC; rw [H1.out, inB_true.2 (by omega)]; simp [hnl]
              obtain ⟨N, rfl⟩ : ∃ N : Nat, n = N := ⟨n.toNat, by omega⟩
              have Hc := Lib.hid hc
              have Hr := Lib.hid (show btR ws N = bstL (segB ws N 0 (ws.length ^ N)) by unfold btR; rw [if_pos hc, Int.toNat_natCast])
              clear hc
              go_enter Try.func41, Try.ntmps41
              go_wp2_with fail
              refine (areWeights_c _ ws _ hI hm).mono ?_
              rintro e w1 ⟨he, hb⟩
              rw [Hw.out] at he
              subst he
              go_wp2_with fail
              refine (sContains_c _ ws 0 _ (hI.later hb) hm).mono ?_
              rintro e w' ⟨he, rfl⟩
              rw [Hz.out] at he
              subst he
              go_wp2_with fail
              refine (bestTurns_c _ ws N _ (hI.later hb) HW.out (by omega)).mono ?_
              rintro e w2 ⟨v, rfl, ho, hb2⟩
              simp only [id]
              go_wp2
              go_ret2
              exact ⟨_, ret_v2 Hc.out.symm, by rw [Hr.out]; exact ho.base hb.size, hb.trans (hb2.mono hb.size)⟩
      · have hf : wOk ws 1 3 = false := by
          cases h : wOk ws 1 3
          · rfl
          · rw [(wOk_three h).2.2] at hz; cases hz
        have Hc := Lib.hid (btC_two (n := n) hf)
        have Hr := Lib.hid (btR_bad (ws := ws) (n := n) (by rw [Hc.out]; decide))
        have Hz := Lib.hid hz
        clear hw hf hz hW
        go_enter Try.func41, Try.ntmps41
        go_wp2_with fail
        refine (areWeights_c _ ws _ hI hm).mono ?_
        rintro e w1 ⟨he, hb⟩
        rw [Hw.out] at he
        subst he
        go_wp2_with fail
        refine (sContains_c _ ws 0 _ (hI.later hb) hm).mono ?_
        rintro e w' ⟨he, rfl⟩
        rw [Hz.out] at he
        subst he
        go_wp2
        go_ret2
        exact ⟨_, ret_v2 Hc.out.symm, by rw [Hr.out]; exact ownI_nil _ _, hb⟩

end Go.Proofs.Ytgndbifcncklgaa
