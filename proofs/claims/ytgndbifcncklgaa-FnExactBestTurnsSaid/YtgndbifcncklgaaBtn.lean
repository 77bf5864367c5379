/-
  BestTurns of the model.
  Conditions: lists of at most 1048576 elements.
-/
import Derived.Test.YtgndbifcncklgaaBtl
namespace Go.Proofs.Ytgndbifcncklgaa
open Go.RowKit Go.Shelf
attribute [local go_sem] Oper.semAt_some

set_option maxRecDepth 100000 in
set_option maxHeartbeats 16000000 in
theorem s_BestTurns (c0 : Value) (ws : List Int) (n : Int) (w : World) (hI : Ints w.heap.size w c0 ws) (_hN : I64s ws) (hm : ws.length ≤ 1048576) (_hn : I64 n) :
    Calls Try.prog 40 #[c0, .int .i64 n] w (GivesI w (btR ws n) fun v => .tuple #[v, .int .i64 (btC ws n)]) := by
  obtain ⟨a, cap, rfl⟩ := hI.shape
  unfold I64 at _hn
  cases hw : wOk ws 1 3
  · have Hc := Lib.hid (btC_two (n := n) hw)
    have Hr := Lib.hid (btR_bad (ws := ws) (n := n) (by rw [Hc.out]; decide))
    have Hw := Lib.hid hw
    clear hw
    go_enter Try.func40, Try.ntmps40
    go_wp2_with fail
    refine (l10Weights_c _ ws 1 3 _ hI hm (by omega) (by omega)).mono ?_
    rintro e w' ⟨he, rfl⟩
    rw [Hw.out] at he
    subst he
    go_wp2
    go_ret2
    exact ⟨_, ret_v2 Hc.out.symm, by rw [Hr.out]; exact ownI_nil _ _, Below.refl _ _⟩
  · have hW := wgt (low := 1) (most := 3) (by omega) hw
    have hl := hW.len
    have hl3 := (wOk_three hw).2.1
    have Hw := Lib.hid hw
    have HW := Lib.hid hW
    clear hW
    cases h1 : inB n 1 8
    · have Hc := Lib.hid (show btC ws n = 2 by unfold btC; rw [h1, Bool.and_false]; rfl)
      have Hr := Lib.hid (btR_bad (ws := ws) (n := n) (by rw [Hc.out]; decide))
      have H1 := Lib.hid h1
      clear hw h1
      go_enter Try.func40, Try.ntmps40
      go_wp2_with fail
      refine (l10Weights_c _ ws 1 3 _ hI hm (by omega) (by omega)).mono ?_
      rintro e w' ⟨he, rfl⟩
      rw [Hw.out] at he
      subst he
      go_wp2_with fail
      refine (l01In_d false _ _ _ _ H1.out).mono ?_
      rintro e w' ⟨rfl, rfl⟩
      go_wp2
      go_ret2
      exact ⟨_, ret_v2 Hc.out.symm, by rw [Hr.out]; exact ownI_nil _ _, Below.refl _ _⟩
    · have hb1 := inB_true.1 h1
      have H1 := Lib.hid h1
      by_cases hlt : n < ws.length
      · have Hc := Lib.hid (show btC ws n = 3 by unfold btC; rw [hw, h1, if_pos (by rfl), if_pos hlt])
        have Hr := Lib.hid (btR_bad (ws := ws) (n := n) (by rw [Hc.out]; decide))
        clear hw h1
        go_enter Try.func40, Try.ntmps40
        go_wp2_with fail
        refine (l10Weights_c _ ws 1 3 _ hI hm (by omega) (by omega)).mono ?_
        rintro e w' ⟨he, rfl⟩
        rw [Hw.out] at he
        subst he
        go_wp2_with fail
        refine (l01In_d true _ _ _ _ H1.out).mono ?_
        rintro e w' ⟨rfl, rfl⟩
        go_wp2
        go_ret2
        exact ⟨_, ret_v2 Hc.out.symm, by rw [Hr.out]; exact ownI_nil _ _, Below.refl _ _⟩
      · have Hc := Lib.hid (show btC ws n = 0 by unfold btC; rw [hw, h1, if_pos (by rfl), if_neg hlt])
        obtain ⟨N, rfl⟩ : ∃ N : Nat, n = (N : Int) := ⟨n.toNat, by omega⟩
        have hN : 1 ≤ N ∧ N ≤ 8 := by omega
        have Hr := Lib.hid (show btR ws (N : Int) = bstL (subB ws N 0 N) by unfold btR; rw [if_pos Hc.out, subB_all]; rfl)
        clear hw h1
        have hB0 : Below w.heap.size w (w.alloc (.cells #[] 2)) := (Below.refl _ w).alloc (Nat.le_refl _) _
        have hoA := ownI_empty w
        go_enter Try.func40, Try.ntmps40
        go_wp2_with fail
        refine (l10Weights_c _ ws 1 3 _ hI hm (by omega) (by omega)).mono ?_
        rintro e w' ⟨he, rfl⟩
        rw [Hw.out] at he
        subst he
        go_wp2_with fail
        refine (l01In_d true _ _ _ _ H1.out).mono ?_
        rintro e w' ⟨rfl, rfl⟩
        go_wp2_with fail
        refine (l10Best_c ws N _ HW.out hl3 hN N 0 0 [] (by omega) rfl _ _ w.heap.size _ (hI.later hB0) hoA hB0.size).mono ?_
        rintro e w2 ⟨u, rfl, hou, hb2⟩
        have hB2 := hB0.trans (hb2.mono hB0.size)
        go_wp2
        go_ret2
        exact ⟨u, ret_v2 Hc.out.symm, by rw [Hr.out]; exact hou, hB2⟩

end Go.Proofs.Ytgndbifcncklgaa
