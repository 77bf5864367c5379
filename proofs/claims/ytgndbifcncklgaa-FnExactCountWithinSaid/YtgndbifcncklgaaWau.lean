/-
  WorstSlot, CountWithin of the model.
  Conditions: lists of at most 1048576 elements.
-/
import Derived.Test.YtgndbifcncklgaaWar
import Derived.Test.YtgndbifcncklgaaWat
namespace Go.Proofs.Ytgndbifcncklgaa
open Go.RowKit Go.Shelf

/-- the longest wait so far, -1 ahead of the first slot -/
def lgW (ts : List Int) (x : Int) (k : Nat) : Int := if k = 0 then -1 else ((wsTo ts x k).2 : Nat)
theorem lgW_yes {ts : List Int} {x : Int} {k : Nat} (h : lgW ts x k < (wa ts [x] k : Int)) : lgW ts x (k + 1) = (wa ts [x] k : Int) ∧ (wsTo ts x (k + 1)).1 = k := by
  unfold lgW at *
  rw [if_neg (by omega)]
  by_cases e : k = 0
  · subst e
    by_cases h2 : (wsTo ts x 0).2 < wa ts [x] 0
    · rw [wsTo_yes h2]; exact ⟨rfl, rfl⟩
    · rw [wsTo_no h2]; simp only [wsTo] at h2 ⊢; exact ⟨by omega, trivial⟩
  · rw [if_neg e] at h
    rw [wsTo_yes (by omega)]; exact ⟨rfl, rfl⟩
theorem lgW_no {ts : List Int} {x : Int} {k : Nat} (h : ¬ lgW ts x k < (wa ts [x] k : Int)) : lgW ts x (k + 1) = lgW ts x k ∧ (wsTo ts x (k + 1)).1 = (wsTo ts x k).1 := by
  unfold lgW at *
  rw [if_neg (by omega)]
  by_cases e : k = 0
  · subst e; simp at h; omega
  · rw [if_neg e] at h ⊢
    rw [wsTo_no (by omega)]; exact ⟨rfl, rfl⟩
theorem lgW_bd {ts : List Int} {x : Int} (h0 : 0 < ts.length) {k : Nat} (hk : k ≤ ts.length) : -1 ≤ lgW ts x k ∧ lgW ts x k < ts.length := by
  have := (wsTo_bd (x := x) h0 hk).2
  unfold lgW; split <;> omega

set_option maxRecDepth 100000 in
set_option maxHeartbeats 8000000 in
theorem s_WorstSlot (c0 : Value) (ts : List Int) (x : Int) (w : World) (hI : Ints w.heap.size w c0 ts) (_hN : I64s ts) (hm : ts.length ≤ 1048576) (_hx : I64 x) :
    Calls Try.prog 30 #[c0, .int .i64 x] w fun e w' => e = .returned (.tuple #[.int .i64 (ws0 ts x), .int .i64 (ws1 ts x), .int .i64 (comC ts [x])]) ∧ Below w.heap.size w w' := by
  obtain ⟨a, cap, rfl⟩ := hI.shape
  have hB0 : Below w.heap.size w (w.alloc (.cells #[.int .i64 x] 2)) := (Below.refl _ w).alloc (Nat.le_refl _) _
  have Hz := Lib.hid (comS_zero ts [x])
  by_cases hc : comC ts [x] = 0
  · have hl := comC_len hc
    have Hh := Lib.hid (has_one (comC_has hc))
    have H0 := Lib.hid (show ws0 ts x = ((wsTo ts x ts.length).1 : Nat) by unfold ws0; rw [if_pos hc])
    have H1 := Lib.hid (show ws1 ts x = lgW ts x ts.length by unfold ws1 lgW; rw [if_pos hc, if_neg (by omega)])
    have Hc := Lib.hid hc
    clear hc
    go_enter Try.func30, Try.ntmps30
    go_wp2_with fail
    refine (l10Code_c _ _ ts [x] 0 _ (hI.later hB0) (ints_one_new w x _) hm (by simp)).mono ?_
    rintro e w1 ⟨he, hw1⟩
    rw [Hz.out, Hc.out] at he
    subst he
    rw [← hw1]
    clear hw1
    obtain ⟨W0, hW0⟩ : ∃ W0, w.alloc (.cells #[.int .i64 x] 2) = W0 := ⟨_, rfl⟩
    rw [hW0] at hB0 ⊢
    clear hW0
    go_wp2
    go_loop [8, 9, 10] (fun p q n => ∃ k : Nat, k ≤ ts.length ∧ n = .int .i64 k ∧ p = .int .i64 ((wsTo ts x k).1 : Nat) ∧ q = .int .i64 (lgW ts x k)) (fun _ _ n => ts.length - (intOf n).toNat)
    case atStart => exact ⟨0, Nat.zero_le _, rfl, rfl, rfl⟩
    case round =>
      obtain ⟨k, hk, rfl, rfl, rfl⟩ := hrel
      have hbd := wsTo_bd (x := x) (show 0 < ts.length by omega) hk
      have hlg := lgW_bd (x := x) (show 0 < ts.length by omega) hk
      by_cases hlt : k < ts.length
      · have hwl := wa_lt [x] (s := k) (show 0 < ts.length by omega) (by omega)
        have h1 := ix_shift (s := k) Hh.out
        obtain ⟨q, hq⟩ : ∃ q, wa ts [x] k = q := ⟨_, rfl⟩
        have Hy := Lib.hid (lgW_yes (ts := ts) (x := x) (k := k))
        have Hn := Lib.hid (fun h : (wa ts [x] k : Int) ≤ lgW ts x k => lgW_no (ts := ts) (x := x) (k := k) (by omega))
        have Hq := Lib.hid hq
        rw [hq] at h1 hwl
        have Hx1 := Lib.hid h1
        clear h1 hq
        obtain ⟨p, hp⟩ : ∃ p, (wsTo ts x k).1 = p := ⟨_, rfl⟩
        obtain ⟨g, hg⟩ : ∃ g, lgW ts x k = g := ⟨_, rfl⟩
        have Hp := Lib.hid hp
        have Hg := Lib.hid hg
        rw [hp] at hbd ⊢
        rw [hg] at hlg ⊢
        clear hp hg
        go_wp2_with fail
        refine (l10Wait_c _ ts x k _ (hI.later hB0) (by omega) (by omega) hlt).mono ?_
        rintro e w' ⟨he, rfl⟩
        rw [Hx1.out] at he
        subst he
        by_cases hlt2 : g < (q : Int)
        · have E := Lib.hid (Hy.out (by rw [Hg.out, Hq.out]; exact hlt2))
          go_wp2
          go_round
          case rel => exact ⟨k + 1, by omega, by simp, by rw [E.out.2], by rw [E.out.1, Hq.out]⟩
          case measure => simp [intOf]; omega
        · have E := Lib.hid (Hn.out (by rw [Hg.out, Hq.out]; omega))
          go_wp2
          go_round
          case rel => exact ⟨k + 1, by omega, by simp, by rw [E.out.2, Hp.out], by rw [E.out.1, Hg.out]⟩
          case measure => simp [intOf]; omega
      · obtain rfl : k = ts.length := by omega
        go_wp2
        go_ret3
        exact ⟨ret_i3d H0.out.symm H1.out.symm Hc.out.symm, hB0⟩
  · have H0 := Lib.hid (show ws0 ts x = 0 by unfold ws0; rw [if_neg hc])
    have H1 := Lib.hid (show ws1 ts x = 0 by unfold ws1; rw [if_neg hc])
    have hcz : (comC ts [x] == 0) = false := by simp [hc]
    obtain ⟨q, hq⟩ : ∃ q, comC ts [x] = q := ⟨_, rfl⟩
    have Hq := Lib.hid hq
    rw [hq] at hcz hc
    clear hq
    go_enter Try.func30, Try.ntmps30
    go_wp2_with fail
    refine (l10Code_c _ _ ts [x] 0 _ (hI.later hB0) (ints_one_new w x _) hm (by simp)).mono ?_
    rintro e w1 ⟨he, hw1⟩
    rw [Hz.out, Hq.out] at he
    subst he
    rw [← hw1]
    clear hw1
    go_wp2
    go_ret3
    exact ⟨ret_i3d H0.out.symm H1.out.symm Hq.out.symm, hB0⟩

set_option maxRecDepth 100000 in
set_option maxHeartbeats 8000000 in
theorem s_CountWithin (c0 : Value) (ts : List Int) (x m : Int) (w : World) (hI : Ints w.heap.size w c0 ts) (_hN : I64s ts) (hm : ts.length ≤ 1048576) (_hx : I64 x) (_hmm : I64 m) :
    Calls Try.prog 38 #[c0, .int .i64 x, .int .i64 m] w fun e w' => e = .returned (.tuple #[.int .i64 (ctR ts x m), .int .i64 (ctC ts x m)]) ∧ Below w.heap.size w w' := by
  obtain ⟨a, cap, rfl⟩ := hI.shape
  have hB0 : Below w.heap.size w (w.alloc (.cells #[.int .i64 x] 2)) := (Below.refl _ w).alloc (Nat.le_refl _) _
  have Hz := Lib.hid (comS_zero ts [x])
  obtain ⟨q, hq⟩ : ∃ q, comC ts [x] = q := ⟨_, rfl⟩
  by_cases h2 : q = 2
  · have Hc := Lib.hid (show ctC ts x m = 2 by unfold ctC; rw [hq, h2]; split <;> rfl)
    have H0 := Lib.hid (show ctR ts x m = 0 by unfold ctR; rw [Hc.out]; rfl)
    have Hq := Lib.hid (hq.trans h2)
    clear hq h2
    go_enter Try.func38, Try.ntmps38
    go_wp2_with fail
    refine (l10Code_c _ _ ts [x] 0 _ (hI.later hB0) (ints_one_new w x _) hm (by simp)).mono ?_
    rintro e w1 ⟨he, hw1⟩
    rw [Hz.out, Hq.out] at he
    subst he
    rw [← hw1]
    clear hw1
    go_wp2
    go_ret2
    exact ⟨ret_i2d H0.out.symm Hc.out.symm, hB0⟩
  · have h2z : (q == 2) = false := by simp [h2]
    cases hin : inB m 0 120
    · have Hc := Lib.hid (show ctC ts x m = 2 by unfold ctC; rw [hin]; rfl)
      have H0 := Lib.hid (show ctR ts x m = 0 by unfold ctR; rw [Hc.out]; rfl)
      have Hq := Lib.hid hq
      have Hin := Lib.hid hin
      clear hq hin
      go_enter Try.func38, Try.ntmps38
      go_wp2_with fail
      refine (l10Code_c _ _ ts [x] 0 _ (hI.later hB0) (ints_one_new w x _) hm (by simp)).mono ?_
      rintro e w1 ⟨he, hw1⟩
      rw [Hz.out, Hq.out] at he
      subst he
      rw [← hw1]
      clear hw1
      go_wp2_with fail
      refine (l01In_d false _ _ _ _ Hin.out).mono ?_
      rintro e w' ⟨rfl, hw1⟩
      rw [← hw1]
      clear hw1
      go_wp2
      go_ret2
      exact ⟨ret_i2d H0.out.symm Hc.out.symm, hB0⟩
    · have hcq : ctC ts x m = q := by unfold ctC; rw [hin, hq]; rfl
      by_cases hz : q = 0
      · subst hz
        have hi := inB_true.1 hin
        have hl := comC_len hq
        have Hh := Lib.hid (has_one (comC_has hq))
        have H0 := Lib.hid (show ctR ts x m = (ctTo ts x m ts.length : Nat) by unfold ctR; rw [if_pos hcq])
        have Hc := Lib.hid hcq
        have Hq := Lib.hid hq
        have Hin := Lib.hid hin
        clear hcq hin hq h2 h2z
        go_enter Try.func38, Try.ntmps38
        go_wp2_with fail
        refine (l10Code_c _ _ ts [x] 0 _ (hI.later hB0) (ints_one_new w x _) hm (by simp)).mono ?_
        rintro e w1 ⟨he, hw1⟩
        rw [Hz.out, Hq.out] at he
        subst he
        rw [← hw1]
        clear hw1
        go_wp2_with fail
        refine (l01In_d true _ _ _ _ Hin.out).mono ?_
        rintro e w' ⟨rfl, hw1⟩
        rw [← hw1]
        clear hw1
        obtain ⟨W0, hW0⟩ : ∃ W0, w.alloc (.cells #[.int .i64 x] 2) = W0 := ⟨_, rfl⟩
        rw [hW0] at hB0 ⊢
        clear hW0
        go_wp2
        go_loop [9, 10] (fun p n => ∃ k : Nat, k ≤ ts.length ∧ n = .int .i64 k ∧ p = .int .i64 (ctTo ts x m k : Nat)) (fun _ n => ts.length - (intOf n).toNat)
        case atStart => exact ⟨0, Nat.zero_le _, rfl, rfl⟩
        case round =>
          obtain ⟨k, hk, rfl, rfl⟩ := hrel
          have hbd := ctTo_le ts x m k
          by_cases hlt : k < ts.length
          · have hwl := wa_lt [x] (s := k) (show 0 < ts.length by omega) (by omega)
            have h1 := ix_shift (s := k) Hh.out
            obtain ⟨q, hq⟩ : ∃ q, wa ts [x] k = q := ⟨_, rfl⟩
            have Hy := Lib.hid (ctTo_yes (ts := ts) (x := x) (m := m) (k := k))
            have Hn := Lib.hid (fun h : m < (wa ts [x] k : Int) => ctTo_no (ts := ts) (x := x) (m := m) (k := k) (by omega))
            have Hq := Lib.hid hq
            rw [hq] at h1 hwl
            have Hx1 := Lib.hid h1
            clear h1 hq
            obtain ⟨p, hp⟩ : ∃ p, ctTo ts x m k = p := ⟨_, rfl⟩
            have Hp := Lib.hid hp
            rw [hp] at hbd ⊢
            clear hp
            go_wp2_with fail
            refine (l10Wait_c _ ts x k _ (hI.later hB0) (by omega) (by omega) hlt).mono ?_
            rintro e w' ⟨he, rfl⟩
            rw [Hx1.out] at he
            subst he
            by_cases hle : (q : Int) ≤ m
            · have E := Lib.hid (Hy.out (by rw [Hq.out]; exact hle))
              go_wp2
              go_round
              case rel => exact ⟨k + 1, by omega, by simp, by rw [E.out, Hp.out]; simp⟩
              case measure => simp [intOf]; omega
            · have E := Lib.hid (Hn.out (by rw [Hq.out]; omega))
              go_wp2
              go_round
              case rel => exact ⟨k + 1, by omega, by simp, by rw [E.out, Hp.out]⟩
              case measure => simp [intOf]; omega
          · obtain rfl : k = ts.length := by omega
            go_wp2
            go_ret2
            exact ⟨ret_i2d H0.out.symm Hc.out.symm, hB0⟩
      · have H0 := Lib.hid (show ctR ts x m = 0 by unfold ctR; rw [if_neg (by rw [hcq]; exact hz)])
        have hzz : (q == 0) = false := by simp [hz]
        have Hc := Lib.hid hcq
        have Hq := Lib.hid hq
        have Hin := Lib.hid hin
        clear hq hin hcq
        go_enter Try.func38, Try.ntmps38
        go_wp2_with fail
        refine (l10Code_c _ _ ts [x] 0 _ (hI.later hB0) (ints_one_new w x _) hm (by simp)).mono ?_
        rintro e w1 ⟨he, hw1⟩
        rw [Hz.out, Hq.out] at he
        subst he
        rw [← hw1]
        clear hw1
        go_wp2_with fail
        refine (l01In_d true _ _ _ _ Hin.out).mono ?_
        rintro e w' ⟨rfl, hw1⟩
        rw [← hw1]
        clear hw1
        go_wp2
        go_ret2
        exact ⟨ret_i2d H0.out.symm Hc.out.symm, hB0⟩

end Go.Proofs.Ytgndbifcncklgaa
