/-
  WaitFrom, WaitForBoth, MeanWait, MeanForBoth of the model.
  Conditions: lists of at most 1048576 elements.
-/
import Derived.Test.YtgndbifcncklgaaWaq
namespace Go.Proofs.Ytgndbifcncklgaa
open Go.RowKit Go.Shelf

theorem comC_has {ts is : List Int} (h : comC ts is = 0) : hasAll ts is = true := by
  rcases comC_cases ts is with ⟨_, h1⟩ | ⟨_, _, h1⟩ | ⟨_, h2, _⟩
  · omega
  · omega
  · exact h2
theorem comS_has {ts is : List Int} {s : Int} (h : comS ts is s = 0) : hasAll ts is = true := by
  cases hs : inB s 0 (ts.length - 1)
  · rw [comS_out hs] at h; cases h
  · rw [comS_in hs] at h; exact comC_has h
theorem has_one {ts : List Int} {x : Int} (h : hasAll ts [x] = true) : ts.contains x = true := hasAll_nth (is := [x]) (k := 0) h (by simp)
theorem has_two {ts : List Int} {x y : Int} (h : hasAll ts [x, y] = true) : ts.contains x = true ∧ ts.contains y = true := ⟨hasAll_nth (is := [x, y]) (k := 0) h (by simp), hasAll_nth (is := [x, y]) (k := 1) h (by simp)⟩

set_option maxRecDepth 100000 in
set_option maxHeartbeats 4000000 in
theorem s_MeanWait (c0 : Value) (ts : List Int) (x : Int) (w : World) (hI : Ints w.heap.size w c0 ts) (_hN : I64s ts) (hm : ts.length ≤ 1048576) (_hx : I64 x) :
    Calls Try.prog 28 #[c0, .int .i64 x] w fun e w' => e = .returned (.tuple #[.int .i64 (mnR ts [x]), .int .i64 (mdR ts [x]), .int .i64 (comC ts [x])]) ∧ Below w.heap.size w w' := by
  obtain ⟨a, cap, rfl⟩ := hI.shape
  have hB0 : Below w.heap.size w (w.alloc (.cells #[.int .i64 x] 2)) := (Below.refl _ w).alloc (Nat.le_refl _) _
  have Hz := Lib.hid (comS_zero ts [x])
  by_cases hc : comC ts [x] = 0
  · have hl := comC_len hc
    have hh := has_one (comC_has hc)
    have Hh := Lib.hid hh
    have hsm := suW_le2 [x, x] (show 0 < ts.length by omega) (by omega) (Nat.le_refl _)
    have Hn := Lib.hid (show mnR ts [x] = (lowN (suW ts [x, x] ts.length) ts.length : Nat) by unfold mnR; rw [if_pos hc]; rw [suW_same])
    have Hd := Lib.hid (show mdR ts [x] = (lowD (suW ts [x, x] ts.length) ts.length : Nat) by unfold mdR; rw [if_pos hc]; rw [suW_same])
    have Hc := Lib.hid hc
    clear hc hh
    go_enter Try.func28, Try.ntmps28
    go_wp2_with fail
    refine (l10Code_c _ _ ts [x] 0 _ (hI.later hB0) (ints_one_new w x _) hm (by simp)).mono ?_
    rintro e w1 ⟨he, hw1⟩
    rw [Hz.out, Hc.out] at he
    subst he
    rw [← hw1]
    clear hw1
    go_wp2_with fail
    refine (l10Sum_c _ ts x x _ (hI.later hB0) (by omega) (by omega) Hh.out Hh.out).mono ?_
    rintro e w2 ⟨rfl, hw2⟩
    rw [← hw2]
    clear hw2
    obtain ⟨m, hmm⟩ : ∃ m, suW ts [x, x] ts.length = m := ⟨_, rfl⟩
    rw [hmm] at hsm
    have Hm := Lib.hid hmm
    rw [hmm]
    clear hmm
    go_wp2_with fail
    refine (l01Lowest_c m ts.length _ (by omega) (by omega) (by omega)).mono ?_
    rintro e w3 ⟨rfl, hb3⟩
    have hB3 := hB0.trans (hb3.mono hB0.size)
    clear hb3
    go_wp2_with fail
    go_ret3
    exact ⟨ret_i3d (by rw [Hn.out, Hm.out]) (by rw [Hd.out, Hm.out]) Hc.out.symm, hB3⟩
  · have Hn := Lib.hid (show mnR ts [x] = 0 by unfold mnR; rw [if_neg hc])
    have Hd := Lib.hid (show mdR ts [x] = 0 by unfold mdR; rw [if_neg hc])
    have hcz : (comC ts [x] == 0) = false := by simp [hc]
    obtain ⟨q, hq⟩ : ∃ q, comC ts [x] = q := ⟨_, rfl⟩
    have Hq := Lib.hid hq
    rw [hq] at hcz hc
    clear hq
    go_enter Try.func28, Try.ntmps28
    go_wp2_with fail
    refine (l10Code_c _ _ ts [x] 0 _ (hI.later hB0) (ints_one_new w x _) hm (by simp)).mono ?_
    rintro e w1 ⟨he, hw1⟩
    rw [Hz.out, Hq.out] at he
    subst he
    rw [← hw1]
    clear hw1
    go_wp2
    go_ret3
    exact ⟨ret_i3d Hn.out.symm Hd.out.symm Hq.out.symm, hB0⟩

set_option maxRecDepth 100000 in
set_option maxHeartbeats 4000000 in
theorem s_MeanForBoth (c0 : Value) (ts : List Int) (x y : Int) (w : World) (hI : Ints w.heap.size w c0 ts) (_hN : I64s ts) (hm : ts.length ≤ 1048576) (_hx : I64 x) (_hy : I64 y) :
    Calls Try.prog 36 #[c0, .int .i64 x, .int .i64 y] w fun e w' => e = .returned (.tuple #[.int .i64 (mnR ts [x, y]), .int .i64 (mdR ts [x, y]), .int .i64 (comC ts [x, y])]) ∧ Below w.heap.size w w' := by
  obtain ⟨a, cap, rfl⟩ := hI.shape
  have hB0 : Below w.heap.size w (w.alloc (.cells #[.int .i64 x, .int .i64 y] 2)) := (Below.refl _ w).alloc (Nat.le_refl _) _
  have Hz := Lib.hid (comS_zero ts [x, y])
  by_cases hc : comC ts [x, y] = 0
  · have hl := comC_len hc
    have hh := has_two (comC_has hc)
    have Hh := Lib.hid hh
    have hsm := suW_le2 [x, y] (show 0 < ts.length by omega) (by omega) (Nat.le_refl _)
    have Hn := Lib.hid (show mnR ts [x, y] = (lowN (suW ts [x, y] ts.length) ts.length : Nat) by unfold mnR; rw [if_pos hc])
    have Hd := Lib.hid (show mdR ts [x, y] = (lowD (suW ts [x, y] ts.length) ts.length : Nat) by unfold mdR; rw [if_pos hc])
    have Hc := Lib.hid hc
    clear hc hh
    go_enter Try.func36, Try.ntmps36
    go_wp2_with fail
    refine (l10Code_c _ _ ts [x, y] 0 _ (hI.later hB0) (ints_two_new w x y _) hm (by simp)).mono ?_
    rintro e w1 ⟨he, hw1⟩
    rw [Hz.out, Hc.out] at he
    subst he
    rw [← hw1]
    clear hw1
    go_wp2_with fail
    refine (l10Sum_c _ ts x y _ (hI.later hB0) (by omega) (by omega) Hh.out.1 Hh.out.2).mono ?_
    rintro e w2 ⟨rfl, hw2⟩
    rw [← hw2]
    clear hw2
    obtain ⟨m, hmm⟩ : ∃ m, suW ts [x, y] ts.length = m := ⟨_, rfl⟩
    rw [hmm] at hsm
    have Hm := Lib.hid hmm
    rw [hmm]
    clear hmm
    go_wp2_with fail
    refine (l01Lowest_c m ts.length _ (by omega) (by omega) (by omega)).mono ?_
    rintro e w3 ⟨rfl, hb3⟩
    have hB3 := hB0.trans (hb3.mono hB0.size)
    clear hb3
    go_wp2_with fail
    go_ret3
    exact ⟨ret_i3d (by rw [Hn.out, Hm.out]) (by rw [Hd.out, Hm.out]) Hc.out.symm, hB3⟩
  · have Hn := Lib.hid (show mnR ts [x, y] = 0 by unfold mnR; rw [if_neg hc])
    have Hd := Lib.hid (show mdR ts [x, y] = 0 by unfold mdR; rw [if_neg hc])
    have hcz : (comC ts [x, y] == 0) = false := by simp [hc]
    obtain ⟨q, hq⟩ : ∃ q, comC ts [x, y] = q := ⟨_, rfl⟩
    have Hq := Lib.hid hq
    rw [hq] at hcz hc
    clear hq
    go_enter Try.func36, Try.ntmps36
    go_wp2_with fail
    refine (l10Code_c _ _ ts [x, y] 0 _ (hI.later hB0) (ints_two_new w x y _) hm (by simp)).mono ?_
    rintro e w1 ⟨he, hw1⟩
    rw [Hz.out, Hq.out] at he
    subst he
    rw [← hw1]
    clear hw1
    go_wp2
    go_ret3
    exact ⟨ret_i3d Hn.out.symm Hd.out.symm Hq.out.symm, hB0⟩

set_option maxRecDepth 100000 in
set_option maxHeartbeats 4000000 in
theorem s_WaitFrom (c0 : Value) (ts : List Int) (x : Int) (s : Int) (w : World) (hI : Ints w.heap.size w c0 ts) (_hN : I64s ts) (hm : ts.length ≤ 1048576) (_hx : I64 x) (_hs : I64 s) :
    Calls Try.prog 24 #[c0, .int .i64 x, .int .i64 s] w fun e w' => e = .returned (.tuple #[.int .i64 (wfR ts [x] s), .int .i64 (comS ts [x] s)]) ∧ Below w.heap.size w w' := by
  obtain ⟨a, cap, rfl⟩ := hI.shape
  have hB0 : Below w.heap.size w (w.alloc (.cells #[.int .i64 x] 2)) := (Below.refl _ w).alloc (Nat.le_refl _) _
  by_cases hc : comS ts [x] s = 0
  · obtain ⟨hl, k, rfl, hk⟩ := comS_nat hc
    have Hh := Lib.hid (has_one (comS_has hc))
    have Hn := Lib.hid (show wfR ts [x] k = (wa ts [x] k : Nat) by unfold wfR; rw [if_pos hc]; rfl)
    have Hc := Lib.hid hc
    clear hc
    go_enter Try.func24, Try.ntmps24
    go_wp2_with fail
    refine (l10Code_c _ _ ts [x] k _ (hI.later hB0) (ints_one_new w x _) hm (by simp)).mono ?_
    rintro e w1 ⟨he, hw1⟩
    rw [Hc.out] at he
    subst he
    rw [← hw1]
    clear hw1
    have h1 := ix_shift (s := k) Hh.out
    have H1 := Lib.hid h1
    clear h1
    go_wp2_with fail
    refine (l10Wait_c _ ts x k _ (hI.later hB0) (by omega) (by omega) hk).mono ?_
    rintro e w' ⟨he, hw1⟩
    rw [H1.out] at he
    subst he
    rw [← hw1]
    clear hw1
    go_wp2
    go_ret2
    exact ⟨ret_i2d (by rw [Hn.out]) Hc.out.symm, hB0⟩
  · have Hn := Lib.hid (show wfR ts [x] s = 0 by unfold wfR; rw [if_neg hc])
    have hcz : (comS ts [x] s == 0) = false := by simp [hc]
    obtain ⟨q, hq⟩ : ∃ q, comS ts [x] s = q := ⟨_, rfl⟩
    have Hq := Lib.hid hq
    rw [hq] at hcz hc
    clear hq
    go_enter Try.func24, Try.ntmps24
    go_wp2_with fail
    refine (l10Code_c _ _ ts [x] s _ (hI.later hB0) (ints_one_new w x _) hm (by simp)).mono ?_
    rintro e w1 ⟨he, hw1⟩
    rw [Hq.out] at he
    subst he
    rw [← hw1]
    clear hw1
    go_wp2
    go_ret2
    exact ⟨ret_i2d Hn.out.symm Hq.out.symm, hB0⟩

set_option maxRecDepth 100000 in
set_option maxHeartbeats 4000000 in
theorem s_WaitForBoth (c0 : Value) (ts : List Int) (x y : Int) (s : Int) (w : World) (hI : Ints w.heap.size w c0 ts) (_hN : I64s ts) (hm : ts.length ≤ 1048576) (_hx : I64 x) (_hy : I64 y) (_hs : I64 s) :
    Calls Try.prog 34 #[c0, .int .i64 x, .int .i64 y, .int .i64 s] w fun e w' => e = .returned (.tuple #[.int .i64 (wfR ts [x, y] s), .int .i64 (comS ts [x, y] s)]) ∧ Below w.heap.size w w' := by
  obtain ⟨a, cap, rfl⟩ := hI.shape
  have hB0 : Below w.heap.size w (w.alloc (.cells #[.int .i64 x, .int .i64 y] 2)) := (Below.refl _ w).alloc (Nat.le_refl _) _
  by_cases hc : comS ts [x, y] s = 0
  · obtain ⟨hl, k, rfl, hk⟩ := comS_nat hc
    have Hh := Lib.hid (has_two (comS_has hc))
    have Hn := Lib.hid (show wfR ts [x, y] k = (wa ts [x, y] k : Nat) by unfold wfR; rw [if_pos hc]; rfl)
    have Hc := Lib.hid hc
    clear hc
    go_enter Try.func34, Try.ntmps34
    go_wp2_with fail
    refine (l10Code_c _ _ ts [x, y] k _ (hI.later hB0) (ints_two_new w x y _) hm (by simp)).mono ?_
    rintro e w1 ⟨he, hw1⟩
    rw [Hc.out] at he
    subst he
    rw [← hw1]
    clear hw1
    obtain ⟨p, hp⟩ : ∃ p, iw (shiftL ts k) x = p := ⟨_, rfl⟩
    obtain ⟨q, hq⟩ : ∃ q, iw (shiftL ts k) y = q := ⟨_, rfl⟩
    have h1 := ix_shift (s := k) Hh.out.1
    have h2 := ix_shift (s := k) Hh.out.2
    have p1 := iw_lt (xs := shiftL ts k) (by rw [shiftL_length (by omega)]; omega) x
    have p2 := iw_lt (xs := shiftL ts k) (by rw [shiftL_length (by omega)]; omega) y
    rw [shiftL_length (by omega)] at p1 p2
    have hw := wa_two ts x y k
    rw [wa_one, hp] at h1
    rw [wa_one, hq] at h2
    rw [hp] at p1
    rw [hq] at p2
    rw [hp, hq] at hw
    have H1 := Lib.hid h1
    have H2 := Lib.hid h2
    have Hw := Lib.hid hw
    clear h1 h2 hp hq hw
    by_cases hpq : p < q
    · go_wp2_with fail
      refine (l10Wait_c _ ts x k _ (hI.later hB0) (by omega) (by omega) hk).mono ?_
      rintro e w' ⟨he, hw1⟩
      rw [H1.out] at he
      subst he
      rw [← hw1]
      clear hw1
      go_wp2_with fail
      refine (l10Wait_c _ ts y k _ (hI.later hB0) (by omega) (by omega) hk).mono ?_
      rintro e w' ⟨he, hw1⟩
      rw [H2.out] at he
      subst he
      rw [← hw1]
      clear hw1
      go_wp2
      go_ret2
      exact ⟨ret_i2d (by rw [Hn.out, Hw.out, Nat.max_eq_right (by omega)]) Hc.out.symm, hB0⟩
    · go_wp2_with fail
      refine (l10Wait_c _ ts x k _ (hI.later hB0) (by omega) (by omega) hk).mono ?_
      rintro e w' ⟨he, hw1⟩
      rw [H1.out] at he
      subst he
      rw [← hw1]
      clear hw1
      go_wp2_with fail
      refine (l10Wait_c _ ts y k _ (hI.later hB0) (by omega) (by omega) hk).mono ?_
      rintro e w' ⟨he, hw1⟩
      rw [H2.out] at he
      subst he
      rw [← hw1]
      clear hw1
      go_wp2
      go_ret2
      exact ⟨ret_i2d (by rw [Hn.out, Hw.out, Nat.max_eq_left (by omega)]) Hc.out.symm, hB0⟩
  · have Hn := Lib.hid (show wfR ts [x, y] s = 0 by unfold wfR; rw [if_neg hc])
    have hcz : (comS ts [x, y] s == 0) = false := by simp [hc]
    obtain ⟨q, hq⟩ : ∃ q, comS ts [x, y] s = q := ⟨_, rfl⟩
    have Hq := Lib.hid hq
    rw [hq] at hcz hc
    clear hq
    go_enter Try.func34, Try.ntmps34
    go_wp2_with fail
    refine (l10Code_c _ _ ts [x, y] s _ (hI.later hB0) (ints_two_new w x y _) hm (by simp)).mono ?_
    rintro e w1 ⟨he, hw1⟩
    rw [Hq.out] at he
    subst he
    rw [← hw1]
    clear hw1
    go_wp2
    go_ret2
    exact ⟨ret_i2d Hn.out.symm Hq.out.symm, hB0⟩

end Go.Proofs.Ytgndbifcncklgaa
