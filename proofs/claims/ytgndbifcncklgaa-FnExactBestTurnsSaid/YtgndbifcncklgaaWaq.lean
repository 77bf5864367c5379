/-
  WaitFrom, WaitForBoth, MeanWait, MeanForBoth of the program.
  Conditions: lists of at most 1048576 elements.
-/
import Derived.Test.YtgndbifcncklgaaWap
namespace Go.Proofs.Ytgndbifcncklgaa
open Go.RowKit Go.Shelf
attribute [local go_sem] Oper.semAt_some

/-- what a mean is, 0 with an error -/
def mnR (ts is : List Int) : Int := if comC ts is = 0 then (lowN (suW ts is ts.length) ts.length : Nat) else 0
def mdR (ts is : List Int) : Int := if comC ts is = 0 then (lowD (suW ts is ts.length) ts.length : Nat) else 0
/-- what a wait is -/
def wfR (ts is : List Int) (s : Int) : Int := if comS ts is s = 0 then (wa ts is s.toNat : Nat) else 0
theorem ints_one {n₀ b : Nat} {W : World} {x : Int} (h : b < n₀) (h0 : W.cell? ⟨b, 0, none⟩ = some (.int .i64 x)) : Ints n₀ W (.slice (some ⟨b, 0, none⟩) 1 1) [x] :=
  ⟨_, _, rfl, .inr ⟨b, 0, rfl, h, fun j hj => by obtain rfl : j = 0 := (by simp at hj; omega); exact h0⟩⟩
theorem ints_two {n₀ b : Nat} {W : World} {x y : Int} (h : b < n₀) (h0 : W.cell? ⟨b, 0, none⟩ = some (.int .i64 x)) (h1 : W.cell? ⟨b, 1, none⟩ = some (.int .i64 y)) : Ints n₀ W (.slice (some ⟨b, 0, none⟩) 2 2) [x, y] :=
  ⟨_, _, rfl, .inr ⟨b, 0, rfl, h, fun j hj => by
    match j, hj with
    | 0, _ => exact h0
    | 1, _ => exact h1
    | j + 2, hj => simp at hj; omega⟩⟩
theorem ints_one_new (w : World) (x : Int) (t : TypeId) : Ints (w.alloc (.cells #[.int .i64 x] t)).heap.size (w.alloc (.cells #[.int .i64 x] t)) (.slice (some ⟨w.heap.size, 0, none⟩) 1 1) [x] :=
  ints_one (by simp) (by simp [go_sem])
theorem ints_two_new (w : World) (x y : Int) (t : TypeId) : Ints (w.alloc (.cells #[.int .i64 x, .int .i64 y] t)).heap.size (w.alloc (.cells #[.int .i64 x, .int .i64 y] t)) (.slice (some ⟨w.heap.size, 0, none⟩) 2 2) [x, y] :=
  ints_two (by simp) (by simp [go_sem]) (by simp [go_sem])
theorem comC_len {ts is : List Int} (h : comC ts is = 0) : 1 ≤ ts.length ∧ ts.length ≤ 120 := by
  rcases comC_cases ts is with ⟨_, h1⟩ | ⟨_, _, h1⟩ | ⟨h1, _, _⟩
  · omega
  · omega
  · exact turnsOk_len (comB_turns h1)

theorem comS_nat {ts is : List Int} {s : Int} (h : comS ts is s = 0) : (1 ≤ ts.length ∧ ts.length ≤ 120) ∧ ∃ k : Nat, s = k ∧ k < ts.length := by
  cases hs : inB s 0 (ts.length - 1)
  · rw [comS_out hs] at h; cases h
  · rw [comS_in hs] at h
    have hl := comC_len h
    have := inB_true.1 hs
    exact ⟨hl, s.toNat, by omega, by omega⟩

set_option maxRecDepth 100000 in
set_option maxHeartbeats 4000000 in
theorem i_MeanWait (c0 : Value) (ts : List Int) (x : Int) (w : World) (hI : Ints w.heap.size w c0 ts) (_hN : I64s ts) (hm : ts.length ≤ 1048576) (_hx : I64 x) :
    Calls Try.prog 29 #[c0, .int .i64 x] w fun e w' => e = .returned (.tuple #[.int .i64 (mnR ts [x]), .int .i64 (mdR ts [x]), .int .i64 (comC ts [x])]) ∧ Below w.heap.size w w' := by
  obtain ⟨a, cap, rfl⟩ := hI.shape
  have hB0 : Below w.heap.size w (w.alloc (.cells #[.int .i64 x] 2)) := (Below.refl _ w).alloc (Nat.le_refl _) _
  by_cases hc : comC ts [x] = 0
  · have hl := comC_len hc
    have Hn := Lib.hid (show mnR ts [x] = (lowN (suW ts [x] ts.length) ts.length : Nat) by unfold mnR; rw [if_pos hc])
    have Hd := Lib.hid (show mdR ts [x] = (lowD (suW ts [x] ts.length) ts.length : Nat) by unfold mdR; rw [if_pos hc])
    have Hc := Lib.hid hc
    clear hc
    go_enter Try.func29, Try.ntmps29
    go_wp2_with fail
    refine (checkWaiting_c _ _ ts [x] _ (hI.later hB0) (ints_one_new w x _) hm (by simp)).mono ?_
    rintro e w1 ⟨he, hb1⟩
    rw [Hc.out] at he
    subst he
    have hB1 := hB0.trans (hb1.mono hB0.size)
    clear hb1 hB0
    go_wp2_with fail
    have hB2 : Below w1.heap.size w1 (w1.alloc (.cells #[.int .i64 x] 2)) := (Below.refl _ w1).alloc (Nat.le_refl _) _
    have hB3 := hB1.trans (hB2.mono hB1.size)
    refine (meanWaitFor_c _ _ ts [x] _ (hI.later hB3) (ints_one_new w1 x _) (by omega) (by omega) (by simp)).mono ?_
    rintro e w2 ⟨rfl, hb3⟩
    have hB4 := hB3.trans (hb3.mono hB3.size)
    clear hB1 hB2 hB3 hb3
    obtain ⟨m, hm⟩ : ∃ m, lowN (suW ts [x] ts.length) ts.length = m := ⟨_, rfl⟩
    obtain ⟨n, hn⟩ : ∃ n, lowD (suW ts [x] ts.length) ts.length = n := ⟨_, rfl⟩
    have Hm := Lib.hid hm
    have Hz := Lib.hid hn
    rw [hm, hn]
    clear hm hn
    go_wp2_with fail
    obtain ⟨W3, hW3⟩ : ∃ W3, w2.alloc (.cells #[.int .i64 (m : Int), .int .i64 (n : Int)] 76) = W3 := ⟨_, rfl⟩
    have b3 : Box2 W3 w2.heap.size 76 (.int .i64 (m : Int)) (.int .i64 (n : Int)) := by rw [← hW3]; exact Box2.new _ _ _ _
    have hB5 : Below w.heap.size w W3 := by rw [← hW3]; exact hB4.alloc hB4.size _
    have d0 := b3.c0
    have d1 := b3.c1
    rw [hW3]
    clear hW3 hB4
    go_region
    go_wp2
    go_ret3
    exact ⟨ret_i3d (by rw [Hn.out, Hm.out]) (by rw [Hd.out, Hz.out]) Hc.out.symm, hB5.drew⟩
  · have Hn := Lib.hid (show mnR ts [x] = 0 by unfold mnR; rw [if_neg hc])
    have Hd := Lib.hid (show mdR ts [x] = 0 by unfold mdR; rw [if_neg hc])
    have hcz : (comC ts [x] == 0) = false := by simp [hc]
    obtain ⟨q, hq⟩ : ∃ q, comC ts [x] = q := ⟨_, rfl⟩
    have Hq := Lib.hid hq
    rw [hq] at hcz hc
    clear hq
    go_enter Try.func29, Try.ntmps29
    go_wp2_with fail
    refine (checkWaiting_c _ _ ts [x] _ (hI.later hB0) (ints_one_new w x _) hm (by simp)).mono ?_
    rintro e w1 ⟨he, hb1⟩
    rw [Hq.out] at he
    subst he
    have hB1 := hB0.trans (hb1.mono hB0.size)
    clear hb1 hB0
    go_wp2
    go_ret3
    exact ⟨ret_i3d Hn.out.symm Hd.out.symm Hq.out.symm, hB1⟩

set_option maxRecDepth 100000 in
set_option maxHeartbeats 4000000 in
theorem i_MeanForBoth (c0 : Value) (ts : List Int) (x y : Int) (w : World) (hI : Ints w.heap.size w c0 ts) (_hN : I64s ts) (hm : ts.length ≤ 1048576) (_hx : I64 x) (_hy : I64 y) :
    Calls Try.prog 37 #[c0, .int .i64 x, .int .i64 y] w fun e w' => e = .returned (.tuple #[.int .i64 (mnR ts [x, y]), .int .i64 (mdR ts [x, y]), .int .i64 (comC ts [x, y])]) ∧ Below w.heap.size w w' := by
  obtain ⟨a, cap, rfl⟩ := hI.shape
  have hB0 : Below w.heap.size w (w.alloc (.cells #[.int .i64 x, .int .i64 y] 2)) := (Below.refl _ w).alloc (Nat.le_refl _) _
  by_cases hc : comC ts [x, y] = 0
  · have hl := comC_len hc
    have Hn := Lib.hid (show mnR ts [x, y] = (lowN (suW ts [x, y] ts.length) ts.length : Nat) by unfold mnR; rw [if_pos hc])
    have Hd := Lib.hid (show mdR ts [x, y] = (lowD (suW ts [x, y] ts.length) ts.length : Nat) by unfold mdR; rw [if_pos hc])
    have Hc := Lib.hid hc
    clear hc
    go_enter Try.func37, Try.ntmps37
    go_wp2_with fail
    refine (checkWaiting_c _ _ ts [x, y] _ (hI.later hB0) (ints_two_new w x y _) hm (by simp)).mono ?_
    rintro e w1 ⟨he, hb1⟩
    rw [Hc.out] at he
    subst he
    have hB1 := hB0.trans (hb1.mono hB0.size)
    clear hb1 hB0
    go_wp2_with fail
    have hB2 : Below w1.heap.size w1 (w1.alloc (.cells #[.int .i64 x, .int .i64 y] 2)) := (Below.refl _ w1).alloc (Nat.le_refl _) _
    have hB3 := hB1.trans (hB2.mono hB1.size)
    refine (meanWaitFor_c _ _ ts [x, y] _ (hI.later hB3) (ints_two_new w1 x y _) (by omega) (by omega) (by simp)).mono ?_
    rintro e w2 ⟨rfl, hb3⟩
    have hB4 := hB3.trans (hb3.mono hB3.size)
    clear hB1 hB2 hB3 hb3
    obtain ⟨m, hm⟩ : ∃ m, lowN (suW ts [x, y] ts.length) ts.length = m := ⟨_, rfl⟩
    obtain ⟨n, hn⟩ : ∃ n, lowD (suW ts [x, y] ts.length) ts.length = n := ⟨_, rfl⟩
    have Hm := Lib.hid hm
    have Hz := Lib.hid hn
    rw [hm, hn]
    clear hm hn
    go_wp2_with fail
    obtain ⟨W3, hW3⟩ : ∃ W3, w2.alloc (.cells #[.int .i64 (m : Int), .int .i64 (n : Int)] 76) = W3 := ⟨_, rfl⟩
    have b3 : Box2 W3 w2.heap.size 76 (.int .i64 (m : Int)) (.int .i64 (n : Int)) := by rw [← hW3]; exact Box2.new _ _ _ _
    have hB5 : Below w.heap.size w W3 := by rw [← hW3]; exact hB4.alloc hB4.size _
    have d0 := b3.c0
    have d1 := b3.c1
    rw [hW3]
    clear hW3 hB4
    go_region
    go_wp2
    go_ret3
    exact ⟨ret_i3d (by rw [Hn.out, Hm.out]) (by rw [Hd.out, Hz.out]) Hc.out.symm, hB5.drew⟩
  · have Hn := Lib.hid (show mnR ts [x, y] = 0 by unfold mnR; rw [if_neg hc])
    have Hd := Lib.hid (show mdR ts [x, y] = 0 by unfold mdR; rw [if_neg hc])
    have hcz : (comC ts [x, y] == 0) = false := by simp [hc]
    obtain ⟨q, hq⟩ : ∃ q, comC ts [x, y] = q := ⟨_, rfl⟩
    have Hq := Lib.hid hq
    rw [hq] at hcz hc
    clear hq
    go_enter Try.func37, Try.ntmps37
    go_wp2_with fail
    refine (checkWaiting_c _ _ ts [x, y] _ (hI.later hB0) (ints_two_new w x y _) hm (by simp)).mono ?_
    rintro e w1 ⟨he, hb1⟩
    rw [Hq.out] at he
    subst he
    have hB1 := hB0.trans (hb1.mono hB0.size)
    clear hb1 hB0
    go_wp2
    go_ret3
    exact ⟨ret_i3d Hn.out.symm Hd.out.symm Hq.out.symm, hB1⟩

set_option maxRecDepth 100000 in
set_option maxHeartbeats 4000000 in
theorem i_WaitFrom (c0 : Value) (ts : List Int) (x : Int) (s : Int) (w : World) (hI : Ints w.heap.size w c0 ts) (_hN : I64s ts) (hm : ts.length ≤ 1048576) (_hx : I64 x) (hs : I64 s) :
    Calls Try.prog 26 #[c0, .int .i64 x, .int .i64 s] w fun e w' => e = .returned (.tuple #[.int .i64 (wfR ts [x] s), .int .i64 (comS ts [x] s)]) ∧ Below w.heap.size w w' := by
  obtain ⟨a, cap, rfl⟩ := hI.shape
  have hB0 : Below w.heap.size w (w.alloc (.cells #[.int .i64 x] 2)) := (Below.refl _ w).alloc (Nat.le_refl _) _
  by_cases hc : comS ts [x] s = 0
  · obtain ⟨hl, k, rfl, hk⟩ := comS_nat hc
    have Hn := Lib.hid (show wfR ts [x] k = (waTo (shiftL ts k) [x] [x].length : Nat) by unfold wfR; rw [if_pos hc]; rfl)
    have Hc := Lib.hid hc
    clear hc
    go_enter Try.func26, Try.ntmps26
    go_wp2_with fail
    refine (checkComing_c _ _ ts [x] k _ (hI.later hB0) (ints_one_new w x _) hm (by simp) hs).mono ?_
    rintro e w1 ⟨he, hb1⟩
    rw [Hc.out] at he
    subst he
    have hB1 := hB0.trans (hb1.mono hB0.size)
    clear hb1 hB0
    go_wp2_with fail
    refine (twice_c _ ts _ (hI.later hB1) (by omega) (by omega)).mono ?_
    rintro e w2 ⟨v, rfl, ho, hb2⟩
    have hcp := ho.capOk
    obtain ⟨g, c, rfl, hg1, hg2⟩ := ho.shape (by simp; omega)
    obtain ⟨_, c2, e2, hcc, hcm⟩ := hcp
    cases e2
    simp only [id, List.length_append] at hcc ho ⊢
    have hB2 := hB1.trans (hb2.mono hB1.size)
    clear hb2 hB1
    go_wp2_with fail
    refine (shiftIn_c g c ts.length k _ (by omega) (by omega) hcc (by omega)).mono ?_
    rintro e w' ⟨rfl, hw⟩
    rw [hw]
    clear hw
    go_wp2_with fail
    have hB3 : Below w2.heap.size w2 (w2.alloc (.cells #[.int .i64 x] 2)) := (Below.refl _ w2).alloc (Nat.le_refl _) _
    have hB4 := hB2.trans (hB3.mono hB2.size)
    have hsl : (shiftL ts k).length = ts.length := shiftL_length (by omega)
    refine (waitFor_c _ _ (shiftL ts k) [x] _ (ints_sh (ho.below hB3) hk) (ints_one_new w2 x _) (by omega) (by omega) (by simp)).mono ?_
    rintro e w3 ⟨rfl, hb3⟩
    go_wp2
    go_ret2
    exact ⟨ret_i2d Hn.out.symm Hc.out.symm, hB4.trans (hb3.mono hB4.size)⟩
  · have Hn := Lib.hid (show wfR ts [x] s = 0 by unfold wfR; rw [if_neg hc])
    have hcz : (comS ts [x] s == 0) = false := by simp [hc]
    obtain ⟨q, hq⟩ : ∃ q, comS ts [x] s = q := ⟨_, rfl⟩
    have Hq := Lib.hid hq
    rw [hq] at hcz hc
    clear hq
    go_enter Try.func26, Try.ntmps26
    go_wp2_with fail
    refine (checkComing_c _ _ ts [x] s _ (hI.later hB0) (ints_one_new w x _) hm (by simp) hs).mono ?_
    rintro e w1 ⟨he, hb1⟩
    rw [Hq.out] at he
    subst he
    have hB1 := hB0.trans (hb1.mono hB0.size)
    clear hb1 hB0
    go_wp2
    go_ret2
    exact ⟨ret_i2d Hn.out.symm Hq.out.symm, hB1⟩

set_option maxRecDepth 100000 in
set_option maxHeartbeats 4000000 in
theorem i_WaitForBoth (c0 : Value) (ts : List Int) (x y : Int) (s : Int) (w : World) (hI : Ints w.heap.size w c0 ts) (_hN : I64s ts) (hm : ts.length ≤ 1048576) (_hx : I64 x) (_hy : I64 y) (hs : I64 s) :
    Calls Try.prog 35 #[c0, .int .i64 x, .int .i64 y, .int .i64 s] w fun e w' => e = .returned (.tuple #[.int .i64 (wfR ts [x, y] s), .int .i64 (comS ts [x, y] s)]) ∧ Below w.heap.size w w' := by
  obtain ⟨a, cap, rfl⟩ := hI.shape
  have hB0 : Below w.heap.size w (w.alloc (.cells #[.int .i64 x, .int .i64 y] 2)) := (Below.refl _ w).alloc (Nat.le_refl _) _
  by_cases hc : comS ts [x, y] s = 0
  · obtain ⟨hl, k, rfl, hk⟩ := comS_nat hc
    have Hn := Lib.hid (show wfR ts [x, y] k = (waTo (shiftL ts k) [x, y] [x, y].length : Nat) by unfold wfR; rw [if_pos hc]; rfl)
    have Hc := Lib.hid hc
    clear hc
    go_enter Try.func35, Try.ntmps35
    go_wp2_with fail
    refine (checkComing_c _ _ ts [x, y] k _ (hI.later hB0) (ints_two_new w x y _) hm (by simp) hs).mono ?_
    rintro e w1 ⟨he, hb1⟩
    rw [Hc.out] at he
    subst he
    have hB1 := hB0.trans (hb1.mono hB0.size)
    clear hb1 hB0
    go_wp2_with fail
    refine (twice_c _ ts _ (hI.later hB1) (by omega) (by omega)).mono ?_
    rintro e w2 ⟨v, rfl, ho, hb2⟩
    have hcp := ho.capOk
    obtain ⟨g, c, rfl, hg1, hg2⟩ := ho.shape (by simp; omega)
    obtain ⟨_, c2, e2, hcc, hcm⟩ := hcp
    cases e2
    simp only [id, List.length_append] at hcc ho ⊢
    have hB2 := hB1.trans (hb2.mono hB1.size)
    clear hb2 hB1
    go_wp2_with fail
    refine (shiftIn_c g c ts.length k _ (by omega) (by omega) hcc (by omega)).mono ?_
    rintro e w' ⟨rfl, hw⟩
    rw [hw]
    clear hw
    go_wp2_with fail
    have hB3 : Below w2.heap.size w2 (w2.alloc (.cells #[.int .i64 x, .int .i64 y] 2)) := (Below.refl _ w2).alloc (Nat.le_refl _) _
    have hB4 := hB2.trans (hB3.mono hB2.size)
    have hsl : (shiftL ts k).length = ts.length := shiftL_length (by omega)
    refine (waitFor_c _ _ (shiftL ts k) [x, y] _ (ints_sh (ho.below hB3) hk) (ints_two_new w2 x y _) (by omega) (by omega) (by simp)).mono ?_
    rintro e w3 ⟨rfl, hb3⟩
    go_wp2
    go_ret2
    exact ⟨ret_i2d Hn.out.symm Hc.out.symm, hB4.trans (hb3.mono hB4.size)⟩
  · have Hn := Lib.hid (show wfR ts [x, y] s = 0 by unfold wfR; rw [if_neg hc])
    have hcz : (comS ts [x, y] s == 0) = false := by simp [hc]
    obtain ⟨q, hq⟩ : ∃ q, comS ts [x, y] s = q := ⟨_, rfl⟩
    have Hq := Lib.hid hq
    rw [hq] at hcz hc
    clear hq
    go_enter Try.func35, Try.ntmps35
    go_wp2_with fail
    refine (checkComing_c _ _ ts [x, y] s _ (hI.later hB0) (ints_two_new w x y _) hm (by simp) hs).mono ?_
    rintro e w1 ⟨he, hb1⟩
    rw [Hq.out] at he
    subst he
    have hB1 := hB0.trans (hb1.mono hB0.size)
    clear hb1 hB0
    go_wp2
    go_ret2
    exact ⟨ret_i2d Hn.out.symm Hq.out.symm, hB1⟩

end Go.Proofs.Ytgndbifcncklgaa
