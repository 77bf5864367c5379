/-
  CutByHeight, CutBySpeed, GrowDays of both.
  Conditions: lists of at most 1048576 elements.
-/
import Derived.Test.YtogpkaeodgokgaaGrC
namespace Go.Proofs.Ytogpkaeodgokgaa
open Go.RowKit Go.Shelf
attribute [local go_sem] Oper.semAt_some

theorem ret_ii {a b a' b' : Int} (h1 : a = a') (h2 : b = b') : Ending.returned (.tuple #[.int .i64 a, .int .i64 b]) = .returned (.tuple #[.int .i64 a', .int .i64 b']) := by rw [h1, h2]
/-- what the functions answer -/
def chR (rs hs : List Int) : Int := if htC rs hs = 0 then cutG rs 0 hs else 0
def csC (rs hs : List Int) (x : Int) : Int := if htC rs hs = 0 then if inB x 1 1000 = true then 0 else 2 else htC rs hs
def csR (rs hs : List Int) (x : Int) : Int := if csC rs hs x = 0 then cutG rs x hs else 0
def gdC (rs hs : List Int) (d : Int) : Int := if htC rs hs = 0 then if inB d 0 200 = true then 0 else 2 else htC rs hs
def gdR (rs hs : List Int) (d : Int) : List Int := if gdC rs hs d = 0 then growL rs hs d else []
theorem gdR_len (rs hs : List Int) (d : Int) : (gdR rs hs d).length * 8 ≤ 140737488351232 := by
  unfold gdR
  split
  · rename_i h
    have h0 : htC rs hs = 0 := by
      unfold gdC at h
      split at h
      · assumption
      · rename_i h1; exact absurd h h1
    have := htC_ok h0
    have := gardenOk_len this.1
    rw [growL_length]; omega
  · simp
theorem ht_bd {hs : List Int} (h : heightsOk hs = true) (k : Nat) : 0 ≤ nth hs k ∧ nth hs k ≤ 1000000 := by have := heightsOk_nth h k; omega


set_option maxRecDepth 100000 in
set_option maxHeartbeats 8000000 in
theorem s_CutByHeight (c0 : Value) (rs : List Int) (c1 : Value) (hs : List Int) (w : World) (hI : Ints w.heap.size w c0 rs) (_hN : I64s rs) (hm : rs.length ≤ 1048576) (hT : Ints w.heap.size w c1 hs) (_hN1 : I64s hs) (hm1 : hs.length ≤ 1048576) :
    Calls Try.prog 45 #[.agg #[c0], c1] w fun e w' => e = .returned (.tuple #[.int .i64 (chR rs hs), .int .i64 (htC rs hs)]) ∧ Below w.heap.size w w' := by
  obtain ⟨a, cap, rfl⟩ := hI.shape
  obtain ⟨a2, cap2, rfl⟩ := hT.shape
  have hB0 : Below w.heap.size w (w.alloc (.cells #[.slice a rs.length cap] 48)) := (Below.refl _ w).alloc (Nat.le_refl _) _
  by_cases h : htC rs hs = 0
  · have hok := htC_ok h
    have hg := hok.1
    have hle := hok.2.1
    have hh := ht_bd hok.2.2
    have hl8 := gardenOk_len hg
    have Hc := Lib.hid h
    have Hr := Lib.hid (show chR rs hs = cutG rs 0 hs by unfold chR; rw [if_pos h])
    have Hh := Lib.hid hh
    have Hle := Lib.hid hle
    have hl1 : 1 ≤ hs.length := by omega
    have hl2 : hs.length ≤ 8 := by omega
    clear h hok hh hle
    go_enter Try.func45, Try.ntmps45
    go_wp2_with fail
    refine (l06Heights_c _ _ rs hs _ (hI.later hB0) (hT.later hB0) (by omega) (by omega)).mono ?_
    rintro e w1 ⟨he, hb⟩
    rw [Hc.out] at he
    subst he
    have hB1 := hB0.trans (hb.mono (by simp))
    have bG : Boxed w1 w.heap.size 48 (.slice a rs.length cap) := boxed_later (Boxed.new _ _ _) hb
    have kG := bG.cell
    clear hb hB0
    go_wp2_with fail
    refine (l06Highest_c rs _ hs _ (hT.later hB1) hl1 hl2 Hle.out Hh.out).mono ?_
    rintro e w2 ⟨rfl, hb2⟩
    go_wp2
    go_ret2
    exact ⟨ret_ii Hr.out.symm Hc.out.symm, hB1.trans (hb2.mono hB1.size)⟩
  · have hq : (htC rs hs != 0) = true := by simpa using h
    have Hr := Lib.hid (show chR rs hs = 0 by unfold chR; rw [if_neg h])
    obtain ⟨c, hc⟩ : ∃ c, htC rs hs = c := ⟨_, rfl⟩
    rw [hc] at hq
    have Hc := Lib.hid hc
    clear h hc
    go_enter Try.func45, Try.ntmps45
    go_wp2_with fail
    refine (l06Heights_c _ _ rs hs _ (hI.later hB0) (hT.later hB0) (by omega) (by omega)).mono ?_
    rintro e w1 ⟨he, hb⟩
    rw [Hc.out] at he
    subst he
    have hB1 := hB0.trans (hb.mono (by simp))
    have bG : Boxed w1 w.heap.size 48 (.slice a rs.length cap) := boxed_later (Boxed.new _ _ _) hb
    have kG := bG.cell
    clear hb hB0
    go_wp2
    go_ret2
    exact ⟨ret_ii Hr.out.symm Hc.out.symm, hB1⟩

set_option maxRecDepth 100000 in
set_option maxHeartbeats 8000000 in
theorem i_CutByHeight (c0 : Value) (rs : List Int) (c1 : Value) (hs : List Int) (w : World) (hI : Ints w.heap.size w c0 rs) (_hN : I64s rs) (hm : rs.length ≤ 1048576) (hT : Ints w.heap.size w c1 hs) (_hN1 : I64s hs) (hm1 : hs.length ≤ 1048576) :
    Calls Try.prog 46 #[.agg #[c0], c1] w fun e w' => e = .returned (.tuple #[.int .i64 (chR rs hs), .int .i64 (htC rs hs)]) ∧ Below w.heap.size w w' := by
  obtain ⟨a, cap, rfl⟩ := hI.shape
  obtain ⟨a2, cap2, rfl⟩ := hT.shape
  have hB0 : Below w.heap.size w (w.alloc (.cells #[.slice a rs.length cap] 48)) := (Below.refl _ w).alloc (Nat.le_refl _) _
  by_cases h : htC rs hs = 0
  · have hok := htC_ok h
    have hg := hok.1
    have hle := hok.2.1
    have hh := ht_bd hok.2.2
    have hl8 := gardenOk_len hg
    have Hc := Lib.hid h
    have Hr := Lib.hid (show chR rs hs = cutG rs 0 hs by unfold chR; rw [if_pos h])
    have Hh := Lib.hid hh
    have Hle := Lib.hid hle
    have hl1 : 1 ≤ hs.length := by omega
    have hl2 : hs.length ≤ 8 := by omega
    clear h hok hh hle
    go_enter Try.func46, Try.ntmps46
    go_wp2_with fail
    refine (checkHeightsFor_c _ _ rs hs _ (hI.later hB0) (hT.later hB0) (by omega) (by omega)).mono ?_
    rintro e w1 ⟨he, hb⟩
    rw [Hc.out] at he
    subst he
    have hB1 := hB0.trans (hb.mono (by simp))
    have bG : Boxed w1 w.heap.size 48 (.slice a rs.length cap) := boxed_later (Boxed.new _ _ _) hb
    have kG := bG.cell
    clear hb hB0
    go_wp2_with fail
    refine (cutterByHeight_c _ _ _ _).mono ?_
    rintro e w2 ⟨rfl, hb2⟩
    have hB2 := hB1.trans (hb2.mono hB1.size)
    go_wp2_with fail
    refine (byPlantOf_c _ hs _ (hT.later hB2) hl1 hl2).mono ?_
    rintro e w3 ⟨rfl, hb3⟩
    have hB3 := hB2.trans (hb3.mono hB2.size)
    go_wp2_with fail
    refine (choose0_c _ rs hs _ (hI.later hB3) hg Hh.out).mono ?_
    rintro e w4 ⟨rfl, hb4⟩
    go_wp2
    go_ret2
    exact ⟨ret_ii Hr.out.symm Hc.out.symm, hB3.trans (hb4.mono hB3.size)⟩
  · have hq : (htC rs hs != 0) = true := by simpa using h
    have Hr := Lib.hid (show chR rs hs = 0 by unfold chR; rw [if_neg h])
    obtain ⟨c, hc⟩ : ∃ c, htC rs hs = c := ⟨_, rfl⟩
    rw [hc] at hq
    have Hc := Lib.hid hc
    clear h hc
    go_enter Try.func46, Try.ntmps46
    go_wp2_with fail
    refine (checkHeightsFor_c _ _ rs hs _ (hI.later hB0) (hT.later hB0) (by omega) (by omega)).mono ?_
    rintro e w1 ⟨he, hb⟩
    rw [Hc.out] at he
    subst he
    have hB1 := hB0.trans (hb.mono (by simp))
    have bG : Boxed w1 w.heap.size 48 (.slice a rs.length cap) := boxed_later (Boxed.new _ _ _) hb
    have kG := bG.cell
    clear hb hB0
    go_wp2
    go_ret2
    exact ⟨ret_ii Hr.out.symm Hc.out.symm, hB1⟩

set_option maxRecDepth 100000 in
set_option maxHeartbeats 8000000 in
theorem s_CutBySpeed (c0 : Value) (rs : List Int) (c1 : Value) (hs : List Int) (x : Int) (w : World) (hI : Ints w.heap.size w c0 rs) (_hN : I64s rs) (hm : rs.length ≤ 1048576) (hT : Ints w.heap.size w c1 hs) (_hN1 : I64s hs) (hm1 : hs.length ≤ 1048576) (_hx : I64 x) :
    Calls Try.prog 47 #[.agg #[c0], c1, .int .i64 x] w (fun e w' => e = .returned (.tuple #[.int .i64 (csR rs hs x), .int .i64 (csC rs hs x)]) ∧ Below w.heap.size w w') := by
  obtain ⟨a, cap, rfl⟩ := hI.shape
  obtain ⟨a2, cap2, rfl⟩ := hT.shape
  have hB0 : Below w.heap.size w (w.alloc (.cells #[.slice a rs.length cap] 48)) := (Below.refl _ w).alloc (Nat.le_refl _) _
  by_cases h : htC rs hs = 0
  · by_cases hx : inB x 1 1000 = true
    · have hok := htC_ok h
      have hg := hok.1
      have hle := hok.2.1
      have hh := heightsOk_nth hok.2.2
      have hh2 := ht_bd hok.2.2
      have hl8 := gardenOk_len hg
      have hx2 := inB_true.1 hx
      have Hc := Lib.hid h
      have hcc : csC rs hs x = 0 := by unfold csC; rw [if_pos h, if_pos hx]
      have Hcc := Lib.hid hcc
      have Hr := Lib.hid (show csR rs hs x = cutG rs x hs by unfold csR; rw [if_pos hcc])
      have Hx := Lib.hid hx
      have Hh := Lib.hid hh
      have Hh2 := Lib.hid hh2
      have Hle := Lib.hid hle
      have hl1 : 1 ≤ hs.length := by omega
      have hl2 : hs.length ≤ 8 := by omega
      have hfw : Try.prog.follows Departure.mixedOrders = true := by kernel_rfl
      clear h hok hh hh2 hle hcc hx
      go_enter Try.func47, Try.ntmps47
      go_wp2_with fail
      refine (l06Heights_c _ _ rs hs _ (hI.later hB0) (hT.later hB0) (by omega) (by omega)).mono ?_
      rintro e w1 ⟨he, hb⟩
      rw [Hc.out] at he
      subst he
      have hB1 := hB0.trans (hb.mono (by simp))
      have bG : Boxed w1 w.heap.size 48 (.slice a rs.length cap) := boxed_later (Boxed.new _ _ _) hb
      have kG := bG.cell
      clear hb hB0
      go_wp2_with (go_at_call 86; refine (l01In_d true _ _ _ _ Hx.out).mono ?_; rintro e w' ⟨rfl, rfl⟩)
      refine (l06Fastest_c _ rs _ hs x _ (hI.later hB1) (hT.later hB1) hg Hle.out Hh2.out hx2.1).mono ?_
      rintro e w2 ⟨rfl, hb2⟩
      go_wp2
      go_ret2
      exact ⟨ret_ii Hr.out.symm Hcc.out.symm, hB1.trans (hb2.mono hB1.size)⟩
    · have hx : inB x 1 1000 = false := by simpa using hx
      have Hc := Lib.hid h
      have hcc : csC rs hs x = 2 := by unfold csC; rw [if_pos h, if_neg (by rw [hx]; simp)]
      have Hcc := Lib.hid hcc
      have Hr := Lib.hid (show csR rs hs x = 0 by unfold csR; rw [if_neg (by omega)])
      have Hx := Lib.hid hx
      have hx2 := inB_false.1 hx
      clear h hx hcc
      clear hx2
      go_enter Try.func47, Try.ntmps47
      go_wp2_with fail
      refine (l06Heights_c _ _ rs hs _ (hI.later hB0) (hT.later hB0) (by omega) (by omega)).mono ?_
      rintro e w1 ⟨he, hb⟩
      rw [Hc.out] at he
      subst he
      have hB1 := hB0.trans (hb.mono (by simp))
      have bG : Boxed w1 w.heap.size 48 (.slice a rs.length cap) := boxed_later (Boxed.new _ _ _) hb
      have kG := bG.cell
      clear hb hB0
      go_wp2_with (go_at_call 86; refine (l01In_d false _ _ _ _ Hx.out).mono ?_; rintro e w' ⟨rfl, rfl⟩)
      go_ret2
      exact ⟨ret_ii Hr.out.symm Hcc.out.symm, hB1⟩
  · have hq : (htC rs hs != 0) = true := by simpa using h
    have hq2 : (htC rs hs == 0) = false := by simpa using h
    have hcc : csC rs hs x = htC rs hs := by unfold csC; rw [if_neg h]
    have Hr := Lib.hid (show csR rs hs x = 0 by unfold csR; rw [if_neg (by rw [hcc]; exact h)])
    obtain ⟨c, hc⟩ : ∃ c, htC rs hs = c := ⟨_, rfl⟩
    rw [hc] at hq hq2 hcc
    have Hcc := Lib.hid hcc
    have Hc := Lib.hid hc
    clear h hc hcc
    go_enter Try.func47, Try.ntmps47
    go_wp2_with fail
    refine (l06Heights_c _ _ rs hs _ (hI.later hB0) (hT.later hB0) (by omega) (by omega)).mono ?_
    rintro e w1 ⟨he, hb⟩
    rw [Hc.out] at he
    subst he
    have hB1 := hB0.trans (hb.mono (by simp))
    have bG : Boxed w1 w.heap.size 48 (.slice a rs.length cap) := boxed_later (Boxed.new _ _ _) hb
    have kG := bG.cell
    clear hb hB0
    go_wp2
    go_ret2
    exact ⟨ret_ii Hr.out.symm Hcc.out.symm, hB1⟩

set_option maxRecDepth 100000 in
set_option maxHeartbeats 8000000 in
theorem i_CutBySpeed (c0 : Value) (rs : List Int) (c1 : Value) (hs : List Int) (x : Int) (w : World) (hI : Ints w.heap.size w c0 rs) (_hN : I64s rs) (hm : rs.length ≤ 1048576) (hT : Ints w.heap.size w c1 hs) (_hN1 : I64s hs) (hm1 : hs.length ≤ 1048576) (_hx : I64 x) :
    Calls Try.prog 48 #[.agg #[c0], c1, .int .i64 x] w (fun e w' => e = .returned (.tuple #[.int .i64 (csR rs hs x), .int .i64 (csC rs hs x)]) ∧ Below w.heap.size w w') := by
  obtain ⟨a, cap, rfl⟩ := hI.shape
  obtain ⟨a2, cap2, rfl⟩ := hT.shape
  have hB0 : Below w.heap.size w (w.alloc (.cells #[.slice a rs.length cap] 48)) := (Below.refl _ w).alloc (Nat.le_refl _) _
  by_cases h : htC rs hs = 0
  · by_cases hx : inB x 1 1000 = true
    · have hok := htC_ok h
      have hg := hok.1
      have hle := hok.2.1
      have hh := heightsOk_nth hok.2.2
      have hh2 := ht_bd hok.2.2
      have hl8 := gardenOk_len hg
      have hx2 := inB_true.1 hx
      have Hc := Lib.hid h
      have hcc : csC rs hs x = 0 := by unfold csC; rw [if_pos h, if_pos hx]
      have Hcc := Lib.hid hcc
      have Hr := Lib.hid (show csR rs hs x = cutG rs x hs by unfold csR; rw [if_pos hcc])
      have Hx := Lib.hid hx
      have Hh := Lib.hid hh
      have Hh2 := Lib.hid hh2
      have Hle := Lib.hid hle
      have hl1 : 1 ≤ hs.length := by omega
      have hl2 : hs.length ≤ 8 := by omega
      have hfw : Try.prog.follows Departure.mixedOrders = true := by kernel_rfl
      clear h hok hh hh2 hle hcc hx
      go_enter Try.func48, Try.ntmps48
      go_wp2_with fail
      refine (checkHeightsFor_c _ _ rs hs _ (hI.later hB0) (hT.later hB0) (by omega) (by omega)).mono ?_
      rintro e w1 ⟨he, hb⟩
      rw [Hc.out] at he
      subst he
      have hB1 := hB0.trans (hb.mono (by simp))
      have bG : Boxed w1 w.heap.size 48 (.slice a rs.length cap) := boxed_later (Boxed.new _ _ _) hb
      have kG := bG.cell
      clear hb hB0
      go_wp2_with fail
      refine (isSpeedNumber_d true _ _ Hx.out).mono ?_
      rintro e w2 ⟨rfl, rfl⟩
      go_wp2_with fail
      refine (cutterBySpeed_c _ _ _ x _).mono ?_
      rintro e w2 ⟨rfl, hb2⟩
      have hB2 := hB1.trans (hb2.mono hB1.size)
      go_wp2_with fail
      refine (byPlantOf_c _ hs _ (hT.later hB2) hl1 hl2).mono ?_
      rintro e w3 ⟨rfl, hb3⟩
      have hB3 := hB2.trans (hb3.mono hB2.size)
      go_wp2_with fail
      refine (choose1_c _ rs hs x hx2.1 _ (hI.later hB3) hg Hh2.out).mono ?_
      rintro e w4 ⟨rfl, hb4⟩
      go_wp2
      go_ret2
      exact ⟨ret_ii Hr.out.symm Hcc.out.symm, hB3.trans (hb4.mono hB3.size)⟩
    · have hx : inB x 1 1000 = false := by simpa using hx
      have Hc := Lib.hid h
      have hcc : csC rs hs x = 2 := by unfold csC; rw [if_pos h, if_neg (by rw [hx]; simp)]
      have Hcc := Lib.hid hcc
      have Hr := Lib.hid (show csR rs hs x = 0 by unfold csR; rw [if_neg (by omega)])
      have Hx := Lib.hid hx
      have hx2 := inB_false.1 hx
      clear h hx hcc
      clear hx2
      go_enter Try.func48, Try.ntmps48
      go_wp2_with fail
      refine (checkHeightsFor_c _ _ rs hs _ (hI.later hB0) (hT.later hB0) (by omega) (by omega)).mono ?_
      rintro e w1 ⟨he, hb⟩
      rw [Hc.out] at he
      subst he
      have hB1 := hB0.trans (hb.mono (by simp))
      have bG : Boxed w1 w.heap.size 48 (.slice a rs.length cap) := boxed_later (Boxed.new _ _ _) hb
      have kG := bG.cell
      clear hb hB0
      go_wp2_with fail
      refine (isSpeedNumber_d false _ _ Hx.out).mono ?_
      rintro e w2 ⟨rfl, rfl⟩
      go_wp2
      go_ret2
      exact ⟨ret_ii Hr.out.symm Hcc.out.symm, hB1⟩
  · have hq : (htC rs hs != 0) = true := by simpa using h
    have hq2 : (htC rs hs == 0) = false := by simpa using h
    have hcc : csC rs hs x = htC rs hs := by unfold csC; rw [if_neg h]
    have Hr := Lib.hid (show csR rs hs x = 0 by unfold csR; rw [if_neg (by rw [hcc]; exact h)])
    obtain ⟨c, hc⟩ : ∃ c, htC rs hs = c := ⟨_, rfl⟩
    rw [hc] at hq hq2 hcc
    have Hcc := Lib.hid hcc
    have Hc := Lib.hid hc
    clear h hc hcc
    go_enter Try.func48, Try.ntmps48
    go_wp2_with fail
    refine (checkHeightsFor_c _ _ rs hs _ (hI.later hB0) (hT.later hB0) (by omega) (by omega)).mono ?_
    rintro e w1 ⟨he, hb⟩
    rw [Hc.out] at he
    subst he
    have hB1 := hB0.trans (hb.mono (by simp))
    have bG : Boxed w1 w.heap.size 48 (.slice a rs.length cap) := boxed_later (Boxed.new _ _ _) hb
    have kG := bG.cell
    clear hb hB0
    go_wp2
    go_ret2
    exact ⟨ret_ii Hr.out.symm Hcc.out.symm, hB1⟩

set_option maxRecDepth 100000 in
set_option maxHeartbeats 8000000 in
theorem s_GrowDays (c0 : Value) (rs : List Int) (c1 : Value) (hs : List Int) (x : Int) (w : World) (hI : Ints w.heap.size w c0 rs) (_hN : I64s rs) (hm : rs.length ≤ 1048576) (hT : Ints w.heap.size w c1 hs) (_hN1 : I64s hs) (hm1 : hs.length ≤ 1048576) (_hx : I64 x) :
    Calls Try.prog 38 #[.agg #[c0], c1, .int .i64 x] w (GivesI w (gdR rs hs x) fun v => .tuple #[v, .int .i64 (gdC rs hs x)]) := by
  obtain ⟨a, cap, rfl⟩ := hI.shape
  obtain ⟨a2, cap2, rfl⟩ := hT.shape
  have hB0 : Below w.heap.size w (w.alloc (.cells #[.slice a rs.length cap] 48)) := (Below.refl _ w).alloc (Nat.le_refl _) _
  by_cases h : htC rs hs = 0
  · by_cases hx : inB x 0 200 = true
    · have hok := htC_ok h
      have hg := hok.1
      have hle := hok.2.1
      have hh := heightsOk_nth hok.2.2
      have hh2 := ht_bd hok.2.2
      have hl8 := gardenOk_len hg
      have hx2 := inB_true.1 hx
      have Hc := Lib.hid h
      have hcc : gdC rs hs x = 0 := by unfold gdC; rw [if_pos h, if_pos hx]
      have Hcc := Lib.hid hcc
      have Hr := Lib.hid (show gdR rs hs x = growL rs hs x by unfold gdR; rw [if_pos hcc])
      have Hx := Lib.hid hx
      have Hh := Lib.hid hh
      have Hh2 := Lib.hid hh2
      have Hle := Lib.hid hle
      have hl1 : 1 ≤ hs.length := by omega
      have hl2 : hs.length ≤ 8 := by omega
      have hfw : Try.prog.follows Departure.mixedOrders = true := by kernel_rfl
      clear h hok hh hh2 hle hcc hx
      go_enter Try.func38, Try.ntmps38
      go_wp2_with fail
      refine (l06Heights_c _ _ rs hs _ (hI.later hB0) (hT.later hB0) (by omega) (by omega)).mono ?_
      rintro e w1 ⟨he, hb⟩
      rw [Hc.out] at he
      subst he
      have hB1 := hB0.trans (hb.mono (by simp))
      have bG : Boxed w1 w.heap.size 48 (.slice a rs.length cap) := boxed_later (Boxed.new _ _ _) hb
      have kG := bG.cell
      clear hb hB0
      go_wp2_with (go_at_call 86; refine (l01In_d true _ _ _ _ Hx.out).mono ?_; rintro e w' ⟨rfl, rfl⟩)
      refine (l06Grow_c _ rs _ hs x _ (hI.later hB1) (hT.later hB1) hg Hle.out Hh.out hx2.1 hx2.2).mono ?_
      rintro e w2 ⟨v, rfl, ho, hb2⟩
      simp only [id]
      go_wp2
      go_ret2
      exact ⟨v, ret_v2 Hcc.out.symm, by rw [Hr.out]; exact ho.base hB1.size, hB1.trans (hb2.mono hB1.size)⟩
    · have hx : inB x 0 200 = false := by simpa using hx
      have Hc := Lib.hid h
      have hcc : gdC rs hs x = 2 := by unfold gdC; rw [if_pos h, if_neg (by rw [hx]; simp)]
      have Hcc := Lib.hid hcc
      have Hr := Lib.hid (show gdR rs hs x = [] by unfold gdR; rw [if_neg (by omega)])
      have Hx := Lib.hid hx
      have hx2 := inB_false.1 hx
      clear h hx hcc
      clear hx2
      go_enter Try.func38, Try.ntmps38
      go_wp2_with fail
      refine (l06Heights_c _ _ rs hs _ (hI.later hB0) (hT.later hB0) (by omega) (by omega)).mono ?_
      rintro e w1 ⟨he, hb⟩
      rw [Hc.out] at he
      subst he
      have hB1 := hB0.trans (hb.mono (by simp))
      have bG : Boxed w1 w.heap.size 48 (.slice a rs.length cap) := boxed_later (Boxed.new _ _ _) hb
      have kG := bG.cell
      clear hb hB0
      go_wp2_with (go_at_call 86; refine (l01In_d false _ _ _ _ Hx.out).mono ?_; rintro e w' ⟨rfl, rfl⟩)
      go_ret2
      exact ⟨_, ret_v2 Hcc.out.symm, by rw [Hr.out]; exact ownI_nil _ _, hB1⟩
  · have hq : (htC rs hs != 0) = true := by simpa using h
    have hq2 : (htC rs hs == 0) = false := by simpa using h
    have hcc : gdC rs hs x = htC rs hs := by unfold gdC; rw [if_neg h]
    have Hr := Lib.hid (show gdR rs hs x = [] by unfold gdR; rw [if_neg (by rw [hcc]; exact h)])
    obtain ⟨c, hc⟩ : ∃ c, htC rs hs = c := ⟨_, rfl⟩
    rw [hc] at hq hq2 hcc
    have Hcc := Lib.hid hcc
    have Hc := Lib.hid hc
    clear h hc hcc
    go_enter Try.func38, Try.ntmps38
    go_wp2_with fail
    refine (l06Heights_c _ _ rs hs _ (hI.later hB0) (hT.later hB0) (by omega) (by omega)).mono ?_
    rintro e w1 ⟨he, hb⟩
    rw [Hc.out] at he
    subst he
    have hB1 := hB0.trans (hb.mono (by simp))
    have bG : Boxed w1 w.heap.size 48 (.slice a rs.length cap) := boxed_later (Boxed.new _ _ _) hb
    have kG := bG.cell
    clear hb hB0
    go_wp2
    go_ret2
    exact ⟨_, ret_v2 Hcc.out.symm, by rw [Hr.out]; exact ownI_nil _ _, hB1⟩

set_option maxRecDepth 100000 in
set_option maxHeartbeats 8000000 in
theorem i_GrowDays (c0 : Value) (rs : List Int) (c1 : Value) (hs : List Int) (x : Int) (w : World) (hI : Ints w.heap.size w c0 rs) (_hN : I64s rs) (hm : rs.length ≤ 1048576) (hT : Ints w.heap.size w c1 hs) (_hN1 : I64s hs) (hm1 : hs.length ≤ 1048576) (_hx : I64 x) :
    Calls Try.prog 40 #[.agg #[c0], c1, .int .i64 x] w (GivesI w (gdR rs hs x) fun v => .tuple #[v, .int .i64 (gdC rs hs x)]) := by
  obtain ⟨a, cap, rfl⟩ := hI.shape
  obtain ⟨a2, cap2, rfl⟩ := hT.shape
  have hB0 : Below w.heap.size w (w.alloc (.cells #[.slice a rs.length cap] 48)) := (Below.refl _ w).alloc (Nat.le_refl _) _
  by_cases h : htC rs hs = 0
  · by_cases hx : inB x 0 200 = true
    · have hok := htC_ok h
      have hg := hok.1
      have hle := hok.2.1
      have hh := heightsOk_nth hok.2.2
      have hh2 := ht_bd hok.2.2
      have hl8 := gardenOk_len hg
      have hx2 := inB_true.1 hx
      have Hc := Lib.hid h
      have hcc : gdC rs hs x = 0 := by unfold gdC; rw [if_pos h, if_pos hx]
      have Hcc := Lib.hid hcc
      have Hr := Lib.hid (show gdR rs hs x = growL rs hs x by unfold gdR; rw [if_pos hcc])
      have Hx := Lib.hid hx
      have Hh := Lib.hid hh
      have Hh2 := Lib.hid hh2
      have Hle := Lib.hid hle
      have hl1 : 1 ≤ hs.length := by omega
      have hl2 : hs.length ≤ 8 := by omega
      have hfw : Try.prog.follows Departure.mixedOrders = true := by kernel_rfl
      clear h hok hh hh2 hle hcc hx
      go_enter Try.func40, Try.ntmps40
      go_wp2_with fail
      refine (checkHeightsFor_c _ _ rs hs _ (hI.later hB0) (hT.later hB0) (by omega) (by omega)).mono ?_
      rintro e w1 ⟨he, hb⟩
      rw [Hc.out] at he
      subst he
      have hB1 := hB0.trans (hb.mono (by simp))
      have bG : Boxed w1 w.heap.size 48 (.slice a rs.length cap) := boxed_later (Boxed.new _ _ _) hb
      have kG := bG.cell
      clear hb hB0
      go_wp2_with fail
      refine wp_region_noPanic (wp_region_held_drew (S := fun w' => Boxed w' w.heap.size 48 (.slice a rs.length cap) ∧ Below w.heap.size w w') hfw ⟨boxed_later bG (Below.refl _ _).drew, hB1.drew⟩ ?_)
      intro hS0
      refine wpAnyH_take (i := 0) (v := ?vp10) rfl (by kernel_rfl) (by kernel_rfl) (by kernel_rfl) (fun _ _ _ h => h) (.inl ⟨by rfl, ?yp10⟩) hS0 ?_
      case yp10 =>
        intro w' hS
        (have k1 := hS.1.cell; clear hS)
        go_simp
        try with_reducible rfl
      refine wpAnyH_take (i := 2) (v := ?vp12) rfl (by kernel_rfl) (by kernel_rfl) (by kernel_rfl) (fun _ _ _ h => h) (.inl ⟨by rfl, ?yp12⟩) hS0 ?_
      case yp12 =>
        intro w' hS
        (have k1 := hS.1.cell; clear hS)
        go_simp
        try with_reducible rfl
      refine wpAnyH_take (i := 3) (v := ?vp13) rfl (by kernel_rfl) (by kernel_rfl) (by kernel_rfl) (fun _ _ _ h => h) (.inl ⟨by rfl, ?yp13⟩) hS0 ?_
      case yp13 =>
        intro w' hS
        (have k1 := hS.1.cell; clear hS)
        go_simp
        try with_reducible rfl
      refine wpAnyH_take (i := 5) (v := ?vp15) rfl (by kernel_rfl) (by kernel_rfl) (by kernel_rfl) (fun _ _ _ h => h) (.inl ⟨by rfl, ?yp15⟩) hS0 ?_
      case yp15 =>
        intro w' hS
        (have k1 := hS.1.cell; clear hS)
        go_simp
        try with_reducible rfl
      refine wpAnyH_take (i := 7) (v := ?vp17) rfl (by kernel_rfl) (by kernel_rfl) (by kernel_rfl) (fun _ _ _ h => h) (.inl ⟨by rfl, ?yp17⟩) hS0 ?_
      case yp17 =>
        intro w' hS
        (have k1 := hS.1.cell; clear hS)
        go_simp
        try with_reducible rfl
      refine wpAnyH_ready (rs := [1]) (by kernel_rfl) (by simp) ?_
      refine AllReadyH.cons rfl (fun K' hK' => ?_) AllReadyH.nil
      rw [if_pos (by rfl)]
      go_simp
      refine (byPlantOf_c _ hs _ (hT.later hS0.2) hl1 hl2).mono ?_
      rintro e w3 ⟨rfl, hb3⟩
      refine hK'.out _ _ ⟨boxed_later hS0.1 hb3, hS0.2.trans (hb3.mono hS0.2.size)⟩ fun hS1 => ?_
      refine wpAnyH_ready (rs := [4]) (by kernel_rfl) (by simp) ?_
      refine AllReadyH.cons rfl (fun K' hK' => ?_) AllReadyH.nil
      rw [if_pos (by rfl)]
      go_simp
      refine (byPlantOf_c _ rs _ (hI.later hS1.2) hl8.1 hl8.2).mono ?_
      rintro e w4 ⟨rfl, hb4⟩
      refine hK'.out _ _ ⟨boxed_later hS1.1 hb4, hS1.2.trans (hb4.mono hS1.2.size)⟩ fun hS2 => ?_
      refine wpAnyH_ready (rs := [6]) (by kernel_rfl) (by simp) ?_
      refine AllReadyH.cons rfl (fun K' hK' => ?_) AllReadyH.nil
      rw [if_pos (by rfl)]
      go_simp
      refine (grown_c hs rs (growL rs hs x) x _ Hh.out (gardenOk_any hg) hx2.1 hx2.2 (fun i _ => nth_growA Hle.out i)).mono ?_
      rintro e w5 ⟨rfl, hb5⟩
      refine hK'.out _ _ ⟨boxed_later hS2.1 hb5, hS2.2.trans (hb5.mono hS2.2.size)⟩ fun hS3 => ?_
      refine wpAnyH_ready (rs := [8]) (by kernel_rfl) (by simp) ?_
      refine AllReadyH.cons rfl (fun K' hK' => ?_) AllReadyH.nil
      rw [if_pos (by rfl)]
      go_simp
      refine (numbers_c2 (growL rs hs x) _ rs _ (hI.later hS3.2) hl8.1 hl8.2 (by rw [growL_length]; exact Hle.out)).mono ?_
      rintro e w6 ⟨v, rfl, ho, hb6⟩
      simp only [id]
      refine hK'.out _ _ ⟨boxed_later hS3.1 hb6, hS3.2.trans (hb6.mono hS3.2.size)⟩ fun hS4 => ?_
      refine wpAnyH_take (i := 9) (v := ?vp29) rfl (by kernel_rfl) (by kernel_rfl) (by kernel_rfl) (fun _ _ _ h => h) (.inl ⟨by rfl, ?yp29⟩) hS4 ?_
      case yp29 =>
        intro w' hS
        (clear hS)
        go_simp
        try with_reducible rfl
      refine wpAnyH_take (i := 10) (v := ?vp210) rfl (by kernel_rfl) (by kernel_rfl) (by kernel_rfl) (fun _ _ _ h => h) (.inl ⟨by rfl, ?yp210⟩) hS4 ?_
      case yp210 =>
        intro w' hS
        (clear hS)
        go_simp
        try with_reducible rfl
      refine wpAnyH_done (by kernel_rfl) (NoPanic.normal ?_) _
      have hBF := hS4.2
      have hoF := ho.base hS3.2.size
      clear hS0 hS1 hS2 hS3 hS4 hb3 hb4 hb5 hb6 ho
      go_wp2
      go_ret2
      exact ⟨v, ret_v2 Hcc.out.symm, by rw [Hr.out]; exact hoF, hBF⟩
    · have hx : inB x 0 200 = false := by simpa using hx
      have Hc := Lib.hid h
      have hcc : gdC rs hs x = 2 := by unfold gdC; rw [if_pos h, if_neg (by rw [hx]; simp)]
      have Hcc := Lib.hid hcc
      have Hr := Lib.hid (show gdR rs hs x = [] by unfold gdR; rw [if_neg (by omega)])
      have Hx := Lib.hid hx
      have hx2 := inB_false.1 hx
      clear h hx hcc
      by_cases hx0 : x < 0
      · clear hx2
        go_enter Try.func40, Try.ntmps40
        go_wp2_with fail
        refine (checkHeightsFor_c _ _ rs hs _ (hI.later hB0) (hT.later hB0) (by omega) (by omega)).mono ?_
        rintro e w1 ⟨he, hb⟩
        rw [Hc.out] at he
        subst he
        have hB1 := hB0.trans (hb.mono (by simp))
        have bG : Boxed w1 w.heap.size 48 (.slice a rs.length cap) := boxed_later (Boxed.new _ _ _) hb
        have kG := bG.cell
        clear hb hB0
        go_wp2
        go_ret2
        exact ⟨_, ret_v2 Hcc.out.symm, by rw [Hr.out]; exact ownI_nil _ _, hB1⟩
      · have hx1 : 200 < x := by omega
        clear hx2
        go_enter Try.func40, Try.ntmps40
        go_wp2_with fail
        refine (checkHeightsFor_c _ _ rs hs _ (hI.later hB0) (hT.later hB0) (by omega) (by omega)).mono ?_
        rintro e w1 ⟨he, hb⟩
        rw [Hc.out] at he
        subst he
        have hB1 := hB0.trans (hb.mono (by simp))
        have bG : Boxed w1 w.heap.size 48 (.slice a rs.length cap) := boxed_later (Boxed.new _ _ _) hb
        have kG := bG.cell
        clear hb hB0
        go_wp2
        go_ret2
        exact ⟨_, ret_v2 Hcc.out.symm, by rw [Hr.out]; exact ownI_nil _ _, hB1⟩
  · have hq : (htC rs hs != 0) = true := by simpa using h
    have hq2 : (htC rs hs == 0) = false := by simpa using h
    have hcc : gdC rs hs x = htC rs hs := by unfold gdC; rw [if_neg h]
    have Hr := Lib.hid (show gdR rs hs x = [] by unfold gdR; rw [if_neg (by rw [hcc]; exact h)])
    obtain ⟨c, hc⟩ : ∃ c, htC rs hs = c := ⟨_, rfl⟩
    rw [hc] at hq hq2 hcc
    have Hcc := Lib.hid hcc
    have Hc := Lib.hid hc
    clear h hc hcc
    go_enter Try.func40, Try.ntmps40
    go_wp2_with fail
    refine (checkHeightsFor_c _ _ rs hs _ (hI.later hB0) (hT.later hB0) (by omega) (by omega)).mono ?_
    rintro e w1 ⟨he, hb⟩
    rw [Hc.out] at he
    subst he
    have hB1 := hB0.trans (hb.mono (by simp))
    have bG : Boxed w1 w.heap.size 48 (.slice a rs.length cap) := boxed_later (Boxed.new _ _ _) hb
    have kG := bG.cell
    clear hb hB0
    go_wp2
    go_ret2
    exact ⟨_, ret_v2 Hcc.out.symm, by rw [Hr.out]; exact ownI_nil _ _, hB1⟩

end Go.Proofs.Ytogpkaeodgokgaa
