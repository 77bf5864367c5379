/-
  The codes of tasks on channels: checkTasksOn, l08Code.
  Conditions: at most 1048576 gaps.
-/
import Derived.Test.YtieobjoijalijaaTopS
namespace Go.Proofs.Ytieobjoijalijaa
open Go.RowKit Go.Shelf
attribute [local go_sem] Oper.semAt_some

def onC (zs : List Int) (m : Int) : Int := if tasksOk zs then (if inB m 1 4 then fewC zs else 2) else 1
theorem onC_ok {zs : List Int} {m : Int} (h : onC zs m = 0) : tasksOk zs = true ∧ (1 ≤ m ∧ m ≤ 4) ∧ cntL zs ≤ 4000 := by
  unfold onC at h
  cases ht : tasksOk zs
  · rw [ht] at h; simp at h
  · cases hm : inB m 1 4
    · rw [ht, hm] at h; simp at h
    · rw [ht, hm] at h
      exact ⟨rfl, inB_true.1 hm, (fewC_ok h).2⟩
theorem onC_bd (zs : List Int) (m : Int) : 0 ≤ onC zs m ∧ onC zs m ≤ 3 := by unfold onC; have := fewC_bd zs; split <;> (try split) <;> omega

theorem isChannelCount_c (m : Int) (w : World) : Calls Try.prog 90 #[.int .i64 m] w fun e w' => e = .returned (.bool (inB m 1 4)) ∧ w = w' := by
  by_cases h1 : 1 ≤ m
  · by_cases h4 : m ≤ 4
    · have Hf := Lib.hid (show inB m 1 4 = true from inB_true.2 ⟨h1, h4⟩)
      go_enter Try.func90, Try.ntmps90
      go_wp2
      go_ret
      exact ⟨ret_bool Hf.out.symm, rfl⟩
    · have Hf := Lib.hid (show inB m 1 4 = false from inB_false.2 (by omega))
      go_enter Try.func90, Try.ntmps90
      go_wp2
      go_ret
      exact ⟨ret_bool Hf.out.symm, rfl⟩
  · have Hf := Lib.hid (show inB m 1 4 = false from inB_false.2 (by omega))
    go_enter Try.func90, Try.ntmps90
    go_wp2
    go_ret
    exact ⟨ret_bool Hf.out.symm, rfl⟩

set_option maxRecDepth 100000 in
set_option maxHeartbeats 4000000 in
theorem checkTasksOn_c (c0 : Value) (zs : List Int) (m : Int) (w : World) (hI : Ints w.heap.size w c0 zs) (hN : I64s zs) (hm0 : zs.length ≤ 1048576) :
    Calls Try.prog 85 #[.agg #[c0], .int .i64 m] w fun e w' => e = .returned (.int .i64 (onC zs m)) ∧ Below w.heap.size w w' := by
  obtain ⟨a, cap, rfl⟩ := hI.shape
  have hB0 : Below w.heap.size w (w.alloc (.cells #[.slice a zs.length cap] 28)) := (Below.refl _ w).alloc (Nat.le_refl _) _
  have bT0 : Boxed (w.alloc (.cells #[.slice a zs.length cap] 28)) w.heap.size 28 (.slice a zs.length cap) := Boxed.new _ _ _
  go_enter Try.func85, Try.ntmps85
  go_wp2_with fail
  refine (isTasks_c _ zs _ (hI.later hB0) (by omega)).mono ?_
  rintro e w1 ⟨rfl, hb1⟩
  have bT1 := boxed_later bT0 hb1
  have hB1 := hB0.trans (hb1.mono hB0.size)
  cases ht : tasksOk zs
  · have Hc := Lib.hid (show onC zs m = 1 by unfold onC; rw [ht]; rfl)
    clear ht
    go_wp2
    go_ret
    exact ⟨ret_int Hc.out.symm, hB1⟩
  have Ht := Lib.hid ht
  clear ht
  go_wp2_with fail
  refine (isChannelCount_c m _).mono ?_
  rintro e w2 ⟨rfl, rfl⟩
  cases hm : inB m 1 4
  · have Hc := Lib.hid (show onC zs m = 2 by unfold onC; rw [Ht.out, hm]; rfl)
    clear hm
    go_wp2
    go_ret
    exact ⟨ret_int Hc.out.symm, hB1⟩
  have Hc := Lib.hid (show onC zs m = fewC zs by unfold onC; rw [Ht.out, hm]; rfl)
  have k1 := bT1.cell
  clear hm
  go_wp2_with fail
  refine (checkStatesOf_c _ zs _ (hI.later hB1) hN hm0).mono ?_
  rintro e w3 ⟨rfl, hb3⟩
  go_wp2
  go_ret
  exact ⟨ret_int Hc.out.symm, hB1.trans (hb3.mono hB1.size)⟩

set_option maxRecDepth 100000 in
set_option maxHeartbeats 4000000 in
theorem l08Code_c (c0 : Value) (zs : List Int) (m : Int) (w : World) (hI : Ints w.heap.size w c0 zs) (hm0 : zs.length ≤ 1048576) :
    Calls Try.prog 79 #[.agg #[c0], .int .i64 m] w fun e w' => e = .returned (.int .i64 (onC zs m)) ∧ Below w.heap.size w w' := by
  obtain ⟨a, cap, rfl⟩ := hI.shape
  have hB0 : Below w.heap.size w (w.alloc (.cells #[.slice a zs.length cap] 28)) := (Below.refl _ w).alloc (Nat.le_refl _) _
  have bT0 : Boxed (w.alloc (.cells #[.slice a zs.length cap] 28)) w.heap.size 28 (.slice a zs.length cap) := Boxed.new _ _ _
  go_enter Try.func79, Try.ntmps79
  go_wp2_with fail
  refine (l01Is_c _ zs _ (hI.later hB0) (by omega)).mono ?_
  rintro e w1 ⟨rfl, hb1⟩
  have bT1 := boxed_later bT0 hb1
  have hB1 := hB0.trans (hb1.mono hB0.size)
  cases ht : tasksOk zs
  · have Hc := Lib.hid (show onC zs m = 1 by unfold onC; rw [ht]; rfl)
    clear ht
    go_wp2
    go_ret
    exact ⟨ret_int Hc.out.symm, hB1⟩
  have Ht := Lib.hid ht
  clear ht
  go_wp2_with fail
  refine (l01In_d _ _ _ _ _ rfl).mono ?_
  rintro e w2 ⟨rfl, rfl⟩
  cases hm : inB m 1 4
  · have Hc := Lib.hid (show onC zs m = 2 by unfold onC; rw [Ht.out, hm]; rfl)
    clear hm
    go_wp2
    go_ret
    exact ⟨ret_int Hc.out.symm, hB1⟩
  have Hc := Lib.hid (show onC zs m = fewC zs by unfold onC; rw [Ht.out, hm]; rfl)
  have k1 := bT1.cell
  clear hm
  go_wp2_with fail
  refine (l02Few_c _ zs _ (hI.later hB1) hm0).mono ?_
  rintro e w3 ⟨rfl, hb3⟩
  go_wp2
  go_ret
  exact ⟨ret_int Hc.out.symm, hB1.trans (hb3.mono hB1.size)⟩

end Go.Proofs.Ytieobjoijalijaa
