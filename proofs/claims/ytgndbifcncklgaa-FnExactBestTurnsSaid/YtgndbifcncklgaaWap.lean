/-
  Means of waits, the program: meanWaitFor and its closure.
  Conditions: turns of 1 to 120 slots.
-/
import Derived.Test.YtgndbifcncklgaaWao
namespace Go.Proofs.Ytgndbifcncklgaa
open Go.RowKit Go.Shelf
attribute [local go_sem] Oper.semAt_some

/-- the shift by n lies in the block g -/
theorem ints_sh {B g cap n : Nat} {W : World} {ts : List Int} (ho : OwnI B W (.slice (some ⟨g, 0, none⟩) (ts.length + ts.length) cap) (ts ++ ts)) (hn : n < ts.length) : Ints W.heap.size W (.slice (some ⟨g, n, none⟩) ts.length ts.length) (shiftL ts n) := by
  have hsl : (shiftL ts n).length = ts.length := shiftL_length (by omega)
  refine ⟨_, _, by rw [hsl], .inr ⟨g, n, rfl, (ho.blk g rfl).2, fun j hj => ?_⟩⟩
  rw [hsl] at hj
  have := ho.cellAt (j := n + j) (by simp; omega)
  rw [this, nth_twice (by omega) hj]
theorem frBd_waits {ts : List Int} (is : List Int) (h0 : 0 < ts.length) (hl : ts.length ≤ 120) : FrBd (wa ts is) (fun _ => 1) (fun _ => 1) ts.length := by
  refine ⟨fun _ _ => Nat.one_pos, ?_, fun k hk => ?_, fun k hk => ?_, fun k hk => ?_, fun k hk => ?_, ?_, ?_⟩
  · rw [fr_waits]; have := suW_le2 is h0 hl (Nat.le_refl _); simp only; omega
  · have := wa_lt is h0 (s := k) (by omega); simp only [Nat.mul_one]; omega
  · rw [fr_waits]; have := suW_le2 is h0 hl (k := k) (by omega); have := wa_lt is h0 (s := k) (by omega); simp only [Nat.mul_one]; omega
  · rw [fr_waits]; simp
  · rw [wtTo_one]; omega
  · rw [wtTo_one]; exact h0
  · rw [fr_waits, wtTo_one]; simp only [Nat.one_mul]; omega

set_option maxRecDepth 100000 in
set_option maxHeartbeats 4000000 in
theorem meanWaitFor1_c (k : Int) (xv tv : Value) (xs is : List Int) (bI : Nat) (w : World) (hI : Ints w.heap.size w xv xs) (hb : Boxed w bI 24 tv) (hT : Ints w.heap.size w tv is) (h0 : 0 < xs.length) (hl : xs.length ≤ 120) (hm : is.length ≤ 1048576) :
    Calls Try.prog 112 #[.int .i64 k, xv, .pointer (some ⟨bI, 0, none⟩)] w fun e w' => e = .returned (.tuple #[.agg #[.int .i64 (waTo xs is is.length : Nat), .int .i64 ((1 : Nat) : Int)], .int .i64 ((1 : Nat) : Int)]) ∧ Below w.heap.size w w' := by
  obtain ⟨a, cap, rfl⟩ := hI.shape
  obtain ⟨a2, cap2, rfl⟩ := hT.shape
  have c0 := hb.cell
  have hlt := hb.lt
  go_enter Try.func112, Try.ntmps112
  go_wp2_with fail
  obtain ⟨W0, hW0⟩ : ∃ W0, w.alloc (.cells #[.int .i64 0, .int .i64 0] 76) = W0 := ⟨_, rfl⟩
  have hB0 : Below w.heap.size w W0 := by rw [← hW0]; exact (Below.refl _ w).alloc (Nat.le_refl _) _
  have bR : Box2 W0 w.heap.size 76 (.int .i64 0) (.int .i64 0) := by rw [← hW0]; exact Box2.new _ _ _ _
  rw [hW0]
  clear hW0
  refine (waitFor_c _ _ xs is _ (hI.later hB0) (hT.later hB0) h0 (by omega) hm).mono ?_
  rintro e w1 ⟨rfl, hb1⟩
  replace bR := bR.later hb1
  have hB1 := hB0.trans (hb1.mono hB0.size)
  obtain ⟨m, hm⟩ : ∃ m, waTo xs is is.length = m := ⟨_, rfl⟩
  have Hm := Lib.hid hm
  rw [hm]
  clear hm hb1 hB0
  have d0 := bR.c0
  have d1 := bR.c1
  have f0 := bR.frozen 0
  have f1 := bR.frozen 1
  go_wp2_with fail
  have b3 := (bR.set0 (.int .i64 (m : Int))).set1 (.int .i64 1)
  have e0 := b3.c0
  have e1 := b3.c1
  refine bodyPost_ret (v := .tuple #[.agg #[.int .i64 (m : Int), .int .i64 1], .int .i64 1]) (by simp [results, Try.results112, go_sem, e0, e1]) rfl ⟨by rw [Hm.out]; rfl, ?_⟩
  exact (hB1.setCell (p := ⟨w.heap.size, 0, none⟩) (by simp) _).setCell (p := ⟨w.heap.size, 1, none⟩) (by simp) _

set_option maxRecDepth 100000 in
set_option maxHeartbeats 4000000 in
theorem meanWaitFor_c (sv tv : Value) (ts is : List Int) (w : World) (hI : Ints w.heap.size w sv ts) (hT : Ints w.heap.size w tv is) (h0 : 0 < ts.length) (hl : ts.length ≤ 120) (hm : is.length ≤ 1048576) :
    Calls Try.prog 68 #[sv, tv] w fun e w' => e = .returned (.agg #[.int .i64 (lowN (suW ts is ts.length) ts.length : Nat), .int .i64 (lowD (suW ts is ts.length) ts.length : Nat)]) ∧ Below w.heap.size w w' := by
  obtain ⟨a, cap, rfl⟩ := hI.shape
  obtain ⟨a2, cap2, rfl⟩ := hT.shape
  go_enter Try.func68, Try.ntmps68
  go_wp2_with fail
  obtain ⟨W0, hW0⟩ : ∃ W0, (w.alloc (.cells #[.slice a2 is.length cap2] 24)).alloc (.cells #[.int .i64 0, .int .i64 0] 76) = W0 := ⟨_, rfl⟩
  have hB0 : Below w.heap.size w W0 := by rw [← hW0]; exact ((Below.refl _ w).alloc (Nat.le_refl _) _).alloc (by simp) _
  have bI : Boxed W0 w.heap.size 24 (.slice a2 is.length cap2) := by rw [← hW0]; exact (Boxed.new _ _ _).alloc _
  have bR : Box2 W0 (w.heap.size + 1) 76 (.int .i64 0) (.int .i64 0) := by rw [← hW0]; exact box2_at (by simp)
  rw [hW0]
  clear hW0
  refine (shiftsOf_c _ ts _ (hI.later hB0) h0 (by omega)).mono ?_
  rintro e w1 ⟨bT1, bR1, g, c, rfl, hT1, hR1, ho, q1, q2, q3, q4, hcap, hb1⟩
  replace bI := boxed_later bI hb1
  replace bR := bR.later hb1
  have hB1 := hB0.trans (hb1.mono hB0.size)
  have hTl := hT1.lt
  have hRl := hR1.lt
  have hIl := bI.lt
  have hs1 := hB1.size
  clear hb1 hB0
  go_wp2_with fail
  refine (meanShifts_c #[.pointer (some ⟨bT1, 0, none⟩), .pointer (some ⟨bR1, 0, none⟩)] w.heap.size (fun k => .slice (some ⟨g, k, none⟩) ts.length ts.length) (fun b => b < w.heap.size ∨ b = bR1) 4 ts.length (wa ts is) (fun _ => 1) (fun _ => 1) w1
    (fun W hW => shiftsOf_at 8 bT1 bR1 w.heap.size g c _ ts h0 (by omega) hcap W (boxed_later hT1 hW) (boxed_later hR1 hW) (by have := hW.size; omega) (hI.below (hB1.trans (hW.mono hs1)))) (fun b hb => by omega) (frBd_waits is h0 hl)
    (fun k W hk hW => by
      have hsl : (shiftL ts k).length = ts.length := shiftL_length (by omega)
      have := meanWaitFor1_c (k : Int) (.slice (some ⟨g, k, none⟩) ts.length ts.length) _ (shiftL ts k) is w.heap.size W (ints_sh (ho.below hW) hk) (boxed_later bI hW) (hT.later (hB1.trans (hW.mono hs1))) (by rw [hsl]; exact h0) (by rw [hsl]; exact hl) hm
      exact this)).mono ?_
  rintro e w2 ⟨rfl, hb2⟩
  rw [meN_waits, meD_waits]
  replace bR := bR.later hb2
  have hB2 := hB1.trans (hb2.mono hB1.size)
  obtain ⟨m, hm⟩ : ∃ m, lowN (suW ts is ts.length) ts.length = m := ⟨_, rfl⟩
  obtain ⟨n, hn⟩ : ∃ n, lowD (suW ts is ts.length) ts.length = n := ⟨_, rfl⟩
  have Hm := Lib.hid hm
  have Hn := Lib.hid hn
  rw [hm, hn]
  clear hm hn hb2 hB1
  have d0 := bR.c0
  have d1 := bR.c1
  have f0 := bR.frozen 0
  have f1 := bR.frozen 1
  go_wp2_with fail
  have b3 := (bR.set0 (.int .i64 (m : Int))).set1 (.int .i64 (n : Int))
  have e0 := b3.c0
  have e1 := b3.c1
  refine bodyPost_ret (v := .agg #[.int .i64 (m : Int), .int .i64 (n : Int)]) (by simp [results, Try.results68, go_sem, e0, e1]) rfl ⟨ret_frac (by rw [Hm.out]) (by rw [Hn.out]), ?_⟩
  exact (hB2.setCell (p := ⟨w.heap.size + 1, 0, none⟩) (by simp) _).setCell (p := ⟨w.heap.size + 1, 1, none⟩) (by simp) _

end Go.Proofs.Ytgndbifcncklgaa
