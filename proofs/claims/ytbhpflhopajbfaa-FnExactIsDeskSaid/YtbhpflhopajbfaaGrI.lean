/-
  The contracts of the program's tests for gardens: areWithin, IsGarden, checkHeightsFor, checkTurnsIn, isSpeedNumber.
  Conditions: each slice takes at most 140737488351232 bytes.
-/
import Derived.Test.YtbhpflhopajbfaaChkI
import Derived.Test.YtbhpflhopajbfaaGrd
namespace Go.Proofs.Ytbhpflhopajbfaa
open Go.RowKit Go.Shelf
attribute [local go_sem] Oper.semAt_some

set_option maxRecDepth 100000 in
set_option maxHeartbeats 2000000 in
theorem areWithin_c (sv : Value) (zs : List Int) (x y : Int) (w : World) (hI : Ints w.heap.size w sv zs) (hreach : zs.length * 8 ≤ 140737488351232) :
    Calls Try.prog 163 #[sv, .int .i64 x, .int .i64 y] w fun e W' => e = .returned (.bool (zs.all fun z => inB z x y)) ∧ Below w.heap.size w W' := by
  obtain ⟨a, cap, rfl⟩ := hI.shape
  refine (callsIn_wide (n := 9)).1 ?_
  refine callsIn_of_wp_marks Try.func163 rfl trivial ?_ rfl
  simp only [Try.ntmps163, List.size_toArray, List.length_cons, List.length_nil, Nat.reduceAdd, Nat.reduceSub, Array.replicate_succ, Array.replicate_zero, List.push_toArray, List.append_toArray, List.nil_append, List.cons_append]
  gi_wp2_with (first | (gi_at_call 93; refine (callsIn_wide.2 (numbered_c _ _ _ _)).mono ?_; rintro e w' ⟨rfl, rfl⟩) | (refine ⟨trivial, ?_⟩; gi_at_call 93; refine (callsIn_wide.2 (numbered_c _ _ _ _)).mono ?_; rintro e w' ⟨rfl, rfl⟩))
  obtain ⟨W0, hW0⟩ : ∃ W0, ((((w.alloc (.cells #[.int .i64 x] 2)).alloc (.cells #[.int .i64 y] 2)).alloc (.cells #[.bool false] 4)).alloc (.cells #[.slice a zs.length cap] 22)) = W0 := ⟨_, rfl⟩
  have hB0 : Below w.heap.size w W0 := by rw [← hW0]; exact (((((Below.refl _ w).alloc (Nat.le_refl _) _).alloc (by simp; try omega) _).alloc (by simp; try omega) _).alloc (by simp; try omega) _)
  have hs0 : w.heap.size + 4 ≤ W0.heap.size := by rw [← hW0]; simp
  have bX : Boxed W0 (w.heap.size) 2 (.int .i64 x) := by rw [← hW0]; repeat first | (refine boxed_at ?_; (simp; done)) | refine Boxed.alloc ?_ _
  have bY : Boxed W0 (w.heap.size + 1) 2 (.int .i64 y) := by rw [← hW0]; repeat first | (refine boxed_at ?_; (simp; done)) | refine Boxed.alloc ?_ _
  have bR : Boxed W0 (w.heap.size + 1 + 1) 4 (.bool false) := by rw [← hW0]; repeat first | (refine boxed_at ?_; (simp; done)) | refine Boxed.alloc ?_ _
  have bN : Boxed W0 (w.heap.size + 1 + 1 + 1) 22 (.slice a zs.length cap) := by rw [← hW0]; repeat first | (refine boxed_at ?_; (simp; done)) | refine Boxed.alloc ?_ _
  rw [hW0]
  clear hW0
  refine range_numbered rfl hreach bN (hI.below hB0) (by omega)
    (fun pre W => ((∀ z ∈ pre, inB (nth zs z.1) x y = true) ∧ Boxed W (w.heap.size + 1 + 1) 4 (.bool false) ∧ Boxed W w.heap.size 2 (.int .i64 x) ∧ Boxed W (w.heap.size + 1) 2 (.int .i64 y)) ∧ Below w.heap.size w W)
    (fun c pre W => (c = .ret ∧ (∃ z ∈ pre, inB (nth zs z.1) x y = false) ∧ Boxed W (w.heap.size + 1 + 1) 4 (.bool false)) ∧ Below w.heap.size w W)
    (OwnFrom.and (OwnFrom.and (ownFrom_pure _ _) (OwnFrom.and (Own.from (boxed_own _ _ _) _) (OwnFrom.and (Own.from (boxed_own _ _ _) _) (Own.from (boxed_own _ _ _) _)))) (ownFrom_below (Nat.le_refl _) (by omega)))
    (fun c => OwnFrom.and (OwnFrom.and (ownFrom_pure _ _) (OwnFrom.and (ownFrom_pure _ _) (Own.from (boxed_own _ _ _) _))) (ownFrom_below (Nat.le_refl _) (by omega)))
    ⟨⟨by simp, bR, bX, bY⟩, hB0⟩ ?a1 ?assign ?body ?done ?stop
  case assign =>
    intro l x W K hK
    gi_wp2
    exact hK
  case body =>
    rintro l pre z W ⟨⟨hp, bR1, bX1, bY1⟩, hB1⟩ hlt
    have cR := bR1.cell
    have fR := bR1.frozen
    have cX := bX1.cell
    have cY := bY1.cell
    gi_wp2
    all_goals first
      | exact ⟨(KeepsOthers.setCell _ _ _).from _, ⟨rfl, ⟨z, by simp, inB_false.2 (by omega)⟩, bR1.set _⟩, hB1.setCell (p := ⟨w.heap.size + 1 + 1, 0, none⟩) (by simp; omega) _⟩
      | exact ⟨KeepsFrom.refl _ _, Below.refl _ _, ⟨fun y hy => (List.mem_append.1 hy).elim (hp y) (fun e => by simp at e; subst e; exact inB_true.2 (by omega)), bR1, bX1, bY1⟩, hB1⟩
  case done =>
    rintro D W hD ⟨⟨hp, bR1, bX1, bY1⟩, hB1⟩ hK
    have cR := bR1.cell
    have fR := bR1.frozen
    gi_wp2
    have hK' := (KeepsOthers.setCell W ⟨w.heap.size + 1 + 1, 0, none⟩ (.bool true)).same D _ hK rfl
    have cR2 := (boxed_shut (bR1.set (.bool true)) hK').cell
    exact retM1 hK' ⟨.bool true, by simp [results, Try.f163, go_sem, cR2], ret_bool (all_firsts (p := fun z => inB z x y) hp).symm, below_shut (hB1.setCell (p := ⟨w.heap.size + 1 + 1, 0, none⟩) (by simp; omega) _) (by omega)⟩
  case stop =>
    rintro D c k W hD hk ⟨⟨rfl, hp, bR1⟩, hB1⟩ hK
    gi_wp2
    have cR2 := (boxed_shut bR1 hK).cell
    exact retM1 hK ⟨.bool false, by simp [results, Try.f163, go_sem, cR2], ret_bool (all_not (p := fun z => inB z x y) hp).symm, below_shut hB1 (by omega)⟩

theorem areWithin_d (d : Bool) (sv : Value) (zs : List Int) (x y : Int) (w : World) (hI : Ints w.heap.size w sv zs) (hreach : zs.length * 8 ≤ 140737488351232) (hd : (zs.all fun z => inB z x y) = d) :
    Calls Try.prog 163 #[sv, .int .i64 x, .int .i64 y] w fun e W' => e = .returned (.bool d) ∧ Below w.heap.size w W' := by
  subst hd; exact areWithin_c sv zs x y w hI hreach

set_option maxRecDepth 100000 in
set_option maxHeartbeats 2000000 in
theorem isGarden_c (sv : Value) (rs : List Int) (w : World) (hI : Ints w.heap.size w sv rs) (hreach : rs.length * 8 ≤ 140737488351232) :
    Calls Try.prog 123 #[.agg #[sv]] w fun e W' => e = .returned (.bool (gardenOk rs)) ∧ Below w.heap.size w W' := by
  obtain ⟨a, cap, rfl⟩ := hI.shape
  have hB0 : Below w.heap.size w (w.alloc (.cells #[.slice a rs.length cap] 74)) := (Below.refl _ w).alloc (Nat.le_refl _) _
  by_cases hb1 : rs.length < 1
  · have hf : gardenOk rs = false := by unfold gardenOk; rw [inB_false.2 (by omega)]; simp
    have Hf := Lib.hid hf
    clear hf
    go_enter Try.func123, Try.ntmps123
    go_wp2
    go_ret
    exact ⟨ret_bool Hf.out.symm, hB0⟩
  · by_cases hb2 : 8 < rs.length
    · have hf : gardenOk rs = false := by unfold gardenOk; rw [inB_false.2 (by omega)]; simp
      have Hf := Lib.hid hf
      clear hf
      go_enter Try.func123, Try.ntmps123
      go_wp2
      go_ret
      exact ⟨ret_bool Hf.out.symm, hB0⟩
    · have hf : gardenOk rs = rs.all fun z => inB z 1 20 := by unfold gardenOk; rw [inB_true.2 (show 1 ≤ (rs.length : Int) ∧ (rs.length : Int) ≤ 8 by omega), Bool.and_true]
      have Hf := Lib.hid hf
      clear hf
      go_enter Try.func123, Try.ntmps123
      go_wp2_with fail
      refine (areWithin_c _ rs 1 20 _ (hI.later hB0) hreach).mono ?_
      rintro e w1 ⟨rfl, hb⟩
      go_wp2
      go_ret
      exact ⟨ret_bool Hf.out.symm, hB0.trans (hb.mono (by simp))⟩

theorem isGarden_d (d : Bool) (sv : Value) (rs : List Int) (w : World) (hI : Ints w.heap.size w sv rs) (hreach : rs.length * 8 ≤ 140737488351232) (hd : gardenOk rs = d) :
    Calls Try.prog 123 #[.agg #[sv]] w fun e W' => e = .returned (.bool d) ∧ Below w.heap.size w W' := by
  subst hd; exact isGarden_c sv rs w hI hreach

theorem i_IsGarden (c0 : Value) (zs : List Int) (w : World) (hI : Ints w.heap.size w c0 zs) (_hN : I64s zs) (hm : zs.length ≤ 1048576) :
    Calls Try.prog 123 #[.agg #[c0]] w fun e w' => e = .returned (.bool (gardenOk zs)) ∧ Below w.heap.size w w' := isGarden_c c0 zs w hI (by omega)

end Go.Proofs.Ytbhpflhopajbfaa
