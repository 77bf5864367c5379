/-
  The contracts of the program's tests for tasks and turns: IsTasks, areTurns, checkTurnsFor.
  Conditions: each slice takes at most 140737488351232 bytes.
-/
import Derived.Test.YtbhpflhopajbfaaChk
namespace Go.Proofs.Ytbhpflhopajbfaa
open Go.RowKit Go.Shelf
attribute [local go_sem] Oper.semAt_some

theorem all_firsts {zs : List Int} {p : Int → Bool} (h : ∀ x ∈ firsts zs.length zs.length, p (nth zs x.1) = true) : zs.all p = true :=
  all_true_of fun j hj => h ⟨j, hj⟩ ((mem_firsts _ (Nat.le_refl _)).2 hj)
theorem all_not {zs : List Int} {p : Int → Bool} {l : List (Fin zs.length)} (h : ∃ x ∈ l, p (nth zs x.1) = false) : zs.all p = false := by
  obtain ⟨x, _, hx⟩ := h
  exact all_false_of x.2 hx

set_option maxRecDepth 100000 in
set_option maxHeartbeats 2000000 in
theorem isTasks_c (sv : Value) (zs : List Int) (w : World) (hI : Ints w.heap.size w sv zs) (hreach : zs.length * 8 ≤ 140737488351232) :
    Calls Try.prog 121 #[.agg #[sv]] w fun e W' => e = .returned (.bool (tasksOk zs)) ∧ Below w.heap.size w W' := by
  obtain ⟨a, cap, rfl⟩ := hI.shape
  refine (callsIn_wide (n := 9)).1 ?_
  by_cases hb : zs.length < 1 ∨ 8 < zs.length
  · have hf : tasksOk zs = false := by unfold tasksOk; rw [inB_false.2 (by omega)]; simp
    have Hf := Lib.hid hf
    clear hf
    refine callsIn_of_wp_marks Try.func121 rfl trivial ?_ rfl
    simp only [Try.ntmps121, List.size_toArray, List.length_cons, List.length_nil, Nat.reduceAdd, Nat.reduceSub, Array.replicate_succ, Array.replicate_zero, List.push_toArray, List.append_toArray, List.nil_append, List.cons_append]
    by_cases hb1 : zs.length < 1
    · clear hb
      gi_wp2_with fail
      exact retM0 ⟨_, by simp [results, Try.f121, go_sem], ret_bool Hf.out.symm, ((Below.refl _ w).alloc (Nat.le_refl _) _).alloc (by simp) _⟩
    · have hb2 : 8 < zs.length := by omega
      clear hb
      gi_wp2_with fail
      exact retM0 ⟨_, by simp [results, Try.f121, go_sem], ret_bool Hf.out.symm, ((Below.refl _ w).alloc (Nat.le_refl _) _).alloc (by simp) _⟩
  · have hb1 : 1 ≤ zs.length := by omega
    have hb2 : zs.length ≤ 8 := by omega
    refine callsIn_of_wp_marks Try.func121 rfl trivial ?_ rfl
    simp only [Try.ntmps121, List.size_toArray, List.length_cons, List.length_nil, Nat.reduceAdd, Nat.reduceSub, Array.replicate_succ, Array.replicate_zero, List.push_toArray, List.append_toArray, List.nil_append, List.cons_append]
    gi_wp2_with (first | (gi_at_call 93; refine (callsIn_wide.2 (numbered_c _ _ _ _)).mono ?_; rintro e w' ⟨rfl, rfl⟩) | (refine ⟨trivial, ?_⟩; gi_at_call 93; refine (callsIn_wide.2 (numbered_c _ _ _ _)).mono ?_; rintro e w' ⟨rfl, rfl⟩))
    obtain ⟨W0, hW0⟩ : ∃ W0, ((w.alloc (.cells #[.slice a zs.length cap] 28)).alloc (.cells #[.bool false] 4)).alloc (.cells #[.slice a zs.length cap] 22) = W0 := ⟨_, rfl⟩
    have hB0 : Below w.heap.size w W0 := by rw [← hW0]; exact (((Below.refl _ w).alloc (Nat.le_refl _) _).alloc (by simp) _).alloc (by simp; omega) _
    have hsz : w.heap.size + 3 ≤ W0.heap.size := by rw [← hW0]; simp
    have bR : Boxed W0 (w.heap.size + 1) 4 (.bool false) := by rw [← hW0]; simpa using (Boxed.new (w.alloc (.cells #[.slice a zs.length cap] 28)) 4 (.bool false)).alloc (.cells #[.slice a zs.length cap] 22)
    have bN : Boxed W0 (w.heap.size + 1 + 1) 22 (.slice a zs.length cap) := by rw [← hW0]; simpa using (Boxed.new ((w.alloc (.cells #[.slice a zs.length cap] 28)).alloc (.cells #[.bool false] 4)) 22 (.slice a zs.length cap))
    rw [hW0]
    clear hW0
    refine range_numbered rfl hreach bN (hI.below hB0) (by omega)
      (fun pre W => ((∀ x ∈ pre, inB (nth zs x.1) 1 40 = true) ∧ Boxed W (w.heap.size + 1) 4 (.bool false)) ∧ Below w.heap.size w W)
      (fun c pre W => (c = .ret ∧ (∃ x ∈ pre, inB (nth zs x.1) 1 40 = false) ∧ Boxed W (w.heap.size + 1) 4 (.bool false)) ∧ Below w.heap.size w W)
      (OwnFrom.and (OwnFrom.and (ownFrom_pure _ _) (Own.from (boxed_own _ _ _) _)) (ownFrom_below (Nat.le_refl _) (by omega)))
      (fun c => OwnFrom.and (OwnFrom.and (ownFrom_pure _ _) (OwnFrom.and (ownFrom_pure _ _) (Own.from (boxed_own _ _ _) _))) (ownFrom_below (Nat.le_refl _) (by omega)))
      ⟨⟨by simp, bR⟩, hB0⟩ ?a1 ?assign ?body ?done ?stop
    case assign =>
      intro l x W K hK
      gi_wp2
      exact hK
    case body =>
      rintro l pre x W ⟨⟨hp, bR1⟩, hB1⟩ hlt
      have cR := bR1.cell
      have fR := bR1.frozen
      gi_wp2
      all_goals first
        | exact ⟨(KeepsOthers.setCell _ _ _).from _, ⟨rfl, ⟨x, by simp, inB_false.2 (by omega)⟩, bR1.set _⟩, hB1.setCell (p := ⟨w.heap.size + 1, 0, none⟩) (by simp) _⟩
        | exact ⟨KeepsFrom.refl _ _, Below.refl _ _, ⟨fun y hy => (List.mem_append.1 hy).elim (hp y) (fun e => by simp at e; subst e; exact inB_true.2 (by omega)), bR1⟩, hB1⟩
    case done =>
      rintro D W hD ⟨⟨hp, bR1⟩, hB1⟩ hK
      have cR := bR1.cell
      have fR := bR1.frozen
      gi_wp2
      have hK' := (KeepsOthers.setCell W ⟨w.heap.size + 1, 0, none⟩ (.bool true)).same D _ hK rfl
      have bR2 := boxed_shut (bR1.set (.bool true)) hK'
      have cR2 := bR2.cell
      exact retM1 hK' ⟨.bool true, by simp [results, Try.f121, go_sem, cR2], ret_bool (by unfold tasksOk; rw [all_firsts hp, inB_true.2 (by omega)]; rfl), below_shut (hB1.setCell (p := ⟨w.heap.size + 1, 0, none⟩) (by simp) _) (by omega)⟩
    case stop =>
      rintro D c k W hD hk ⟨⟨rfl, hp, bR1⟩, hB1⟩ hK
      gi_wp2
      have cR2 := (boxed_shut bR1 hK).cell
      exact retM1 hK ⟨.bool false, by simp [results, Try.f121, go_sem, cR2], ret_bool (by unfold tasksOk; rw [all_not hp]; rfl), below_shut hB1 (by omega)⟩

set_option maxRecDepth 100000 in
set_option maxHeartbeats 2000000 in
theorem areTurns_c (sv : Value) (zs : List Int) (n : Int) (w : World) (hI : Ints w.heap.size w sv zs) (hreach : zs.length * 8 ≤ 140737488351232) :
    Calls Try.prog 122 #[sv, .int .i64 n] w fun e W' => e = .returned (.bool (turnsOk zs n)) ∧ Below w.heap.size w W' := by
  obtain ⟨a, cap, rfl⟩ := hI.shape
  refine (callsIn_wide (n := 9)).1 ?_
  by_cases hb : zs.length < 1 ∨ 120 < zs.length
  · have hf : turnsOk zs n = false := by unfold turnsOk; rw [show inB (zs.length : Int) 1 120 = false from inB_false.2 (by omega)]; simp
    have Hf := Lib.hid hf
    clear hf
    refine callsIn_of_wp_marks Try.func122 rfl trivial ?_ rfl
    simp only [Try.ntmps122, List.size_toArray, List.length_cons, List.length_nil, Nat.reduceAdd, Nat.reduceSub, Array.replicate_succ, Array.replicate_zero, List.push_toArray, List.append_toArray, List.nil_append, List.cons_append]
    by_cases hb1 : zs.length < 1
    · clear hb
      gi_wp2_with fail
      exact retM0 ⟨_, by simp [results, Try.f122, go_sem], ret_bool Hf.out.symm, ((Below.refl _ w).alloc (Nat.le_refl _) _).alloc (by simp) _⟩
    · have hb2 : 120 < zs.length := by omega
      clear hb
      gi_wp2_with fail
      exact retM0 ⟨_, by simp [results, Try.f122, go_sem], ret_bool Hf.out.symm, ((Below.refl _ w).alloc (Nat.le_refl _) _).alloc (by simp) _⟩
  · have hb1 : 1 ≤ zs.length := by omega
    have hb2 : zs.length ≤ 120 := by omega
    refine callsIn_of_wp_marks Try.func122 rfl trivial ?_ rfl
    simp only [Try.ntmps122, List.size_toArray, List.length_cons, List.length_nil, Nat.reduceAdd, Nat.reduceSub, Array.replicate_succ, Array.replicate_zero, List.push_toArray, List.append_toArray, List.nil_append, List.cons_append]
    gi_wp2_with (first | (gi_at_call 93; refine (callsIn_wide.2 (numbered_c _ _ _ _)).mono ?_; rintro e w' ⟨rfl, rfl⟩) | (refine ⟨trivial, ?_⟩; gi_at_call 93; refine (callsIn_wide.2 (numbered_c _ _ _ _)).mono ?_; rintro e w' ⟨rfl, rfl⟩))
    obtain ⟨W0, hW0⟩ : ∃ W0, ((w.alloc (.cells #[.int .i64 n] 2)).alloc (.cells #[.bool false] 4)).alloc (.cells #[.slice a zs.length cap] 22) = W0 := ⟨_, rfl⟩
    have hB0 : Below w.heap.size w W0 := by rw [← hW0]; exact (((Below.refl _ w).alloc (Nat.le_refl _) _).alloc (by simp) _).alloc (by simp; omega) _
    have hsz : w.heap.size + 3 ≤ W0.heap.size := by rw [← hW0]; simp
    have bA : Boxed W0 w.heap.size 2 (.int .i64 n) := by rw [← hW0]; exact ((Boxed.new w 2 (.int .i64 n)).alloc _).alloc _
    have bR : Boxed W0 (w.heap.size + 1) 4 (.bool false) := by rw [← hW0]; simpa using (Boxed.new (w.alloc (.cells #[.int .i64 n] 2)) 4 (.bool false)).alloc (.cells #[.slice a zs.length cap] 22)
    have bN : Boxed W0 (w.heap.size + 1 + 1) 22 (.slice a zs.length cap) := by rw [← hW0]; simpa using (Boxed.new ((w.alloc (.cells #[.int .i64 n] 2)).alloc (.cells #[.bool false] 4)) 22 (.slice a zs.length cap))
    rw [hW0]
    clear hW0
    refine range_numbered rfl hreach bN (hI.below hB0) (by omega)
      (fun pre W => ((∀ x ∈ pre, inB (nth zs x.1) (-1) (n - 1) = true) ∧ Boxed W (w.heap.size + 1) 4 (.bool false) ∧ Boxed W w.heap.size 2 (.int .i64 n)) ∧ Below w.heap.size w W)
      (fun c pre W => (c = .ret ∧ (∃ x ∈ pre, inB (nth zs x.1) (-1) (n - 1) = false) ∧ Boxed W (w.heap.size + 1) 4 (.bool false)) ∧ Below w.heap.size w W)
      (OwnFrom.and (OwnFrom.and (ownFrom_pure _ _) (OwnFrom.and (Own.from (boxed_own _ _ _) _) (Own.from (boxed_own _ _ _) _))) (ownFrom_below (Nat.le_refl _) (by omega)))
      (fun c => OwnFrom.and (OwnFrom.and (ownFrom_pure _ _) (OwnFrom.and (ownFrom_pure _ _) (Own.from (boxed_own _ _ _) _))) (ownFrom_below (Nat.le_refl _) (by omega)))
      ⟨⟨by simp, bR, bA⟩, hB0⟩ ?a1 ?assign ?body ?done ?stop
    case assign =>
      intro l x W K hK
      gi_wp2
      exact hK
    case body =>
      rintro l pre x W ⟨⟨hp, bR1, bA1⟩, hB1⟩ hlt
      have cR := bR1.cell
      have fR := bR1.frozen
      have cA := bA1.cell
      gi_wp2
      all_goals first
        | exact ⟨(KeepsOthers.setCell _ _ _).from _, ⟨rfl, ⟨x, by simp, inB_false.2 (by omega)⟩, bR1.set _⟩, hB1.setCell (p := ⟨w.heap.size + 1, 0, none⟩) (by simp) _⟩
        | exact ⟨KeepsFrom.refl _ _, Below.refl _ _, ⟨fun y hy => (List.mem_append.1 hy).elim (hp y) (fun e => by simp at e; subst e; exact inB_true.2 (by omega)), bR1, bA1⟩, hB1⟩
    case done =>
      rintro D W hD ⟨⟨hp, bR1, bA1⟩, hB1⟩ hK
      have cR := bR1.cell
      have fR := bR1.frozen
      gi_wp2
      have hK' := (KeepsOthers.setCell W ⟨w.heap.size + 1, 0, none⟩ (.bool true)).same D _ hK rfl
      have cR2 := (boxed_shut (bR1.set (.bool true)) hK').cell
      exact retM1 hK' ⟨.bool true, by simp [results, Try.f122, go_sem, cR2], ret_bool (by unfold turnsOk; rw [all_firsts hp, inB_true.2 (by omega)]; rfl), below_shut (hB1.setCell (p := ⟨w.heap.size + 1, 0, none⟩) (by simp) _) (by omega)⟩
    case stop =>
      rintro D c k W hD hk ⟨⟨rfl, hp, bR1⟩, hB1⟩ hK
      gi_wp2
      have cR2 := (boxed_shut bR1 hK).cell
      exact retM1 hK ⟨.bool false, by simp [results, Try.f122, go_sem, cR2], ret_bool (by unfold turnsOk; rw [all_not hp]; rfl), below_shut hB1 (by omega)⟩

end Go.Proofs.Ytbhpflhopajbfaa
