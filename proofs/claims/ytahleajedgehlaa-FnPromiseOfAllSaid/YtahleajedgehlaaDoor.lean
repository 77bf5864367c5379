/-
  Work that may be refused: demand, throughDoor for lists and for tasks.
  Conditions: what the work's own contract says.
-/
import Derived.Defers
import Derived.Recover
import Derived.WalkLawsBesides
import Derived.Test.YtahleajedgehlaaServe
namespace Go.Proofs.Ytahleajedgehlaa
open Go.RowKit Go.Shelf
attribute [local go_sem] Oper.semAt_some

/-- a refusal with the code c -/
def refused (c : Int) : List PanicEntry := [{ v := .iface 71 (.int .i64 c), recovered := false }]

theorem demand_yes (c : Int) (w : World) : Calls Try.prog 35 #[.bool true, .int .i64 c] w fun e w' => e = .returned (.tuple #[]) ∧ w = w' := by
  go_enter Try.func35, Try.ntmps35
  go_wp2
  go_end0
  exact ⟨rfl, rfl⟩

theorem demand_no (c : Int) (w : World) : Calls Try.prog 35 #[.bool false, .int .i64 c] w fun e w' => e = .panicked (refused c) ∧ w = w' := by
  go_enter Try.func35, Try.ntmps35
  go_wp2
  exact ⟨rfl, rfl, rfl⟩

theorem catch_yes (p : Addr) (x c : Int) (w : World) (hc : w.cell? p = some (.int .i64 x)) (hz : w.frozen? p = false) :
    CallsD Try.prog 46 #[.pointer (some p)] (.panicking (refused c)) w fun e u' w' =>
      e = .returned (.tuple #[]) ∧ u' = .panicking [{ v := .iface 71 (.int .i64 c), recovered := true }] ∧ w' = w.setCell p (.int .i64 c) := by
  refine callsD_of_wpS Try.func46 rfl fun c₀ cs hu => ?_
  apply wpS_seq
  apply wpS_region
  simp [wpOpsS, go_sem, recoverD, hu, Try.ntmps46, Exit.thenS, refused]
  simp only [Array.replicate_succ, Array.replicate_zero, List.push_toArray, List.append_toArray, List.nil_append, List.cons_append, List.setIfInBounds_toArray, List.set_cons_zero, List.set_cons_succ]
  apply wpS_seq
  apply wpS_region
  simp [wpOpsS, go_sem, Exit.thenS]
  refine wpS_cond (t := true) (by simp [Act.eval]) ?_
  simp only [if_true]
  apply wpS_region
  have hta : ∀ w, (Instr.typeAssert (.iface 71 (.int .i64 c)) 20 71 false).run Try.prog w = .ok (.int .i64 c) w := fun w => by kernel_rfl
  simp [wpOpsS, go_sem, hta, hc, hz, bodyPostS, results, Try.f46]

theorem catch_no (p : Addr) (w : World) :
    CallsD Try.prog 46 #[.pointer (some p)] .returning w fun e u' w' => e = .returned (.tuple #[]) ∧ u' = .returning ∧ w' = w := by
  refine callsD_of_wpS Try.func46 rfl fun c₀ cs hu => ?_
  apply wpS_seq
  apply wpS_region
  simp [wpOpsS, go_sem, recoverD, hu, Try.ntmps46, Exit.thenS]
  simp only [Array.replicate_succ, Array.replicate_zero, List.push_toArray, List.append_toArray, List.nil_append, List.cons_append, List.setIfInBounds_toArray, List.set_cons_zero, List.set_cons_succ]
  apply wpS_seq
  apply wpS_region
  simp [wpOpsS, go_sem, Exit.thenS]
  refine wpS_cond (t := false) (by simp [Act.eval]) ?_
  simp only [Bool.false_eq_true, if_false]
  refine wpS_of_wp (wp_skip ?_)
  cases c₀
  simp_all [bodyPostS, results, Try.f46]

set_option maxRecDepth 100000 in
set_option maxHeartbeats 4000000 in
theorem doorL_c (g : Nat) (cap : Array Value) (zs : List Int) (c : Int) (w : World) (eg : ∀ args w, (callFunc g args).run Try.prog w = .ok (.enter g args) w)
    (h : ∀ W, Below w.heap.size w W → w.heap.size ≤ W.heap.size → Calls Try.prog g cap W fun e W' => (c = 0 ∧ GivesI W zs id e W') ∨ (zs = [] ∧ e = .panicked (refused c) ∧ Below W.heap.size W W')) :
    Calls Try.prog 33 #[.func (.func g) #[] cap] w (GivesI w zs fun v => .tuple #[v, .int .i64 c]) := by
  have hmf : ∀ (fn : Fn) (first cap : Array Value) (w : World), (Instr.makeFunc fn first cap).run Try.prog w = .ok (.func fn first cap) w := fun _ _ _ _ => rfl
  have hB0 : Below w.heap.size w (w.alloc (.cells #[.int .i64 0] 2)) := (Below.refl _ w).alloc (Nat.le_refl _) _
  have hcall := h _ hB0 (by simp)
  clear h
  go_enter_defers Try.func33, Try.ntmps33
  go_wp2_with fail
  refine hcall.mono ?_
  have bC := Boxed.new w 2 (.int .i64 0)
  have hsz : w.heap.size + 1 ≤ (w.alloc (.cells #[.int .i64 0] 2)).heap.size := by simp
  obtain ⟨W0, hW0⟩ : ∃ W0, w.alloc (.cells #[.int .i64 0] 2) = W0 := ⟨_, rfl⟩
  rw [hW0] at hB0 bC hsz ⊢
  clear hW0 hcall
  rintro e W' (⟨hc0, v, rfl, ho, hb⟩ | ⟨hc0, rfl, hb⟩)
  · simp only [id]
    have b1 := boxed_later bC hb
    have c1 := b1.cell
    have f1 := b1.frozen
    have hB1 := hB0.trans (hb.mono (by omega))
    subst hc0
    go_wp2
    refine leaves_cons (f := 46) (args := #[.pointer (some ⟨w.heap.size, 0, none⟩)]) (by simp) (by simp [go_sem]) ?_
    refine (catch_no ⟨w.heap.size, 0, none⟩ _).mono ?_
    rintro e u' w'' ⟨rfl, rfl, rfl⟩
    have k1 := (b1.set (.int .i64 0)).cell
    have ho1 : OwnI w.heap.size (W'.setCell ⟨w.heap.size, 0, none⟩ (.int .i64 0)) v zs := (ho.kept (grownBy_setCell2 _ _ _ _) (.inr (fun e => by have := (ho.blk _ e).1; omega))).base (by omega)
    have hB2 : Below w.heap.size w (W'.setCell ⟨w.heap.size, 0, none⟩ (.int .i64 0)) := hB1.setCell (p := ⟨w.heap.size, 0, none⟩) (Nat.le_refl _) _
    exact ⟨.tuple #[v, .int .i64 0], by simp [results, Try.f33, go_sem, k1], _, rfl, ho1, hB2⟩
  · have b1 := boxed_later bC hb
    have c1 := b1.cell
    have f1 := b1.frozen
    have hB1 := hB0.trans (hb.mono (by omega))
    subst hc0
    go_wp2
    refine leaves_cons (f := 46) (args := #[.pointer (some ⟨w.heap.size, 0, none⟩)]) (by simp) (by simp [go_sem]) ?_
    refine (catch_yes ⟨w.heap.size, 0, none⟩ 0 c _ c1 f1).mono ?_
    rintro e u' w'' ⟨rfl, rfl, rfl⟩
    have k1 := (b1.set (.int .i64 c)).cell
    exact ⟨.tuple #[.slice none 0 0, .int .i64 c], by simp [results, Try.f33, go_sem, k1], _, rfl, ownI_nil _ _, hB1.setCell (p := ⟨w.heap.size, 0, none⟩) (Nat.le_refl _) _⟩

end Go.Proofs.Ytahleajedgehlaa
