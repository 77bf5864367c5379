/-
  SortTasks of the program: the library's stable sort, SortTasks.
  Conditions: at most eight tasks where they are sorted; lists of at most 1048576 elements.
-/
import Derived.Test.YtahleajedgehlaaSortI
namespace Go.Proofs.Ytahleajedgehlaa
open Go.RowKit Go.Shelf
attribute [local go_sem] Oper.semAt_some

set_option maxRecDepth 100000 in
set_option maxHeartbeats 8000000 in
theorem stableSort_c (tb n₀ B g cap2 : Nat) (a : Option Addr) (cap : Nat) (zs : List Int) (w : World) (hb : Boxed w tb 24 (.slice a zs.length cap)) (hI : Ints n₀ w (.slice a zs.length cap) zs)
    (ho : OwnI B w (.slice (some ⟨g, 0, none⟩) zs.length cap2) (stI zs zs.length 1)) (hne : tb ≠ g) (hn0 : n₀ ≤ g) (hnw : n₀ ≤ w.heap.size) (hl : zs.length ≤ 8) (h0 : 1 ≤ zs.length) :
    Calls Try.prog 64 #[.slice (some ⟨g, 0, none⟩) zs.length cap2, .int .i64 zs.length, .func (.func 57) #[] #[.pointer (some ⟨tb, 0, none⟩)]] w
      fun e w' => (∃ v, e = .returned v) ∧ OwnI B w' (.slice (some ⟨g, 0, none⟩) zs.length cap2) (ordTo zs zs.length) ∧ w.grownBy w' (some g) := by
  have hlz : ¬ (20 : Int) ≤ (zs.length : Int) := by omega
  have hlz2 : ¬ (20 : Int) < (zs.length : Int) := by omega
  go_enter Try.func64, Try.ntmps64
  go_wp2
  go_loopw [7, 8] (fun x y wr => x = .int .i64 0 ∧ y = .int .i64 20 ∧ wr = w) (fun _ _ _ => 0)
  case atStart => exact ⟨rfl, rfl, rfl⟩
  case round =>
    obtain ⟨rfl, rfl, rfl⟩ := hrel
    go_wp2_with fail
    refine (insertSort_c tb n₀ B g cap2 a cap zs _ hb hI ho hne hn0 hnw hl h0).mono ?_
    rintro e w2 ⟨⟨v, rfl⟩, ho2, hg2⟩
    go_wp2
    go_loopw [6] (fun x wr2 => x = .int .i64 20 ∧ wr2 = w2) (fun _ _ => 0)
    case atStart => exact ⟨rfl, rfl⟩
    case round =>
      obtain ⟨rfl, rfl⟩ := hrel
      go_wp2
      go_end0
      exact ⟨⟨_, rfl⟩, ho2, hg2⟩

set_option maxRecDepth 100000 in
set_option maxHeartbeats 8000000 in
theorem sortStable_c (tb n₀ B g cap2 : Nat) (a : Option Addr) (cap : Nat) (zs : List Int) (w : World) (hb : Boxed w tb 24 (.slice a zs.length cap)) (hI : Ints n₀ w (.slice a zs.length cap) zs)
    (ho : OwnI B w (.slice (some ⟨g, 0, none⟩) zs.length cap2) (stI zs zs.length 1)) (hne : tb ≠ g) (hn0 : n₀ ≤ g) (hnw : n₀ ≤ w.heap.size) (hl : zs.length ≤ 8) (h0 : 1 ≤ zs.length) :
    Calls Try.prog 56 #[.slice (some ⟨g, 0, none⟩) zs.length cap2, .func (.func 57) #[] #[.pointer (some ⟨tb, 0, none⟩)]] w
      fun e w' => (∃ v, e = .returned v) ∧ OwnI B w' (.slice (some ⟨g, 0, none⟩) zs.length cap2) (ordTo zs zs.length) ∧ w.grownBy w' (some g) := by
  go_enter Try.func56, Try.ntmps56
  go_wp2_with fail
  refine (stableSort_c tb n₀ B g cap2 a cap zs _ hb hI ho hne hn0 hnw hl h0).mono ?_
  rintro e w2 ⟨⟨v, rfl⟩, ho2, hg2⟩
  go_wp2
  go_end0
  exact ⟨⟨_, rfl⟩, ho2, hg2⟩

end Go.Proofs.Ytahleajedgehlaa
