/-
  Which functions the queue's methods are, behind heap.Interface.
-/
import Derived.Test.YtbhpflhopajbfaaQpu
namespace Go.Proofs.Ytbhpflhopajbfaa
open Go.RowKit Go.Shelf
attribute [local go_sem] Oper.semAt_some

theorem mth_less (n : Nat) (p : Option Addr) (w : World) : Sem.run Try.prog (method (n + 1) 166 (.pointer p) "Less") w = .ok (216, .pointer p) w := by kernel_rfl
theorem mth_swap (n : Nat) (p : Option Addr) (w : World) : Sem.run Try.prog (method (n + 1) 166 (.pointer p) "Swap") w = .ok (219, .pointer p) w := by kernel_rfl
theorem mth_len (n : Nat) (p : Option Addr) (w : World) : Sem.run Try.prog (method (n + 1) 166 (.pointer p) "Len") w = .ok (140, .pointer p) w := by kernel_rfl
theorem mth_push (n : Nat) (p : Option Addr) (w : World) : Sem.run Try.prog (method (n + 1) 166 (.pointer p) "Push") w = .ok (218, .pointer p) w := by kernel_rfl
theorem mth_pop (n : Nat) (p : Option Addr) (w : World) : Sem.run Try.prog (method (n + 1) 166 (.pointer p) "Pop") w = .ok (217, .pointer p) w := by kernel_rfl

end Go.Proofs.Ytbhpflhopajbfaa
