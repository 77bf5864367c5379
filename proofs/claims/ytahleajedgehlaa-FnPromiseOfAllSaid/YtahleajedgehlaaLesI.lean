/-
  LessenGaps of both.
  Conditions: lists of at most 1048576 elements.
-/
import Derived.Test.YtahleajedgehlaaLes
import Derived.Test.YtahleajedgehlaaSort
namespace Go.Proofs.Ytahleajedgehlaa
open Go.RowKit Go.Shelf
attribute [local go_sem] Oper.semAt_some

/-- is no gap less than x? -/
def lesOk (zs : List Int) (x : Int) : Bool := decide (x ≤ leastL zs)
def lesV (zs : List Int) (x : Int) : List Int := if lesOk zs x then lesTo x zs zs.length else []
theorem lesOk_no {zs : List Int} {x : Int} {k : Nat} (hk : k < zs.length) (h : nth zs k < x) : lesOk zs x = false := decide_eq_false (by have := leastL_le hk; omega)
theorem lesOk_yes {zs : List Int} {x : Int} (h0 : 0 < zs.length) (h : ∀ m, m < zs.length → x ≤ nth zs m) : lesOk zs x = true := by
  obtain ⟨j, hj, e⟩ := leastL_mem (zs := zs) h0
  exact decide_eq_true (by rw [e]; exact h j hj)
theorem ret_tb {v : Value} {a a' : Bool} (h : a = a') : Ending.returned (.tuple #[v, .bool a]) = .returned (.tuple #[v, .bool a']) := by rw [h]

end Go.Proofs.Ytahleajedgehlaa
