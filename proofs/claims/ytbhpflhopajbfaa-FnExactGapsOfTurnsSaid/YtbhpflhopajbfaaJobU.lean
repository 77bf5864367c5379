/-
  Jobs: small words; a loop over the tasks of jobs.
  Conditions: lists of at most 1048576 elements.
-/
import Derived.Test.YtbhpflhopajbfaaJobA
import Derived.Test.YtbhpflhopajbfaaJobS
namespace Go.Proofs.Ytbhpflhopajbfaa
open Go.RowKit Go.Shelf
attribute [local go_sem] Oper.semAt_some

theorem box3_at {w : World} {b : Nat} {t : TypeId} {u v x : Value} (h : b = w.heap.size) : Box3 (w.alloc (.cells #[u, v, x] t)) b t u v x := by subst h; exact Box3.new _ _ _ _ _
theorem below_jobs (w : World) (u v x : Value) : Below w.heap.size w (w.alloc (.cells #[u, v, x] 37)) := (Below.refl _ w).alloc (Nat.le_refl _) _
/-- the band that a loop over jobs keeps -/
theorem jobs_band {n c b j top : Nat} (hn : n ≤ j) (hc : j ≠ c) (hlo : j < b ∨ top ≤ j) : ¬ Band (fun x => x < n ∨ x = c) b top j := by
  rintro ((h | h) | h) <;> omega

end Go.Proofs.Ytbhpflhopajbfaa
