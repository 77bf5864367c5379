/-
  LeastOfGaps of both: the least gap, the least common multiple of all gaps.
  Conditions: lists of at most 1048576 elements.
-/
import Derived.Test.YtbhpflhopajbfaaDens
namespace Go.Proofs.Ytbhpflhopajbfaa
open Go.RowKit Go.Shelf
attribute [local go_sem] Oper.semAt_some

/-- the least of the first k numbers (and of the first one) -/
def leastTo (zs : List Int) (k : Nat) : Int := (zs.take k).foldl min (nth zs 0)
theorem leastTo_zero (zs : List Int) : leastTo zs 0 = nth zs 0 := by simp [leastTo]
theorem leastTo_succ {zs : List Int} {k : Nat} (h : k < zs.length) : leastTo zs (k + 1) = min (leastTo zs k) (nth zs k) := by
  unfold leastTo; rw [take_snoc h]; simp
theorem leastTo_one {zs : List Int} (h : 0 < zs.length) : leastTo zs 1 = nth zs 0 := by rw [leastTo_succ h, leastTo_zero]; omega
def leastL (zs : List Int) : Int := leastTo zs zs.length
theorem leastTo_le {zs : List Int} {k j : Nat} (hk : k ≤ zs.length) (h : j < k) : leastTo zs k ≤ nth zs j := by
  induction k with
  | zero => omega
  | succ k ih =>
    rw [leastTo_succ (by omega)]
    by_cases e : j = k
    · subst e; omega
    · have := ih (by omega) (by omega); omega
theorem leastL_le {zs : List Int} {j : Nat} (h : j < zs.length) : leastL zs ≤ nth zs j := leastTo_le (Nat.le_refl _) h
theorem leastTo_mem {zs : List Int} (h0 : 0 < zs.length) {k : Nat} (hk : k ≤ zs.length) : ∃ j, j < zs.length ∧ leastTo zs k = nth zs j := by
  induction k with
  | zero => exact ⟨0, h0, leastTo_zero _⟩
  | succ k ih =>
    obtain ⟨j, hj, e⟩ := ih (by omega)
    rw [leastTo_succ (by omega)]
    by_cases h : leastTo zs k ≤ nth zs k
    · exact ⟨j, hj, by omega⟩
    · exact ⟨k, by omega, by omega⟩
theorem leastL_mem {zs : List Int} (h0 : 0 < zs.length) : ∃ j, j < zs.length ∧ leastL zs = nth zs j := leastTo_mem h0 (Nat.le_refl _)

def logA (zs : List Int) : Int := if tasksOk zs then leastL zs else 0
def logB (zs : List Int) : Int := if tasksOk zs then ((lcmTo (natsTo zs zs.length) : Nat) : Int) else 0

end Go.Proofs.Ytbhpflhopajbfaa
