/-
  Classes compared with '=='.
-/
import Derived.Test.YtbhpflhopajbfaaCls
import Derived.ChangeKeysEq
namespace Go.Proofs.Ytbhpflhopajbfaa
open Go.RowKit Go.Shelf Go.ChangeMaps

theorem eqint (d : Nat) (x y : Int) (w : World) : (Op.equalIn (d + 1) 2 (.int .i64 x) (.int .i64 y)).run Try.prog w = .ok (x == y) w := by
  simp [Op.equalIn, run_underlying Try.underlying2]
theorem eqcl (x y x' y' : Int) (w : World) (b : Bool) (hd : decide (x = x' ∧ y = y') = b) :
    (Op.equalIn 10000 106 (.agg #[.int .i64 x, .int .i64 y]) (.agg #[.int .i64 x', .int .i64 y'])).run Try.prog w = .ok b w := by
  obtain ⟨i0, hi, hz0, hz1, hz2⟩ := info_parts Try.infoI
  have hc1 : Try.prog.cellsOf 2 = 1 := by kernel_rfl
  rw [show (10000 : Nat) = (9998 + 1) + 1 from rfl, run_equalIn_array w (9998 + 1) _ _ Try.underlying106 hi, hc1]
  have r2 : List.range 2 = [0, 1] := rfl
  rw [r2]
  simp only [Op.eqItems]
  have hp : Try.prog.plainKey 2 = true := by kernel_rfl
  have p0 : ∀ u v : Value, ∀ W, (part 2 #[u, v] (0 * 1)).run Try.prog W = .ok u W := fun u v W => run_part_plain W hp (by simp)
  have p1 : ∀ u v : Value, ∀ W, (part 2 #[u, v] (1 * 1)).run Try.prog W = .ok v W := fun u v W => run_part_plain W hp (by simp)
  simp only [Sem.run_bind, p0, eqint, Result.andThen_ok]
  subst hd
  by_cases h0 : x = x'
  · rw [show (x == x') = true from by simpa using h0]
    simp only [Bool.not_true, Bool.false_eq_true, if_false, Sem.run_bind, p1, eqint, Result.andThen_ok]
    by_cases h1 : y = y'
    · simp [h0, h1]
    · simp [h0, h1]
  · simp [h0]

end Go.Proofs.Ytbhpflhopajbfaa
