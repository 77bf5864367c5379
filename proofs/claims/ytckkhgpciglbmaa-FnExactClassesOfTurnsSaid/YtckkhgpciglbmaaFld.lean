/-
  A field of a struct of one slice.
-/
import Derived.Test.YtckkhgpciglbmaaCls
namespace Go.Proofs.Ytckkhgpciglbmaa
open Go.RowKit Go.Shelf

theorem run_gaps (a : Option Addr) (n c : Nat) (w : World) : (Instr.field 28 (.agg #[.slice a n c]) 0).run Try.prog w = .ok (.slice a n c) w := by
  simp [Instr.field, run_underlying Try.underlying28, part, isAgg, asAgg, run_underlying Try.underlying22]

end Go.Proofs.Ytckkhgpciglbmaa
