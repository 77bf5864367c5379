/-
  The model's first open set that leads to a state that is left.
  Conditions: at most 8 tasks.
-/
import Derived.Test.YtgndbifcncklgaaCss
namespace Go.Proofs.Ytgndbifcncklgaa
open Go.RowKit Go.Shelf
attribute [local go_sem] Oper.semAt_some

/-- an open set that leads to a state that is left -/
def GoS (zs : List Int) (m : Int) (bs : List Bool) (st : List Int) (s : Nat) : Prop := SetOf zs.length m s ∧ OpnS st s ∧ bAt bs (numL zs (stepS zs st s)) = true
def FirstPost (w : World) (zs : List Int) (m : Int) (bs : List Bool) (st : List Int) (e : Ending) (w' : World) : Prop :=
  Below w.heap.size w w' ∧ ((∃ s : Nat, GoS zs m bs st s ∧ (∀ t, t < s → ¬ GoS zs m bs st t) ∧ e = .returned (.tuple #[.int .i64 (s : Int), .int .i64 (numL zs (stepS zs st s)), .bool true])) ∨
    ((∀ s, ¬ GoS zs m bs st s) ∧ e = .returned (.tuple #[.int .i64 0, .int .i64 0, .bool false])))

end Go.Proofs.Ytgndbifcncklgaa
