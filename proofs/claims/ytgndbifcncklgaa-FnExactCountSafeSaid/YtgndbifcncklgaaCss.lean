/-
  The model's steps by sets, and its first open set that leads to a state that is left.
  Conditions: at most 8 tasks.
-/
import Derived.Test.YtgndbifcncklgaaPly
import Derived.Test.YtgndbifcncklgaaTopS
namespace Go.Proofs.Ytgndbifcncklgaa
open Go.RowKit Go.Shelf
attribute [local go_sem] Oper.semAt_some

theorem stepS_take {gs st : List Int} {s k : Nat} (h : k < st.length) : (stepS gs st s).take (k + 1) = (stepS gs st s).take k ++ [if s.testBit k then nth gs k else nth st k - 1] := by
  rw [take_snoc (by rwa [stepS_length]), nth_stepS h]
theorem stepS_all (gs st : List Int) (s : Nat) : (stepS gs st s).take st.length = stepS gs st s := by
  rw [← stepS_length gs st s, List.take_length]
/-- what the model's step hands back -/
def StepPostS (w : World) (zs st : List Int) (s : Nat) (e : Ending) (w' : World) : Prop :=
  (OpnS st s ∧ ∃ v, e = .returned (.tuple #[v, .bool true]) ∧ OwnI w.heap.size w' v (stepS zs st s) ∧ Below w.heap.size w w') ∨
  (¬ OpnS st s ∧ e = .returned (.tuple #[.slice none 0 0, .bool false]) ∧ Below w.heap.size w w')

end Go.Proofs.Ytgndbifcncklgaa
