/-
  The program's search for lasting states: the iterator of keeping choices, and the search itself.
  Conditions: states of tasks.
-/
import Derived.Test.YtgndbifcncklgaaLasts
namespace Go.Proofs.Ytgndbifcncklgaa
open Go.RowKit Go.Shelf Go.Maps
attribute [local go_sem] Oper.semAt_some

theorem retMn0 {F : Fence} {n : Nat} {P : Program} {fn : Func} {R : Ending → World → Prop} {tmps : Array Value} {W : World}
    (h : ∃ v, (results fn tmps).run P W = .ok v W ∧ R (.returned v) W) : bodyPostM F n P fn R .normal { tmps := tmps, defers := [] } W := h

end Go.Proofs.Ytgndbifcncklgaa
