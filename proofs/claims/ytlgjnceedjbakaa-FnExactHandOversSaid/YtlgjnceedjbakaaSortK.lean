/-
  SortTasks of the program.
  Conditions: lists of at most 1048576 elements.
-/
import Derived.Test.YtlgjnceedjbakaaSortJ
namespace Go.Proofs.Ytlgjnceedjbakaa
open Go.RowKit Go.Shelf
attribute [local go_sem] Oper.semAt_some

theorem retM2 {F : Fence} {n : Nat} {P : Program} {fn : Func} {R : Ending → World → Prop} {tmps : Array Value} {W : World} {D E : Nat} (hD : W.heap[D]? = some (.deferred (some []))) (hE : W.heap[E]? = some (.deferred (some []))) (hne : D ≠ E)
    (h : ∃ v, (results fn tmps).run P ((W.putObj D (.deferred none)).putObj E (.deferred none)) = .ok v ((W.putObj D (.deferred none)).putObj E (.deferred none)) ∧ R (.returned v) ((W.putObj D (.deferred none)).putObj E (.deferred none))) :
    bodyPostM F n P fn R .ret { tmps := tmps, defers := [{ target := .collected D, args := #[] }, { target := .collected E, args := #[] }] } W :=
  ⟨by simp, .inl ⟨_, _, rfl, run_takeDeferred hD, ⟨by simp, .inl ⟨_, _, rfl, run_takeDeferred ((World.putObj_heap_other (by omega)).trans hE), h⟩⟩⟩⟩
theorem ownFrom_deferred {β : Type} {B D : Nat} {o : Obj} (hD : D < B) : OwnFrom B (fun (_ : β) W => W.heap[D]? = some o) := fun _ W W' row hs hg hr =>
  (hg.block D (Array.getElem?_eq_some_iff.1 hs).1 (fun e => by have := (hr D e.symm).1; omega)).trans hs
/-- 0, 1, .., k - 1 -/
def upI (k : Nat) : List Int := (List.range k).map fun (m : Nat) => (m : Int)
theorem upI_succ (k : Nat) : upI (k + 1) = upI k ++ [(k : Int)] := by simp [upI, List.range_succ]
theorem upI_length (k : Nat) : (upI k).length = k := by simp [upI]

theorem sortO_len (zs : List Int) : (sortO zs).length * 8 ≤ 140737488351232 := by
  unfold sortO; split
  · rename_i h; have := tasksOk_len h; rw [ordTo_length]; omega
  · simp
theorem sortG_len (zs : List Int) : (sortG zs).length * 8 ≤ 140737488351232 := by
  unfold sortG; split
  · rename_i h; have := tasksOk_len h; rw [gapsBy_length]; omega
  · simp

end Go.Proofs.Ytlgjnceedjbakaa
