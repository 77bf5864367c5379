/-
  SortTasks of the model: l01Sorted.
  Conditions: lists of at most 1048576 elements.
-/
import Derived.Test.YtbhpflhopajbfaaOrd
import Derived.Test.YtbhpflhopajbfaaRen
namespace Go.Proofs.Ytbhpflhopajbfaa
open Go.RowKit Go.Shelf
attribute [local go_sem] Oper.semAt_some

/-- two lists, each in memory of its own: the second one below mid -/
def GivesII (w : World) (xs ys : List Int) (mk : Value → Value → Value) (e : Ending) (w' : World) : Prop :=
  ∃ u v mid, e = .returned (mk u v) ∧ Seg mid w'.heap.size w' u xs ∧ Seg w.heap.size mid w' v ys ∧ w.heap.size ≤ mid ∧ Below w.heap.size w w'
theorem seg_nil (lo hi : Nat) (W : World) (h : hi ≤ W.heap.size) : Seg lo hi W (.slice none 0 0) [] := ⟨ownI_nil _ _, fun k e => by simp [Value.ownBlock] at e, h⟩
def sortO (zs : List Int) : List Int := if tasksOk zs then ordTo zs zs.length else []
def sortG (zs : List Int) : List Int := if tasksOk zs then gapsBy zs (ordTo zs zs.length) zs.length else []
def sortC (zs : List Int) : Int := if tasksOk zs then 0 else 1

theorem ownI_ne_box {B b : Nat} {W : World} {v u : Value} {zs : List Int} (h : OwnI B W v zs) (hb : Boxed W b 28 u) : v.ownBlock ≠ some b := by
  intro e
  obtain ⟨_, h2⟩ := h
  rcases h2 with ⟨rfl, _⟩ | ⟨g, cap, cur, rfl, _, hh, _⟩
  · simp [Value.ownBlock] at e
  · obtain rfl : g = b := by simpa [Value.ownBlock] using e
    have := hh.symm.trans hb
    simp at this

end Go.Proofs.Ytbhpflhopajbfaa
