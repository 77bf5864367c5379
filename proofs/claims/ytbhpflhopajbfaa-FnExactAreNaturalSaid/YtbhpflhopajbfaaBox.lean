/-
  A variable of two cells.
  Conditions: none.
-/
import Derived.Test.YtbhpflhopajbfaaLaw
import Derived.Test.YtbhpflhopajbfaaChk
namespace Go.Proofs.Ytbhpflhopajbfaa
open Go.RowKit Go.Shelf Go.ChangeShapes Go.WideShapes

/-! ### a variable of two cells -/
theorem grownBy_setC (W : World) (b j : Nat) (v : Value) : W.grownBy (W.setCell ⟨b, j, none⟩ v) (some b) :=
  ⟨rfl, rfl, rfl, by simp [World.setCell], fun i _ hne => Below.heap_setCell _ _ _ i (fun e => hne (by rw [show i = b from e]))⟩
def Box2 (W : World) (b : Nat) (t : TypeId) (u v : Value) : Prop := W.heap[b]? = some (.cells #[u, v] t (0, 0))
section
variable {W W' : World} {b b' : Nat} {t : TypeId} {u v : Value}
theorem Box2.lt (h : Box2 W b t u v) : b < W.heap.size := (Array.getElem?_eq_some_iff.1 h).1
theorem Box2.c0 (h : Box2 W b t u v) : W.cell? ⟨b, 0, none⟩ = some u := by simp [World.cell?, show W.heap[b]? = _ from h]
theorem Box2.c1 (h : Box2 W b t u v) : W.cell? ⟨b, 1, none⟩ = some v := by simp [World.cell?, show W.heap[b]? = _ from h]
theorem Box2.frozen (h : Box2 W b t u v) (i : Nat) : W.frozen? ⟨b, i, none⟩ = false := by simp [World.frozen?, show W.heap[b]? = _ from h]
theorem Box2.new (W : World) (t : TypeId) (u v : Value) : Box2 (W.alloc (.cells #[u, v] t)) W.heap.size t u v := World.alloc_heap_new W _
theorem box2_at (h : b = W.heap.size) : Box2 (W.alloc (.cells #[u, v] t)) b t u v := by subst h; exact Box2.new _ _ _ _
theorem Box2.kept {row : Option Nat} (h : Box2 W b t u v) (hg : W.grownBy W' row) (hne : some b ≠ row) : Box2 W' b t u v := (hg.block b h.lt hne).trans h
theorem Box2.alloc (h : Box2 W b t u v) (o : Obj) : Box2 (W.alloc o) b t u v := h.kept (World.grownBy_alloc W o none) (by simp)
theorem Box2.below {n : Nat} (h : Box2 W b t u v) (hb : Below n W W') (hn : b < n) : Box2 W' b t u v := (hb.block b hn).trans h
theorem Box2.later (h : Box2 W b t u v) (hb : Below W.heap.size W W') : Box2 W' b t u v := (hb.block b h.lt).trans h
theorem Box2.put (h : Box2 W b t u v) (i : Nat) (y : Value) : (W.setCell ⟨b, i, none⟩ y).heap[b]? = some (.cells ((#[u, v] : Array Value).setIfInBounds i y) t (0, 0)) := by
  obtain ⟨hlt, hk⟩ := Array.getElem?_eq_some_iff.1 h
  show (W.heap.modify b _)[b]? = _
  rw [Array.getElem?_eq_getElem (by rw [Array.size_modify]; exact hlt), Array.getElem_modify_self, hk]
  simp
theorem Box2.set0 (h : Box2 W b t u v) (y : Value) : Box2 (W.setCell ⟨b, 0, none⟩ y) b t y v := by unfold Box2; simpa using h.put 0 y
theorem Box2.set1 (h : Box2 W b t u v) (y : Value) : Box2 (W.setCell ⟨b, 1, none⟩ y) b t u y := by unfold Box2; simpa using h.put 1 y
theorem Box2.other {i : Nat} (h : Box2 W b t u v) (hne : b ≠ b') (y : Value) : Box2 (W.setCell ⟨b', i, none⟩ y) b t u v := h.kept (grownBy_setC W b' i y) (fun e => hne (by cases e; rfl))
theorem box2_own {β : Type} (b : Nat) (t : TypeId) (f g : β → Value) : Own (fun s W => Box2 W b t (f s) (g s)) := fun s X Y row hs hg hrow =>
  hs.kept hg (fun e' => by obtain ⟨o, ho, hc⟩ := hrow b e'.symm; rw [show X.heap[b]? = _ from hs] at ho; cases ho; cases hc)
theorem box2_shut {D : Nat} (h : Box2 W b t u v) (hK : W.heap[D]? = some (.deferred (some []))) : Box2 (W.putObj D (.deferred none)) b t u v :=
  (World.putObj_heap_other (by rintro rfl; rw [show W.heap[b]? = _ from h] at hK; cases hK)).trans h
end

theorem i64_of_wf2 {z : Int} (h : (Lit.int .i64 z).wf = true) : I64 z := by
  simpa [Lit.wf, IntKind.min, IntKind.max, IntKind.signed, IntKind.bits, I64] using h

end Go.Proofs.Ytbhpflhopajbfaa
