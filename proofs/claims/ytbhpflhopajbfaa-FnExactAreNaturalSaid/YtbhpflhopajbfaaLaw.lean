/-
  The words of the laws' walks: a row of a call's own between two block numbers, kept by later calls and by marks on other rows; a variable's box.
-/
import Derived.Test.YtbhpflhopajbfaaHelp
import Derived.Test.YtbhpflhopajbfaaRow
namespace Go.Proofs.Ytbhpflhopajbfaa
open Go.RowKit Go.Shelf

/-- The slice value v owns the ints zs, in a block from lo on and below hi. -/
structure Seg (lo hi : Nat) (W : World) (v : Value) (zs : List Int) : Prop where
  own : OwnI lo W v zs
  top : ∀ k, v.ownBlock = some k → k < hi
  le : hi ≤ W.heap.size
theorem Seg.new {lo : Nat} {W : World} {v : Value} {zs : List Int} (h : OwnI lo W v zs) : Seg lo W.heap.size W v zs := ⟨h, fun k hk => (h.blk k hk).2, Nat.le_refl _⟩
theorem Seg.below {lo hi : Nat} {W W' : World} {v : Value} {zs : List Int} (h : Seg lo hi W v zs) (hb : Below W.heap.size W W') : Seg lo hi W' v zs := ⟨h.own.below hb, h.top, Nat.le_trans h.le hb.size⟩
theorem Seg.kept {lo hi : Nat} {W W' : World} {v u : Value} {zs : List Int} (h : Seg lo hi W v zs) (hg : W.grownBy W' u.ownBlock) (hu : ∀ k, u.ownBlock = some k → hi ≤ k ∨ k < lo) : Seg lo hi W' v zs := by
  refine ⟨h.own.of_block fun k hk => hg.block k (Nat.lt_of_lt_of_le (h.top k hk) h.le) (fun e => ?_), h.top, Nat.le_trans h.le hg.size⟩
  have h1 := h.top k hk
  have h2 := (h.own.blk k hk).1
  rcases hu k e.symm with h3 | h3 <;> omega
theorem Seg.ints {lo hi : Nat} {W : World} {v : Value} {zs : List Int} (h : Seg lo hi W v zs) : Ints W.heap.size W v zs := h.own.ints
/-- where the marked row lies -/
theorem Seg.apart {lo hi : Nat} {W : World} {v : Value} {zs : List Int} (h : Seg lo hi W v zs) {lo' hi' : Nat} (hs : hi' ≤ lo ∨ hi ≤ lo') : ∀ k, v.ownBlock = some k → hi' ≤ k ∨ k < lo' := fun k hk => by
  have h1 := h.top k hk
  have h2 := (h.own.blk k hk).1
  omega
theorem Seg.marked {lo hi : Nat} {W W' : World} {v : Value} {zs zs' : List Int} (h : Seg lo hi W v zs) (ho : OwnI lo W' v zs') (hg : W.grownBy W' v.ownBlock) : Seg lo hi W' v zs' := ⟨ho, h.top, Nat.le_trans h.le hg.size⟩
theorem below_marked {lo hi : Nat} {w W W' : World} {v : Value} {zs : List Int} (hB : Below w.heap.size w W) (h : Seg lo hi W v zs) (hg : W.grownBy W' v.ownBlock) (hlo : w.heap.size ≤ lo) : Below w.heap.size w W' :=
  ⟨hg.os.trans hB.os, hg.tape.trans hB.tape, hg.output.trans hB.output, Nat.le_trans hB.size hg.size, fun k hk =>
    (hg.block k (Nat.lt_of_lt_of_le hk hB.size) (fun e => by have := (h.own.blk k e.symm).1; omega)).trans (hB.block k hk)⟩
theorem boxed_below {B : Nat} {W W' : World} {b : Nat} {t : TypeId} {v : Value} (h : Boxed W b t v) (hb : Below B W W') (hB : b < B) : Boxed W' b t v := (hb.block b hB).trans h
theorem boxed_later {W W' : World} {b : Nat} {t : TypeId} {v : Value} (h : Boxed W b t v) (hb : Below W.heap.size W W') : Boxed W' b t v := (hb.block b h.lt).trans h
theorem boxed_marked {lo hi : Nat} {W W' : World} {b : Nat} {t : TypeId} {v u : Value} {zs : List Int} (h : Boxed W b t v) (hs : Seg lo hi W u zs) (hg : W.grownBy W' u.ownBlock) (hb : b < lo ∨ hi ≤ b) : Boxed W' b t v :=
  h.kept hg (fun e => by have h1 := hs.top b e.symm; have h2 := (hs.own.blk b e.symm).1; omega)

end Go.Proofs.Ytbhpflhopajbfaa
