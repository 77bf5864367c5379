/-
  Waits: the iterator slotsOf, waitsOfTask, greatestWait; the model's l01Waits, l01Greatest.
  Conditions: a slice that is ranged over takes at most 140737488351232 bytes.
-/
import Derived.Test.YtgndbifcncklgaaIter
import Derived.Test.YtgndbifcncklgaaShares
import Derived.Maps.AppendAt
namespace Go.Proofs.Ytgndbifcncklgaa
open Go.RowKit Go.Shelf
attribute [local go_sem] Oper.semAt_some

/-- the slots below k in which the task i has its turns -/
def slotsTo (zs : List Int) (i : Int) (k : Nat) : List Nat := (List.range k).filter fun j => nth zs j == i
theorem slotsTo_zero (zs : List Int) (i : Int) : slotsTo zs i 0 = [] := rfl
theorem slotsTo_yes {zs : List Int} {i : Int} {k : Nat} (h : nth zs k = i) : slotsTo zs i (k + 1) = slotsTo zs i k ++ [k] := by
  simp [slotsTo, List.range_succ, h]
theorem slotsTo_no {zs : List Int} {i : Int} {k : Nat} (h : nth zs k ≠ i) : slotsTo zs i (k + 1) = slotsTo zs i k := by
  simp [slotsTo, List.range_succ, h]
theorem slotsTo_prefix (zs : List Int) (i : Int) {k n : Nat} (h : k ≤ n) : slotsTo zs i k <+: slotsTo zs i n := by
  induction n with
  | zero => obtain rfl : k = 0 := by omega
            exact List.prefix_refl _
  | succ n ih =>
    by_cases e : k = n + 1
    · subst e; exact List.prefix_refl _
    · refine (ih (by omega)).trans ?_
      by_cases hn : nth zs n = i
      · rw [slotsTo_yes hn]; exact List.prefix_append _ _
      · rw [slotsTo_no hn]; exact List.prefix_refl _
theorem slotsTo_lt {zs : List Int} {i : Int} {k s : Nat} (h : s ∈ slotsTo zs i k) : s < k := by
  simp [slotsTo] at h; exact h.1
theorem slotsTo_at {zs : List Int} {i : Int} {k n : Nat} (hk : k < n) (h : nth zs k = i) : (slotsTo zs i n)[(slotsTo zs i k).length]? = some k := by
  obtain ⟨t, ht⟩ := slotsTo_prefix zs i (show k + 1 ≤ n by omega)
  rw [← ht, slotsTo_yes h]; simp
def slotsL (zs : List Int) (i : Int) : List Nat := slotsTo zs i zs.length
def slotN (zs : List Int) (i : Int) (c : Nat) : Nat := (slotsL zs i)[c]?.getD 0
theorem slotN_eq {zs : List Int} {i : Int} {k : Nat} (hk : k < zs.length) (h : nth zs k = i) : slotN zs i (slotsTo zs i k).length = k := by
  unfold slotN slotsL; rw [slotsTo_at hk h]; rfl
theorem slotN_lt {zs : List Int} {i : Int} {c : Nat} (hc : c < (slotsL zs i).length) : slotN zs i c < zs.length := by
  unfold slotN; rw [List.getElem?_eq_getElem hc]; exact slotsTo_lt (List.getElem_mem hc)
def slotAt (zs : List Int) (i : Int) (c : Nat) : Array Value := #[.int .i64 ((slotN zs i c : Nat) : Int)]

theorem yieldAt_wide {m : Nat} (m' : Nat) {P : Program} {l : Nat} {args : Array Value} {W : World} {R : Ending → World → Prop} (h : YieldAt Fence.wide m P l args W R) : YieldAt Fence.wide m' P l args W R := by
  obtain ⟨fn, tmps, assign, body, hy, hR⟩ := h
  exact ⟨fn, tmps, assign, body, hy, hR.1, fun c cs _ => hR.2 c cs (room_wide _)⟩

/-! ### what a round of a loop that collects may turn -/
structure Chg (R : Nat → Prop) (A B : World) : Prop where
  os : B.os = A.os
  tape : B.tape = A.tape
  output : B.output = A.output
  size : A.heap.size ≤ B.heap.size
  same : ∀ k, ¬ R k → k < A.heap.size → B.heap[k]? = A.heap[k]?
theorem Chg.refl (R : Nat → Prop) (A : World) : Chg R A A := ⟨rfl, rfl, rfl, Nat.le_refl _, fun _ _ _ => rfl⟩
theorem Chg.trans {R : Nat → Prop} {A B C : World} (h : Chg R A B) (k : Chg R B C) : Chg R A C := ⟨k.os.trans h.os, k.tape.trans h.tape, k.output.trans h.output, Nat.le_trans h.size k.size, fun i hi hl => (k.same i hi (Nat.lt_of_lt_of_le hl h.size)).trans (h.same i hi hl)⟩
theorem Chg.grown {R : Nat → Prop} {A B : World} {row : Option Nat} (h : A.grownBy B row) (hr : ∀ k, row = some k → R k) : Chg R A B := ⟨h.os, h.tape, h.output, h.size, fun i hi hl => h.block i hl (fun e => hi (hr i e.symm))⟩
theorem Chg.alloc (R : Nat → Prop) (A : World) (o : Obj) : Chg R A (A.alloc o) := Chg.grown (World.grownBy_alloc A o none) (by simp)
theorem Chg.setCell {R : Nat → Prop} (A : World) (b j : Nat) (v : Value) (hb : R b) : Chg R A (A.setCell ⟨b, j, none⟩ v) := Chg.grown (grownBy_setCell2 A b j v) (fun k e => by cases e; exact hb)
theorem Chg.boxed {R : Nat → Prop} {A B : World} (h : Chg R A B) {b : Nat} {t : TypeId} {v : Value} (hb : ¬ R b) (hx : Boxed A b t v) : Boxed B b t v := (h.same b hb hx.lt).trans hx
theorem Chg.kps {R S : Nat → Prop} {A B : World} (h : Chg R A B) (hs : ∀ k, S k → ¬ R k) : Kps S A B := ⟨h.size, fun k hk hl => h.same k (hs k hk) hl⟩
theorem Chg.below {R : Nat → Prop} {n : Nat} {w A B : World} (h : Chg R A B) (hw : Below n w A) (hs : ∀ k, k < n → ¬ R k) (hn : n ≤ A.heap.size) : Below n w B :=
  hw.trans ⟨h.os, h.tape, h.output, h.size, fun k hk => h.same k (hs k hk) (by omega)⟩
theorem Chg.ownI {R : Nat → Prop} {n : Nat} {A B : World} {v : Value} {zs : List Int} (h : Chg R A B) (ho : OwnI n A v zs) (hs : ∀ k, v.ownBlock = some k → ¬ R k) : OwnI n B v zs := ho.of_block fun k hk => h.same k (hs k hk) (ho.blk k hk).2
theorem boxRow_Own {β : Type} (B top : Nat) (t : TypeId) (f : β → List Int) : Own (fun s W => ∃ v, Boxed W B t v ∧ OwnI top W v (f s)) := by
  rintro s X Y row ⟨v, hv, ho⟩ hg hrow
  exact ⟨v, boxed_own B t (fun (_ : Unit) => v) () X Y row hv hg hrow, ownI_Own top v (fun (_ : Unit) => f s) () X Y row ho hg hrow⟩
/-- 'x = append(x, ..)' on a box and its row: what has been turned -/
theorem appended {W w1 : World} {top B : Nat} {t : TypeId} {v v' : Value} {xs ys : List Int} {tmp : Obj} (hv : Boxed W B t v) (hB : B < top) (hrow : OwnI top W v xs) (hown' : OwnI top w1 v' ys) (hgrow : (W.alloc tmp).grownBy w1 v.ownBlock) :
    Boxed w1 B t v ∧ Boxed (w1.setCell ⟨B, 0, none⟩ v') B t v' ∧ OwnI top (w1.setCell ⟨B, 0, none⟩ v') v' ys ∧ Chg (fun k => k = B ∨ top ≤ k) W (w1.setCell ⟨B, 0, none⟩ v') := by
  have hb1 : Boxed w1 B t v := (hv.alloc tmp).kept hgrow (fun e => by have := (hrow.blk B e.symm).1; omega)
  refine ⟨hb1, hb1.set v', hown'.kept (grownBy_setCell' w1 B v') (.inr fun e => by have := (hown'.blk B e).1; omega), ?_⟩
  exact ((Chg.alloc _ W tmp).trans (Chg.grown hgrow (fun k e => .inr (hrow.blk k e).1))).trans (Chg.setCell _ _ _ _ (.inl rfl))

/-! ### the waits -/
def stF (zs : List Int) (i : Int) (c : Nat) : Int := if c = 0 then -1 else (slotN zs i 0 : Int)
def stL (zs : List Int) (i : Int) (c : Nat) : Int := if c = 0 then -1 else (slotN zs i (c - 1) : Int)
def diffs (zs : List Int) (i : Int) (c : Nat) : List Int := (List.range (c - 1)).map fun (j : Nat) => (slotN zs i (j + 1) : Int) - (slotN zs i j : Int)
def waitsL (zs : List Int) (i : Int) : List Int :=
  if (slotsL zs i).length = 0 then [] else diffs zs i (slotsL zs i).length ++ [(slotN zs i 0 : Int) + zs.length - (slotN zs i ((slotsL zs i).length - 1) : Int)]
theorem diffs_zero (zs : List Int) (i : Int) : diffs zs i 0 = [] := rfl
theorem diffs_one (zs : List Int) (i : Int) : diffs zs i 1 = [] := rfl
theorem diffs_succ (zs : List Int) (i : Int) {c : Nat} (h : 0 < c) : diffs zs i (c + 1) = diffs zs i c ++ [(slotN zs i c : Int) - (slotN zs i (c - 1) : Int)] := by
  obtain ⟨d, rfl⟩ : ∃ d, c = d + 1 := ⟨c - 1, by omega⟩
  simp [diffs, List.range_succ]
theorem diffs_length (zs : List Int) (i : Int) (c : Nat) : (diffs zs i c).length = c - 1 := by simp [diffs]
theorem slotsL_length (zs : List Int) (i : Int) : (slotsL zs i).length ≤ zs.length := by
  have := List.length_filter_le (fun j => nth zs j == i) (List.range zs.length)
  simpa [slotsL, slotsTo] using this

theorem ownFrom_size (B top : Nat) : OwnFrom B (fun (c : Nat) W => c = 0 ∨ top ≤ W.heap.size) := fun _ _ _ _ hs hg _ => hs.imp id (fun h => Nat.le_trans h hg.size)
theorem ownI_snoc {B : Nat} {W : World} {v : Value} {xs : List Int} {x : Int} (h : W.ownsRow B 2 1 v (xs.length + 1) (xs.map (Value.int .i64) ++ [.int .i64 x])) : OwnI B W v (xs ++ [x]) := by
  unfold OwnI; simpa using h
theorem Try.infoI2 : (Try.prog.info? 2).map (fun i => (i.zero, i.size, i.bytes)) = some (some (.int .i64 0), 1, 8) := by kernel_rfl

end Go.Proofs.Ytgndbifcncklgaa
