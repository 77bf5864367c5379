/-
  RenumberTasks: the tests for an order of numbers; RenumberTasks of both.
  Conditions: lists of at most 1048576 elements.
-/
import Derived.Test.YtbhpflhopajbfaaClone
import Derived.Test.YtbhpflhopajbfaaReg
namespace Go.Proofs.Ytbhpflhopajbfaa
open Go.RowKit Go.Shelf
attribute [local go_sem] Oper.semAt_some

/-- THE SLICE VALUE v OWNS THE bools bs, in a block from B on. -/
def OwnB (B : Nat) (W : World) (v : Value) (bs : List Bool) : Prop := W.ownsRow B 4 1 v bs.length (bs.map .bool)
theorem OwnB.blk {B : Nat} {W : World} {v : Value} {bs : List Bool} (h : OwnB B W v bs) : ∀ k, v.ownBlock = some k → B ≤ k ∧ k < W.heap.size := World.ownsRow.lt h
theorem OwnB.of_block {B : Nat} {W W' : World} {v : Value} {bs : List Bool} (h : OwnB B W v bs) (hb : ∀ k, v.ownBlock = some k → W'.heap[k]? = W.heap[k]?) : OwnB B W' v bs := by
  obtain ⟨h1, h2⟩ := h
  refine ⟨h1, ?_⟩
  rcases h2 with ⟨e, h0⟩ | ⟨g, cap, cur, e, hg, hh, r⟩
  · exact .inl ⟨e, h0⟩
  · exact .inr ⟨g, cap, cur, e, hg, (hb g (by simp [e, Value.ownBlock])).trans hh, r⟩
theorem OwnB.below {B : Nat} {W W' : World} {v : Value} {bs : List Bool} (h : OwnB B W v bs) (hb : Below W.heap.size W W') : OwnB B W' v bs := h.of_block fun k hk => hb.block k (h.blk k hk).2
theorem OwnB.kept {B : Nat} {W W' : World} {row : Option Nat} {v : Value} {bs : List Bool} (h : OwnB B W v bs) (hg : W.grownBy W' row) (hne : v.ownBlock = none ∨ v.ownBlock ≠ row) : OwnB B W' v bs := World.ownsRow.kept h hg hne
theorem OwnB.len {B g n cap : Nat} {W : World} {bs : List Bool} (h : OwnB B W (.slice (some ⟨g, 0, none⟩) n cap) bs) : bs.length = n := by
  obtain ⟨_, h2⟩ := h
  rcases h2 with ⟨e, _⟩ | ⟨g', cap', cur, e, _⟩
  · simp at e
  · simp only [Value.slice.injEq] at e; exact e.2.1.symm
theorem OwnB.cellAt {B g n cap : Nat} {W : World} {bs : List Bool} (h : OwnB B W (.slice (some ⟨g, 0, none⟩) n cap) bs) {j : Nat} {b : Bool} (hj : bs[j]? = some b) : W.cell? ⟨g, j, none⟩ = some (.bool b) := by
  have hl := h.len
  subst hl
  have hlt := (List.getElem?_eq_some_iff.1 hj).1
  rw [World.ownsRow.cellAt (show W.ownsRow B 4 1 _ _ _ from h) j (by omega)]
  simp [hj]
theorem OwnB.frozen {B g n cap : Nat} {W : World} {bs : List Bool} (h : OwnB B W (.slice (some ⟨g, 0, none⟩) n cap) bs) (j : Nat) : W.frozen? ⟨g, j, none⟩ = false := by
  have hl := h.len
  subst hl
  exact World.ownsRow.frozenAt (show W.ownsRow B 4 1 _ _ _ from h) j
theorem OwnB.stored {B g n cap : Nat} {W : World} {bs : List Bool} (h : OwnB B W (.slice (some ⟨g, 0, none⟩) n cap) bs) (j : Nat) (u : Bool) : OwnB B (W.setCell ⟨g, j, none⟩ (.bool u)) (.slice (some ⟨g, 0, none⟩) n cap) (bs.set j u) := by
  have hl := h.len
  subst hl
  have := (World.ownsRow.stored (show W.ownsRow B 4 1 _ _ _ from h) j (.bool u)).1
  unfold OwnB
  rw [List.length_set, List.map_set]
  exact this
theorem ownB_made {B n : Nat} {W : World} {v : Value} (h : W.ownsRow B 4 1 v n (madeCells #[Value.bool false] n).toList) : OwnB B W v (List.replicate n false) := by
  unfold OwnB
  rw [toList_madeCells_one] at h
  simpa using h
theorem ownB_Own {β : Type} (B : Nat) (v : Value) (f : β → List Bool) : Own (fun s W => OwnB B W v (f s)) := fun s X Y row hs hg hrow =>
  hs.of_block fun k hk => hg.block k (hs.blk k hk).2 (fun e' => by
    obtain ⟨o, ho, hc⟩ := hrow k e'.symm
    obtain ⟨_, h2⟩ := hs
    rcases h2 with ⟨rfl, _⟩ | ⟨g, cap, cur, rfl, _, hh, _⟩
    · simp [Value.ownBlock] at hk
    · obtain rfl : g = k := by simpa [Value.ownBlock] using hk
      rw [hh] at ho; cases ho; cases hc)
theorem Try.infoB : (Try.prog.info? 4).map (fun i => (i.zero, i.size, i.bytes)) = some (some (.bool false), 1, 1) := by kernel_rfl
theorem info_partsB {P : Program} {t : TypeId} {z : Value} {a b : Nat} (h : (P.info? t).map (fun i => (i.zero, i.size, i.bytes)) = some (some z, a, b)) : ∃ i, P.info? t = some i ∧ i.zero = some z ∧ i.size = a ∧ i.bytes = b := by
  cases hi : P.info? t with
  | none => rw [hi] at h; cases h
  | some i => rw [hi] at h; simp at h; exact ⟨i, rfl, h.1, h.2.1, h.2.2⟩

/-- has one of the first k numbers of p the value m? -/
def metIn (p : List Int) (k : Nat) (m : Int) : Bool := (p.take k).contains m
theorem metIn_zero (p : List Int) (m : Int) : metIn p 0 m = false := by simp [metIn]
theorem metIn_succ {p : List Int} {k : Nat} (h : k < p.length) (m : Int) : metIn p (k + 1) m = (metIn p k m || (nth p k == m)) := by
  unfold metIn
  rw [List.take_succ_eq_append_getElem h, nth_lt h, Bool.eq_iff_iff]
  simp only [List.contains_iff_mem, List.mem_append, List.mem_singleton, Bool.or_eq_true, beq_iff_eq]
  constructor <;> rintro (h | h) <;> first | exact .inl h | exact .inr h.symm
def metL (n : Nat) (p : List Int) (k : Nat) : List Bool := (List.range n).map fun (m : Nat) => metIn p k (m : Int)
theorem metL_length (n : Nat) (p : List Int) (k : Nat) : (metL n p k).length = n := by simp [metL]
theorem metL_at {n : Nat} {p : List Int} {k m : Nat} (h : m < n) : (metL n p k)[m]? = some (metIn p k (m : Int)) := by simp [metL, h]
theorem metL_zero (n : Nat) (p : List Int) : metL n p 0 = List.replicate n false := by
  refine List.ext_getElem (by simp [metL]) fun m h1 h2 => ?_
  simp [metL, metIn_zero]
theorem metL_succ {n : Nat} {p : List Int} {k j : Nat} (h : k < p.length) (hj : nth p k = (j : Int)) : metL n p (k + 1) = (metL n p k).set j true := by
  refine List.ext_getElem? fun m => ?_
  rw [List.getElem?_set]
  by_cases hm : m < n
  · rw [metL_at hm, metL_length, metIn_succ h, hj, metL_at hm]
    by_cases e : j = m
    · subst e; simp [hm]
    · rw [if_neg e]
      have : ((j : Int) == (m : Int)) = false := by rw [beq_eq_false_iff_ne]; omega
      rw [this, Bool.or_false]
  · rw [List.getElem?_eq_none (by rw [metL_length]; omega), List.getElem?_eq_none (by rw [metL_length]; omega), metL_length]
    split <;> (try split) <;> first | rfl | omega
def fineTo (n : Nat) (p : List Int) (k : Nat) : Bool := (List.range k).all fun i => decide (0 ≤ nth p i ∧ nth p i < n) && !metIn p i (nth p i)
theorem fineTo_succ (n : Nat) (p : List Int) (k : Nat) : fineTo n p (k + 1) = (fineTo n p k && (decide (0 ≤ nth p k ∧ nth p k < n) && !metIn p k (nth p k))) := by
  simp [fineTo, List.range_succ]
theorem fineTo_false {n : Nat} {p : List Int} {k m : Nat} (hk : k < m) (h : (decide (0 ≤ nth p k ∧ nth p k < n) && !metIn p k (nth p k)) = false) : fineTo n p m = false := by
  unfold fineTo; rw [List.all_eq_false]; exact ⟨k, by simpa using hk, by rw [h]; simp⟩
/-- is p a list of the numbers below n, each once? -/
def ordOk (n : Nat) (p : List Int) : Bool := decide (p.length = n) && fineTo n p p.length
/-- the gaps put at their places, the first k of them -/
def putTo (zs p : List Int) : Nat → List Int
  | 0 => List.replicate zs.length 0
  | k + 1 => (putTo zs p k).set (nth p k).toNat (nth zs k)
theorem putTo_length (zs p : List Int) (k : Nat) : (putTo zs p k).length = zs.length := by
  induction k with
  | zero => simp [putTo]
  | succ k ih => simp [putTo, ih]
theorem fineTo_at {n : Nat} {p : List Int} {k m : Nat} (h : fineTo n p m = true) (hk : k < m) : 0 ≤ nth p k ∧ nth p k < n := by
  unfold fineTo at h
  rw [List.all_eq_true] at h
  have := h k (by simpa using hk)
  rw [Bool.and_eq_true, decide_eq_true_eq] at this
  exact this.1

/-! ### RenumberTasks -/
theorem boxed_setFar {W : World} {B b j : Nat} {t : TypeId} {v u : Value} (h : Boxed W B t v) (hne : B ≠ b) : Boxed (W.setCell ⟨b, j, none⟩ u) B t v := h.kept (grownBy_setCell2 W b j u) (by simpa using hne)
def renC (zs p : List Int) : Int := if tasksOk zs then if ordOk zs.length p then 0 else 2 else 1
def renR (zs p : List Int) : List Int := if renC zs p = 0 then putTo zs p zs.length else []
theorem renC_zero {zs p : List Int} (h : renC zs p = 0) : tasksOk zs = true ∧ ordOk zs.length p = true := by
  unfold renC at h; split at h
  · split at h
    · exact ⟨by assumption, by assumption⟩
    · cases h
  · cases h
theorem renR_len (zs p : List Int) : (renR zs p).length * 8 ≤ 140737488351232 := by
  unfold renR; split
  · rename_i h
    have := tasksOk_len (renC_zero h).1
    rw [putTo_length]; omega
  · simp
theorem ordOk_len {n : Nat} {p : List Int} (h : ordOk n p = true) : p.length = n ∧ fineTo n p p.length = true := by
  unfold ordOk at h; rw [Bool.and_eq_true, decide_eq_true_eq] at h; exact h
theorem ret_t2 {v : Value} {a a' : Int} (h : a = a') : Ending.returned (.tuple #[.agg #[v], .int .i64 a]) = .returned (.tuple #[.agg #[v], .int .i64 a']) := by rw [h]

end Go.Proofs.Ytbhpflhopajbfaa
