/-
  The queue of tasks that wait: its memory (a box of two cells, and a row of items of three cells), and its methods Len, Less.
  Conditions: none.
-/
import Derived.Test.YtbhpflhopajbfaaHed
import Derived.Test.YtbhpflhopajbfaaBox
import Derived.Test.YtbhpflhopajbfaaJob
import Derived.Test.YtbhpflhopajbfaaIter
namespace Go.Proofs.Ytbhpflhopajbfaa
open Go.RowKit Go.Shelf
attribute [local go_sem] Oper.semAt_some

/-- an item's cells -/
def pC (x : Pend) : List Value := [.int .i64 x.task, .int .i64 x.due, .int .i64 x.left]
def flP (qs : List Pend) : List Value := qs.flatMap pC
theorem flP_length (qs : List Pend) : (flP qs).length = qs.length * 3 := by
  induction qs with
  | nil => rfl
  | cons x xs ih => rw [flP, List.flatMap_cons, List.length_append]; rw [flP] at ih; rw [ih]; simp [pC]; omega
theorem flP_append (xs : List Pend) (x : Pend) : flP (xs ++ [x]) = flP xs ++ pC x := by simp [flP]
theorem flP_at {qs : List Pend} {k i : Nat} (h : k < qs.length) (hi : i < 3) : (flP qs)[k * 3 + i]? = (pC (pat qs k))[i]? := by
  induction qs generalizing k with
  | nil => simp at h
  | cons x xs ih =>
    rw [flP, List.flatMap_cons]
    cases k with
    | zero =>
      rw [List.getElem?_append_left (by simp [pC]; omega)]
      simp [pat]
    | succ k =>
      rw [List.getElem?_append_right (by simp [pC]; omega)]
      have := ih (k := k) (by simpa using h)
      rw [show (k + 1) * 3 + i - (pC x).length = k * 3 + i by simp [pC]; omega]
      rw [flP] at this
      rw [this]
      simp [pat]
/-- a slice that owns the items -/
def OwnP (B : Nat) (W : World) (v : Value) (qs : List Pend) : Prop := W.ownsRow B 177 3 v qs.length (flP qs)
theorem ownP_nil (B : Nat) (W : World) : OwnP B W (.slice none 0 0) [] := World.ownsRow_nil _ _ _ _
section
variable {B g n cap : Nat} {W W' : World} {v : Value} {qs : List Pend}
theorem OwnP.blk (h : OwnP B W v qs) : ∀ k, v.ownBlock = some k → B ≤ k ∧ k < W.heap.size := World.ownsRow.lt h
theorem OwnP.kept {row : Option Nat} (h : OwnP B W v qs) (hg : W.grownBy W' row) (hne : v.ownBlock = none ∨ v.ownBlock ≠ row) : OwnP B W' v qs := World.ownsRow.kept h hg hne
theorem OwnP.of_block (h : OwnP B W v qs) (hb : ∀ k, v.ownBlock = some k → W'.heap[k]? = W.heap[k]?) : OwnP B W' v qs := by
  obtain ⟨h1, h2⟩ := h
  refine ⟨h1, ?_⟩
  rcases h2 with h0 | ⟨g, cap, cur, e, hg, hh, r⟩
  · exact .inl h0
  · exact .inr ⟨g, cap, cur, e, hg, (hb g (by simp [e, Value.ownBlock])).trans hh, r⟩
theorem OwnP.later (h : OwnP B W v qs) (hb : Below W.heap.size W W') : OwnP B W' v qs := h.of_block fun k hk => hb.block k (h.blk k hk).2
theorem OwnP.shape (h : OwnP B W v qs) (h0 : 0 < qs.length) : ∃ g cap, v = .slice (some ⟨g, 0, none⟩) qs.length cap ∧ B ≤ g ∧ g < W.heap.size := by
  have hb := h.blk
  obtain ⟨_, h2⟩ := h
  rcases h2 with ⟨_, e⟩ | ⟨g, cap, cur, e, hg, hh, _⟩
  · omega
  · exact ⟨g, cap, e, hg, (hb g (by simp [e, Value.ownBlock])).2⟩
theorem OwnP.len (h : OwnP B W v qs) : ∃ a c, v = .slice a qs.length c := by
  obtain ⟨_, h2⟩ := h
  rcases h2 with ⟨e, e2⟩ | ⟨g, cap, cur, e, _⟩
  · exact ⟨none, 0, by rw [e, e2]⟩
  · exact ⟨_, _, e⟩
theorem OwnP.cellAt (h : OwnP B W (.slice (some ⟨g, 0, none⟩) n cap) qs) {k i : Nat} (hk : k < qs.length) (hi : i < 3) : W.cell? ⟨g, k * 3 + i, none⟩ = (pC (pat qs k))[i]? := by
  have h' := h
  unfold OwnP at h'
  have hn : n = qs.length := by
    obtain ⟨a, c, e⟩ := h.len
    simp at e; exact e.2.1
  subst hn
  rw [World.ownsRow.cellAt h' (k * 3 + i) (by omega), flP_at hk hi]
theorem OwnP.frozen (h : OwnP B W (.slice (some ⟨g, 0, none⟩) n cap) qs) (j : Nat) : W.frozen? ⟨g, j, none⟩ = false := by
  obtain ⟨_, h2⟩ := h
  rcases h2 with ⟨e, _⟩ | ⟨g', cap', cur, e, hg, hh, _⟩
  · simp at e
  · simp only [Value.slice.injEq, Option.some.injEq, Addr.mk.injEq, and_true] at e
    obtain ⟨rfl, _⟩ := e
    simp [World.frozen?, hh]
end
/-- the order of the queue, as a value -/
def qFn : Value := .func (.func 137) #[] #[]
/-- THE QUEUE at the box b: its items, v the slice that owns them -/
structure Que (B b : Nat) (W : World) (v : Value) (qs : List Pend) : Prop where
  box : Box2 W b 170 v qFn
  own : OwnP B W v qs
section
variable {B b : Nat} {W W' : World} {v : Value} {qs : List Pend}
theorem Que.later (h : Que B b W v qs) (hb : Below W.heap.size W W') : Que B b W' v qs := ⟨h.box.later hb, h.own.later hb⟩
theorem Que.alloc (h : Que B b W v qs) (o : Obj) : Que B b (W.alloc o) v qs := h.later ((Below.refl _ _).alloc (Nat.le_refl _) _)
end

theorem len_c (B b : Nat) (v : Value) (qs : List Pend) (w : World) (h : Que B b w v qs) :
    Calls Try.prog 140 #[.pointer (some ⟨b, 0, none⟩)] w fun e w' => e = .returned (.int .i64 qs.length) ∧ w = w' := by
  obtain ⟨a, c, rfl⟩ := h.own.len
  have c0 := h.box.c0
  go_enter Try.func140, Try.ntmps140
  go_wp2
  go_ret
  exact ⟨rfl, rfl⟩

/-- the order, told -/
def aheadB (x y : Pend) : Bool := decide (x.due < y.due) || (decide (x.due = y.due) && decide (x.task < y.task))
theorem aheadB_true {x y : Pend} : aheadB x y = true ↔ ahead x y := by simp [aheadB, ahead]
theorem aheadB_false {x y : Pend} : aheadB x y = false ↔ ¬ ahead x y := by rw [← aheadB_true]; simp

set_option maxHeartbeats 1000000 in
theorem isDueAhead_c (x y : Pend) (w : World) :
    Calls Try.prog 137 #[.agg #[.int .i64 x.task, .int .i64 x.due, .int .i64 x.left], .agg #[.int .i64 y.task, .int .i64 y.due, .int .i64 y.left]] w fun e w' => e = .returned (.bool (aheadB x y)) ∧ Below w.heap.size w w' := by
  obtain ⟨xt, xd, xl⟩ := x
  obtain ⟨yt, yd, yl⟩ := y
  have hB0 : Below w.heap.size w ((w.alloc (.cells #[.int .i64 xt, .int .i64 xd, .int .i64 xl] 177)).alloc (.cells #[.int .i64 yt, .int .i64 yd, .int .i64 yl] 177)) := ((Below.refl _ _).alloc (Nat.le_refl _) _).alloc (by simp) _
  by_cases h1 : xd < yd
  · have Hf := Lib.hid (show aheadB ⟨xt, xd, xl⟩ ⟨yt, yd, yl⟩ = true from aheadB_true.2 (.inl h1))
    go_enter Try.func137, Try.ntmps137
    go_wp2
    go_ret
    exact ⟨ret_bool (by rw [Hf.out]), hB0⟩
  · by_cases h2 : xd = yd
    · subst h2
      by_cases h3 : xt < yt
      · have Hf := Lib.hid (show aheadB ⟨xt, xd, xl⟩ ⟨yt, xd, yl⟩ = true from aheadB_true.2 (.inr ⟨rfl, h3⟩))
        go_enter Try.func137, Try.ntmps137
        go_wp2
        go_ret
        exact ⟨ret_bool (by rw [Hf.out]), hB0⟩
      · have Hf := Lib.hid (show aheadB ⟨xt, xd, xl⟩ ⟨yt, xd, yl⟩ = false from aheadB_false.2 (by unfold ahead; simp only; omega))
        go_enter Try.func137, Try.ntmps137
        go_wp2
        go_ret
        exact ⟨ret_bool (by rw [Hf.out]), hB0⟩
    · have Hf := Lib.hid (show aheadB ⟨xt, xd, xl⟩ ⟨yt, yd, yl⟩ = false from aheadB_false.2 (by unfold ahead; simp only; omega))
      go_enter Try.func137, Try.ntmps137
      go_wp2
      go_ret
      exact ⟨ret_bool (by rw [Hf.out]), hB0⟩

end Go.Proofs.Ytbhpflhopajbfaa
