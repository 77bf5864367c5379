/-
  The queue's method Swap.
  Conditions: places of the queue.
-/
import Derived.Test.YtbhpflhopajbfaaQus
import Derived.BigRegion
namespace Go.Proofs.Ytbhpflhopajbfaa
open Go.RowKit Go.Shelf
attribute [local go_sem] Oper.semAt_some

theorem putP_box {W : World} {b g i : Nat} {x : Pend} {t : TypeId} {u v : Value} (h : Box2 W b t u v) (hbg : b ≠ g) : Box2 (putP W g i x) b t u v := by
  have h1 := h.other (b' := g) (i := i * 3) hbg (.int .i64 x.task)
  have h2 := h1.other (b' := g) (i := i * 3 + 1) hbg (.int .i64 x.due)
  exact h2.other (b' := g) (i := i * 3 + 2) hbg (.int .i64 x.left)
theorem grown_drew {A W : World} {row : Option Nat} (h : A.grownBy W row) : A.grownBy W.drew row := ⟨h.os, h.tape, h.output, h.size, h.block⟩
theorem box2_drew {W : World} {b : Nat} {t : TypeId} {u v : Value} (h : Box2 W b t u v) : Box2 W.drew b t u v := h
theorem OwnP.drew {B : Nat} {W : World} {v : Value} {qs : List Pend} (h : OwnP B W v qs) : OwnP B W.drew v qs := World.ownsRow.drew h
theorem Que.swap {B b g cap : Nat} {qs : List Pend} {i j : Nat} {w : World} (h : Que B b w (.slice (some ⟨g, 0, none⟩) qs.length cap) qs) (hi : i < qs.length) (hj : j < qs.length) (hbg : b ≠ g) :
    Que B b (putP (putP w g i (pat qs j)) g j (pat qs i)).drew (.slice (some ⟨g, 0, none⟩) qs.length cap) (swpL qs i j) ∧ w.grownBy (putP (putP w g i (pat qs j)) g j (pat qs i)).drew (some g) := by
  obtain ⟨r1, r2⟩ := h.own.put hi (pat qs j)
  have r1' : OwnP B (putP w g i (pat qs j)) (.slice (some ⟨g, 0, none⟩) (qs.set i (pat qs j)).length cap) (qs.set i (pat qs j)) := by rw [List.length_set]; exact r1
  obtain ⟨r3, r4⟩ := r1'.put (i := j) (by rw [List.length_set]; exact hj) (pat qs i)
  rw [List.length_set] at r3
  have r6 := putP_box (i := j) (x := pat qs i) (putP_box (i := i) (x := pat qs j) h.box hbg) hbg
  have r3' : OwnP B (putP (putP w g i (pat qs j)) g j (pat qs i)) (.slice (some ⟨g, 0, none⟩) qs.length cap) (swpL qs i j) := r3
  exact ⟨⟨box2_drew r6, r3'.drew⟩, grown_drew (grownBy_tr r2 r4)⟩

set_option maxRecDepth 100000 in
set_option maxHeartbeats 8000000 in
theorem swapQ_c (B b g cap : Nat) (qs : List Pend) (i j : Nat) (w : World) (h : Que B b w (.slice (some ⟨g, 0, none⟩) qs.length cap) qs) (hi : i < qs.length) (hj : j < qs.length) (hbg : b ≠ g) :
    Calls Try.prog 219 #[.pointer (some ⟨b, 0, none⟩), .int .i64 i, .int .i64 j] w fun e w' => (∃ u, e = .returned u) ∧ Que B b w' (.slice (some ⟨g, 0, none⟩) qs.length cap) (swpL qs i j) ∧ w.grownBy w' (some g) := by
  have hb := h.box.lt
  have c0 := h.box.c0
  have x0 := h.own.cellAt (i := 0) hi (by omega)
  have x1 := h.own.cellAt (i := 1) hi (by omega)
  have x2 := h.own.cellAt (i := 2) hi (by omega)
  have y0 := h.own.cellAt (i := 0) hj (by omega)
  have y1 := h.own.cellAt (i := 1) hj (by omega)
  have y2 := h.own.cellAt (i := 2) hj (by omega)
  have f0 := h.own.frozen
  simp only [pC, List.getElem?_cons_zero, List.getElem?_cons_succ, Nat.add_zero] at x0 x1 x2 y0 y1 y2
  have hii : (i : Int) < (qs.length : Int) := by omega
  have hjj : (j : Int) < (qs.length : Int) := by omega
  have H := Lib.hid h
  clear h
  by_cases hij : i = j
  · subst hij
    go_enter Try.func219, Try.ntmps219
    go_wp2_with fail
    go_region
    go_wp2
    go_end0
    exact ⟨⟨_, rfl⟩, H.out.swap hi hj hbg⟩
  · have n1 : ¬ i * 3 = j * 3 := by omega
    have n2 : ¬ j * 3 = i * 3 := by omega
    go_enter Try.func219, Try.ntmps219
    go_wp2_with fail
    go_region
    go_wp2
    go_end0
    exact ⟨⟨_, rfl⟩, H.out.swap hi hj hbg⟩

end Go.Proofs.Ytbhpflhopajbfaa
