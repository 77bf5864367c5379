/-
  The queue's methods Less, Swap.
  Conditions: places of the queue.
-/
import Derived.Test.YtbhpflhopajbfaaQue
namespace Go.Proofs.Ytbhpflhopajbfaa
open Go.RowKit Go.Shelf
attribute [local go_sem] Oper.semAt_some

theorem flP_cons (x : Pend) (xs : List Pend) : flP (x :: xs) = .int .i64 x.task :: .int .i64 x.due :: .int .i64 x.left :: flP xs := by simp [flP, pC]
theorem flP_set (qs : List Pend) {i : Nat} (x : Pend) (h : i < qs.length) : (((flP qs).set (i * 3) (.int .i64 x.task)).set (i * 3 + 1) (.int .i64 x.due)).set (i * 3 + 2) (.int .i64 x.left) = flP (qs.set i x) := by
  induction qs generalizing i with
  | nil => simp at h
  | cons y ys ih =>
    cases i with
    | zero => rw [List.set_cons_zero, flP_cons, flP_cons]; simp
    | succ k =>
      rw [List.set_cons_succ, flP_cons, flP_cons, ← ih (i := k) (by simpa using h), show (k + 1) * 3 = k * 3 + 3 by omega]
      rfl
/-- an item is stored -/
def putP (W : World) (g i : Nat) (x : Pend) : World := ((W.setCell ⟨g, i * 3, none⟩ (.int .i64 x.task)).setCell ⟨g, i * 3 + 1, none⟩ (.int .i64 x.due)).setCell ⟨g, i * 3 + 2, none⟩ (.int .i64 x.left)
theorem OwnP.put {B g cap : Nat} {W : World} {qs : List Pend} (h : OwnP B W (.slice (some ⟨g, 0, none⟩) qs.length cap) qs) {i : Nat} (hi : i < qs.length) (x : Pend) :
    OwnP B (putP W g i x) (.slice (some ⟨g, 0, none⟩) qs.length cap) (qs.set i x) ∧ W.grownBy (putP W g i x) (some g) := by
  obtain ⟨r1, r2⟩ := World.ownsRow.stored h (i * 3) (.int .i64 x.task)
  obtain ⟨r3, r4⟩ := World.ownsRow.stored r1 (i * 3 + 1) (.int .i64 x.due)
  obtain ⟨r5, r6⟩ := World.ownsRow.stored r3 (i * 3 + 2) (.int .i64 x.left)
  refine ⟨?_, grownBy_tr (grownBy_tr r2 r4) r6⟩
  unfold OwnP
  rw [List.length_set, ← flP_set qs x hi]
  exact r5

set_option maxRecDepth 100000 in
set_option maxHeartbeats 8000000 in
theorem lessQ_c (d : Bool) (B b : Nat) (v : Value) (qs : List Pend) (i j : Nat) (w : World) (h : Que B b w v qs) (hi : i < qs.length) (hj : j < qs.length) (hd : aheadB (pat qs i) (pat qs j) = d) :
    Calls Try.prog 216 #[.pointer (some ⟨b, 0, none⟩), .int .i64 i, .int .i64 j] w fun e w' => e = .returned (.bool d) ∧ Below w.heap.size w w' := by
  obtain ⟨g, cap, rfl, _, hg⟩ := h.own.shape (by omega)
  have hb := h.box.lt
  have c0 := h.box.c0
  have c1 := h.box.c1
  have x0 := h.own.cellAt (i := 0) hi (by omega)
  have x1 := h.own.cellAt (i := 1) hi (by omega)
  have x2 := h.own.cellAt (i := 2) hi (by omega)
  have y0 := h.own.cellAt (i := 0) hj (by omega)
  have y1 := h.own.cellAt (i := 1) hj (by omega)
  have y2 := h.own.cellAt (i := 2) hj (by omega)
  simp only [pC, List.getElem?_cons_zero, List.getElem?_cons_succ, Nat.add_zero] at x0 x1 x2 y0 y1 y2
  have hii : (i : Int) < (qs.length : Int) := by omega
  have hjj : (j : Int) < (qs.length : Int) := by omega
  have hfw : Try.prog.follows Departure.mixedOrders = true := by kernel_rfl
  have hfn : (Value.func (.func 137) #[] #[]) = qFn := rfl
  unfold qFn at c1
  have Hd := Lib.hid hd
  clear h hd hfn
  go_enter Try.func216, Try.ntmps216
  go_wp2_with fail
  refine wp_region_held_drew (S := fun w' => Below w.heap.size w w') hfw (Below.refl _ _).drew ?_
  intro hS0
  refine wpAnyH_take (i := 0) (v := ?va0) rfl (by kernel_rfl) (by kernel_rfl) (by kernel_rfl) (fun _ _ _ h => h) (.inl ⟨by rfl, ?ya0⟩) hS0 ?_
  case ya0 =>
    intro w' hS
    (clear hS)
    go_simp
    try with_reducible rfl
  refine wpAnyH_take (i := 1) (v := ?va1) rfl (by kernel_rfl) (by kernel_rfl) (by kernel_rfl) (fun _ _ _ h => h) (.inl ⟨by rfl, ?ya1⟩) hS0 ?_
  case ya1 =>
    intro w' hS
    (clear hS)
    go_simp
    try with_reducible rfl
  refine wpAnyH_take (i := 2) (v := ?va2) rfl (by kernel_rfl) (by kernel_rfl) (by kernel_rfl) (fun _ _ _ h => h) (.inl ⟨by rfl, ?ya2⟩) hS0 ?_
  case ya2 =>
    intro w' hS
    (clear hS)
    go_simp
    try with_reducible rfl
  refine wpAnyH_take (i := 4) (v := ?va4) rfl (by kernel_rfl) (by kernel_rfl) (by kernel_rfl) (fun _ _ _ h => h) (.inl ⟨by rfl, ?ya4⟩) hS0 ?_
  case ya4 =>
    intro w' hS
    (clear hS)
    go_simp
    try with_reducible rfl
  refine wpAnyH_take (i := 5) (v := ?va5) rfl (by kernel_rfl) (by kernel_rfl) (by kernel_rfl) (fun _ _ _ h => h) (.inl ⟨by rfl, ?ya5⟩) hS0 ?_
  case ya5 =>
    intro w' hS
    (clear hS)
    go_simp
    try with_reducible rfl
  refine wpAnyH_take (i := 6) (v := ?va6) rfl (by kernel_rfl) (by kernel_rfl) (by kernel_rfl) (fun _ _ _ h => h) (.inl ⟨by rfl, ?ya6⟩) hS0 ?_
  case ya6 =>
    intro w' hS
    (clear hS)
    go_simp
    try with_reducible rfl
  refine wpAnyH_take (i := 8) (v := ?va8) rfl (by kernel_rfl) (by kernel_rfl) (by kernel_rfl) (fun _ _ _ h => h) (.inl ⟨by rfl, ?ya8⟩) hS0 ?_
  case ya8 =>
    intro w' hS
    (clear hS)
    go_simp
    try with_reducible rfl
  refine wpAnyH_take (i := 11) (v := ?va11) rfl (by kernel_rfl) (by kernel_rfl) (by kernel_rfl) (fun _ _ _ h => h) (.inl ⟨by rfl, ?ya11⟩) hS0 ?_
  case ya11 =>
    intro w' hS
    (clear hS)
    go_simp
    try with_reducible rfl
  refine wpAnyH_take (i := 12) (v := ?va12) rfl (by kernel_rfl) (by kernel_rfl) (by kernel_rfl) (fun _ _ _ h => h) (.inl ⟨by rfl, ?ya12⟩) hS0 ?_
  case ya12 =>
    intro w' hS
    (clear hS)
    go_simp
    try with_reducible rfl
  refine wpAnyH_take (i := 13) (v := ?va13) rfl (by kernel_rfl) (by kernel_rfl) (by kernel_rfl) (fun _ _ _ h => h) (.inl ⟨by rfl, ?ya13⟩) hS0 ?_
  case ya13 =>
    intro w' hS
    (clear hS)
    go_simp
    try with_reducible rfl
  refine wpAnyH_take (i := 15) (v := ?va15) rfl (by kernel_rfl) (by kernel_rfl) (by kernel_rfl) (fun _ _ _ h => h) (.inl ⟨by rfl, ?ya15⟩) hS0 ?_
  case ya15 =>
    intro w' hS
    (clear hS)
    go_simp
    try with_reducible rfl
  refine wpAnyH_take (i := 3) (v := ?va3) rfl (by kernel_rfl) (by kernel_rfl) (by kernel_rfl) (fun _ _ _ h => h) (.inl ⟨by rfl, ?ya3⟩) hS0 ?_
  case ya3 =>
    intro w' hS
    (have k0 := (hS.cell (p := ⟨b, 0, none⟩) hb).trans c0; have k1 := (hS.cell (p := ⟨b, 1, none⟩) hb).trans c1; clear hS)
    go_simp
    try with_reducible rfl
  refine wpAnyH_take (i := 7) (v := ?va7) rfl (by kernel_rfl) (by kernel_rfl) (by kernel_rfl) (fun _ _ _ h => h) (.inl ⟨by rfl, ?ya7⟩) hS0 ?_
  case ya7 =>
    intro w' hS
    (have k0 := (hS.cell (p := ⟨b, 0, none⟩) hb).trans c0; have k1 := (hS.cell (p := ⟨b, 1, none⟩) hb).trans c1; clear hS)
    go_simp
    try with_reducible rfl
  refine wpAnyH_take (i := 14) (v := ?va14) rfl (by kernel_rfl) (by kernel_rfl) (by kernel_rfl) (fun _ _ _ h => h) (.inl ⟨by rfl, ?ya14⟩) hS0 ?_
  case ya14 =>
    intro w' hS
    (have k0 := (hS.cell (p := ⟨b, 0, none⟩) hb).trans c0; have k1 := (hS.cell (p := ⟨b, 1, none⟩) hb).trans c1; clear hS)
    go_simp
    try with_reducible rfl
  refine wpAnyH_take (i := 9) (v := ?va9) rfl (by kernel_rfl) (by kernel_rfl) (by kernel_rfl) (fun _ _ _ h => h) (.inl ⟨by rfl, ?ya9⟩) hS0 ?_
  case ya9 =>
    intro w' hS
    (clear hS)
    go_simp
    try with_reducible rfl
  refine wpAnyH_take (i := 16) (v := ?va16) rfl (by kernel_rfl) (by kernel_rfl) (by kernel_rfl) (fun _ _ _ h => h) (.inl ⟨by rfl, ?ya16⟩) hS0 ?_
  case ya16 =>
    intro w' hS
    (clear hS)
    go_simp
    try with_reducible rfl
  refine wpAnyH_take (i := 10) (v := ?va10) rfl (by kernel_rfl) (by kernel_rfl) (by kernel_rfl) (fun _ _ _ h => h) (.inl ⟨by rfl, ?ya10⟩) hS0 ?_
  case ya10 =>
    intro w' hS
    (have k0 := (hS.cell (p := ⟨g, i * 3, none⟩) hg).trans x0; have k1 := (hS.cell (p := ⟨g, i * 3 + 1, none⟩) hg).trans x1; have k2 := (hS.cell (p := ⟨g, i * 3 + 2, none⟩) hg).trans x2; have l0 := (hS.cell (p := ⟨g, j * 3, none⟩) hg).trans y0; have l1 := (hS.cell (p := ⟨g, j * 3 + 1, none⟩) hg).trans y1; have l2 := (hS.cell (p := ⟨g, j * 3 + 2, none⟩) hg).trans y2; clear hS)
    go_simp
    try with_reducible rfl
  refine wpAnyH_take (i := 17) (v := ?va17) rfl (by kernel_rfl) (by kernel_rfl) (by kernel_rfl) (fun _ _ _ h => h) (.inl ⟨by rfl, ?ya17⟩) hS0 ?_
  case ya17 =>
    intro w' hS
    (have k0 := (hS.cell (p := ⟨g, i * 3, none⟩) hg).trans x0; have k1 := (hS.cell (p := ⟨g, i * 3 + 1, none⟩) hg).trans x1; have k2 := (hS.cell (p := ⟨g, i * 3 + 2, none⟩) hg).trans x2; have l0 := (hS.cell (p := ⟨g, j * 3, none⟩) hg).trans y0; have l1 := (hS.cell (p := ⟨g, j * 3 + 1, none⟩) hg).trans y1; have l2 := (hS.cell (p := ⟨g, j * 3 + 2, none⟩) hg).trans y2; clear hS)
    go_simp
    try with_reducible rfl
  refine wpAnyH_ready (rs := [18]) (by kernel_rfl) (by simp) ?_
  refine AllReadyH.cons rfl (fun K' hK' => ?_) AllReadyH.nil
  rw [if_pos (by rfl)]
  go_simp
  refine (isDueAhead_c (pat qs i) (pat qs j) _).mono ?_
  rintro e w1 ⟨rfl, hb1⟩
  rw [Hd.out]
  refine hK'.out _ _ (hS0.trans (hb1.mono hS0.size)) fun hS1 => ?_
  refine wpAnyH_take (i := 19) (v := ?va19) rfl (by kernel_rfl) (by kernel_rfl) (by kernel_rfl) (fun _ _ _ h => h) (.inl ⟨by rfl, ?ya19⟩) hS1 ?_
  case ya19 =>
    intro w' hS
    (clear hS)
    go_simp
    try with_reducible rfl
  refine wpAnyH_done (by kernel_rfl) ?_ _
  go_wp2
  go_ret
  exact ⟨rfl, hS1⟩

end Go.Proofs.Ytbhpflhopajbfaa
