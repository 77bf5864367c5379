/-
  The program's watcher: its variable, its move.
  Conditions: a ground and tasks, as many as places.
-/
import Derived.Test.YtgndbifcncklgaaStepJ
import Derived.Test.YtgndbifcncklgaaGnI
import Derived.Test.YtgndbifcncklgaaSfn
namespace Go.Proofs.Ytgndbifcncklgaa
open Go.RowKit Go.Shelf
attribute [local go_sem] Oper.semAt_some

/-- the block b is a watcher -/
def Wat (W : World) (b : Nat) (p r : Nat) (bo mk : Nat) : Prop := W.heap[b]? = some (.cells #[.int .i64 (p : Int), .int .i64 (r : Int), .pointer (some ⟨bo, 0, none⟩), .map (some mk)] 105 (0, 0))
section
variable {W W' : World} {b p r bo mk : Nat}
theorem Wat.lt (h : Wat W b p r bo mk) : b < W.heap.size := (Array.getElem?_eq_some_iff.1 h).1
theorem Wat.c0 (h : Wat W b p r bo mk) : W.cell? ⟨b, 0, none⟩ = some (.int .i64 (p : Int)) := by simp [World.cell?, show W.heap[b]? = _ from h]
theorem Wat.c1 (h : Wat W b p r bo mk) : W.cell? ⟨b, 1, none⟩ = some (.int .i64 (r : Int)) := by simp [World.cell?, show W.heap[b]? = _ from h]
theorem Wat.c2 (h : Wat W b p r bo mk) : W.cell? ⟨b, 2, none⟩ = some (.pointer (some ⟨bo, 0, none⟩)) := by simp [World.cell?, show W.heap[b]? = _ from h]
theorem Wat.c3 (h : Wat W b p r bo mk) : W.cell? ⟨b, 3, none⟩ = some (.map (some mk)) := by simp [World.cell?, show W.heap[b]? = _ from h]
theorem Wat.kept {row : Option Nat} (h : Wat W b p r bo mk) (hg : W.grownBy W' row) (hne : some b ≠ row) : Wat W' b p r bo mk := (hg.block b h.lt hne).trans h
theorem Wat.later (h : Wat W b p r bo mk) (hb : Below W.heap.size W W') : Wat W' b p r bo mk := (hb.block b h.lt).trans h
end
/-- the block b is a variable that holds a state -/
def Wbx (W : World) (b : Nat) (x : Wst) : Prop := W.heap[b]? = some (.cells (wC x) 66 (0, 0))
section
variable {W W' : World} {b : Nat} {x : Wst}
theorem Wbx.lt (h : Wbx W b x) : b < W.heap.size := (Array.getElem?_eq_some_iff.1 h).1
theorem Wbx.c0 (h : Wbx W b x) : W.cell? ⟨b, 0, none⟩ = some (.int .i64 (x.2 : Int)) := by simp [World.cell?, show W.heap[b]? = _ from h, wC]
theorem Wbx.cs (h : Wbx W b x) {i : Nat} (hi : i < 8) : W.cell? ⟨b, i + 1, none⟩ = some (.int .u8 (nth x.1 i)) := by
  have h9 : i = 0 ∨ i = 1 ∨ i = 2 ∨ i = 3 ∨ i = 4 ∨ i = 5 ∨ i = 6 ∨ i = 7 := by omega
  rcases h9 with h9 | h9 | h9 | h9 | h9 | h9 | h9 | h9 <;> subst h9 <;> simp [World.cell?, show W.heap[b]? = _ from h, wC]
theorem Wbx.frozen (h : Wbx W b x) (i : Nat) : W.frozen? ⟨b, i, none⟩ = false := by simp [World.frozen?, show W.heap[b]? = _ from h]
theorem Wbx.new (W : World) (x : Wst) : Wbx (W.alloc (.cells (wC x) 66)) W.heap.size x := World.alloc_heap_new W _
theorem Wbx.kept {row : Option Nat} (h : Wbx W b x) (hg : W.grownBy W' row) (hne : some b ≠ row) : Wbx W' b x := (hg.block b h.lt hne).trans h
theorem Wbx.alloc (h : Wbx W b x) (o : Obj) : Wbx (W.alloc o) b x := h.kept (World.grownBy_alloc W o none) (by simp)
theorem Wbx.later (h : Wbx W b x) (hb : Below W.heap.size W W') : Wbx W' b x := (hb.block b h.lt).trans h
end
theorem heap_put9 {W : World} {b i : Nat} {cs : Array Value} {t : TypeId} (h : W.heap[b]? = some (.cells cs t (0, 0))) (v : Value) : (W.setCell ⟨b, i, none⟩ v).heap[b]? = some (.cells (cs.setIfInBounds i v) t (0, 0)) := by
  obtain ⟨hlt, hk⟩ := Array.getElem?_eq_some_iff.1 h
  show (W.heap.modify b _)[b]? = _
  rw [Array.getElem?_eq_getElem (by rw [Array.size_modify]; exact hlt), Array.getElem_modify_self, hk]
  rfl
def store9 (W : World) (b : Nat) (x : Wst) : World := (((((((((W.setCell ⟨b, 0, none⟩ (.int .i64 (x.2 : Int))).setCell ⟨b, 1, none⟩ (.int .u8 (nth x.1 0))).setCell ⟨b, 2, none⟩ (.int .u8 (nth x.1 1))).setCell ⟨b, 3, none⟩ (.int .u8 (nth x.1 2))).setCell ⟨b, 4, none⟩ (.int .u8 (nth x.1 3))).setCell ⟨b, 5, none⟩ (.int .u8 (nth x.1 4))).setCell ⟨b, 6, none⟩ (.int .u8 (nth x.1 5))).setCell ⟨b, 7, none⟩ (.int .u8 (nth x.1 6))).setCell ⟨b, 8, none⟩ (.int .u8 (nth x.1 7)))
theorem Wbx.stored9 {W : World} {b : Nat} {x0 : Wst} (x : Wst) (h : Wbx W b x0) : Wbx (store9 W b x) b x := by
  unfold Wbx store9
  have h0 := heap_put9 (i := 0) h (.int .i64 (x.2 : Int))
  have h1 := heap_put9 (i := 1) h0 (.int .u8 (nth x.1 0))
  have h2 := heap_put9 (i := 2) h1 (.int .u8 (nth x.1 1))
  have h3 := heap_put9 (i := 3) h2 (.int .u8 (nth x.1 2))
  have h4 := heap_put9 (i := 4) h3 (.int .u8 (nth x.1 3))
  have h5 := heap_put9 (i := 5) h4 (.int .u8 (nth x.1 4))
  have h6 := heap_put9 (i := 6) h5 (.int .u8 (nth x.1 5))
  have h7 := heap_put9 (i := 7) h6 (.int .u8 (nth x.1 6))
  have h8 := heap_put9 (i := 8) h7 (.int .u8 (nth x.1 7))
  rw [h8]
  simp [wC]
theorem grownBy_set9 (W : World) (b : Nat) (x : Wst) : W.grownBy (store9 W b x) (some b) := by
  unfold store9
  exact (((((((((grownBy_setCell2 _ _ _ _).trans (grownBy_setCell2 _ _ _ _)).trans (grownBy_setCell2 _ _ _ _)).trans (grownBy_setCell2 _ _ _ _)).trans (grownBy_setCell2 _ _ _ _)).trans (grownBy_setCell2 _ _ _ _)).trans (grownBy_setCell2 _ _ _ _)).trans (grownBy_setCell2 _ _ _ _)).trans (grownBy_setCell2 _ _ _ _))
theorem below_set9 {n : Nat} {w W : World} {b : Nat} (x : Wst) (h : Below n w W) (hb : n ≤ b) (hn : n ≤ w.heap.size) : Below n w (store9 W b x) :=
  h.grown (grownBy_set9 W b x) (Nat.le_trans hn h.size) (fun j e => by have : b = j := (by simpa using e); omega)

/-- what a move hands back -/
def MovePost (w : World) (zs : List Int) (r : Nat) (x : Wst) (j : Nat) (e : Ending) (w' : World) : Prop :=
  ((Mv zs r x j ∧ e = .returned (.tuple #[wV (stW zs x j), .bool true])) ∨ (¬ Mv zs r x j ∧ ∃ y : Wst, e = .returned (.tuple #[wV y, .bool false]))) ∧ Below w.heap.size w w'

set_option maxRecDepth 100000 in
set_option maxHeartbeats 16000000 in
theorem move_c (b bo mk m9 : Nat) (zs : List Int) (r : Nat) (x : Wst) (j : Nat) (w : World) (hW : Wat w b zs.length r bo mk) (hO : Outl w bo zs m9) (ht : tasksOk zs = true) (hn6 : zs.length ≤ 6) (hr : r < 32768) (hx : IsSt zs x.1) (hx2 : x.2 < zs.length) (hj : j < zs.length) :
    Calls Try.prog 102 #[.pointer (some ⟨b, 0, none⟩), wV x, .int .i64 (j : Int)] w (MovePost w zs r x j) := by
  have hfw : Try.prog.follows Departure.mixedOrders = true := by kernel_rfl
  have q0 : Wbx (w.alloc (.cells #[.int .i64 (x.2 : Int), .int .u8 (nth x.1 0), .int .u8 (nth x.1 1), .int .u8 (nth x.1 2), .int .u8 (nth x.1 3), .int .u8 (nth x.1 4), .int .u8 (nth x.1 5), .int .u8 (nth x.1 6), .int .u8 (nth x.1 7)] 66)) w.heap.size x := Wbx.new w x
  have hBa : Below w.heap.size w (w.alloc (.cells #[.int .i64 (x.2 : Int), .int .u8 (nth x.1 0), .int .u8 (nth x.1 1), .int .u8 (nth x.1 2), .int .u8 (nth x.1 3), .int .u8 (nth x.1 4), .int .u8 (nth x.1 5), .int .u8 (nth x.1 6), .int .u8 (nth x.1 7)] 66)) := (Below.refl _ w).alloc (Nat.le_refl _) _
  obtain ⟨W1, hW1⟩ : ∃ W1, (w.alloc (.cells #[.int .i64 (x.2 : Int), .int .u8 (nth x.1 0), .int .u8 (nth x.1 1), .int .u8 (nth x.1 2), .int .u8 (nth x.1 3), .int .u8 (nth x.1 4), .int .u8 (nth x.1 5), .int .u8 (nth x.1 6), .int .u8 (nth x.1 7)] 66)).alloc (.cells #[.int .i64 0, .int .u8 0, .int .u8 0, .int .u8 0, .int .u8 0, .int .u8 0, .int .u8 0, .int .u8 0, .int .u8 0] 66) = W1 := ⟨_, rfl⟩
  have bX : Wbx W1 w.heap.size x := by rw [← hW1]; exact q0.alloc _
  have bR : Wbx W1 (w.heap.size + 1) ([], 0) := by rw [← hW1]; have h : Wbx ((w.alloc (.cells #[.int .i64 (x.2 : Int), .int .u8 (nth x.1 0), .int .u8 (nth x.1 1), .int .u8 (nth x.1 2), .int .u8 (nth x.1 3), .int .u8 (nth x.1 4), .int .u8 (nth x.1 5), .int .u8 (nth x.1 6), .int .u8 (nth x.1 7)] 66)).alloc (.cells #[.int .i64 0, .int .u8 0, .int .u8 0, .int .u8 0, .int .u8 0, .int .u8 0, .int .u8 0, .int .u8 0, .int .u8 0] 66)) _ ([], 0) := Wbx.new (w.alloc (.cells #[.int .i64 (x.2 : Int), .int .u8 (nth x.1 0), .int .u8 (nth x.1 1), .int .u8 (nth x.1 2), .int .u8 (nth x.1 3), .int .u8 (nth x.1 4), .int .u8 (nth x.1 5), .int .u8 (nth x.1 6), .int .u8 (nth x.1 7)] 66)) ([], 0); simpa using h
  have hB1 : Below w.heap.size w W1 := by rw [← hW1]; exact hBa.alloc (by simp) _
  have bW := hW.later hB1
  have bO := hO.later hB1
  clear q0 hBa
  have hl8 := tasksOk_len ht
  have hbo := hO.lt
  have hbw := hW.lt
  unfold wV wC
  go_enter Try.func102, Try.ntmps102
  go_wp2_with fail
  clear hW1
  refine wp_region_held_drew (S := fun w' => Wat w' b zs.length r bo mk ∧ Wbx w' w.heap.size x ∧ Wbx w' (w.heap.size + 1) ([], 0) ∧ Outl w' bo zs m9 ∧ Below w.heap.size w w') hfw ⟨bW, bX, bR, bO, hB1.drew⟩ ?_
  intro hS0
  obtain ⟨Wd, hWd⟩ : ∃ Wd, W1.drew = Wd := ⟨_, rfl⟩
  rw [hWd] at hS0 ⊢
  clear hWd bW bX bR bO hB1
  refine wpAnyH_take (i := 0) (v := ?va10) rfl (by kernel_rfl) (by kernel_rfl) (by kernel_rfl) (fun _ _ _ h => h) (.inl ⟨by first | kernel_rfl | rfl, ?ya10⟩) hS0 ?_
  case ya10 =>
    intro w' hS
    (have k2 := hS.1.c2; have y0 := hS.2.1.cs (i := 0) (by omega); have y1 := hS.2.1.cs (i := 1) (by omega); have y2 := hS.2.1.cs (i := 2) (by omega); have y3 := hS.2.1.cs (i := 3) (by omega); have y4 := hS.2.1.cs (i := 4) (by omega); have y5 := hS.2.1.cs (i := 5) (by omega); have y6 := hS.2.1.cs (i := 6) (by omega); have y7 := hS.2.1.cs (i := 7) (by omega); clear hS)
    go_simp
    try with_reducible rfl
  refine wpAnyH_take (i := 1) (v := ?va11) rfl (by kernel_rfl) (by kernel_rfl) (by kernel_rfl) (fun _ _ _ h => h) (.inl ⟨by first | kernel_rfl | rfl, ?ya11⟩) hS0 ?_
  case ya11 =>
    intro w' hS
    (have k2 := hS.1.c2; have y0 := hS.2.1.cs (i := 0) (by omega); have y1 := hS.2.1.cs (i := 1) (by omega); have y2 := hS.2.1.cs (i := 2) (by omega); have y3 := hS.2.1.cs (i := 3) (by omega); have y4 := hS.2.1.cs (i := 4) (by omega); have y5 := hS.2.1.cs (i := 5) (by omega); have y6 := hS.2.1.cs (i := 6) (by omega); have y7 := hS.2.1.cs (i := 7) (by omega); clear hS)
    go_simp
    try with_reducible rfl
  refine wpAnyH_take (i := 2) (v := ?va12) rfl (by kernel_rfl) (by kernel_rfl) (by kernel_rfl) (fun _ _ _ h => h) (.inl ⟨by first | kernel_rfl | rfl, ?ya12⟩) hS0 ?_
  case ya12 =>
    intro w' hS
    (have k2 := hS.1.c2; have y0 := hS.2.1.cs (i := 0) (by omega); have y1 := hS.2.1.cs (i := 1) (by omega); have y2 := hS.2.1.cs (i := 2) (by omega); have y3 := hS.2.1.cs (i := 3) (by omega); have y4 := hS.2.1.cs (i := 4) (by omega); have y5 := hS.2.1.cs (i := 5) (by omega); have y6 := hS.2.1.cs (i := 6) (by omega); have y7 := hS.2.1.cs (i := 7) (by omega); clear hS)
    go_simp
    try with_reducible rfl
  refine wpAnyH_take (i := 3) (v := ?va13) rfl (by kernel_rfl) (by kernel_rfl) (by kernel_rfl) (fun _ _ _ h => h) (.inl ⟨by first | kernel_rfl | rfl, ?ya13⟩) hS0 ?_
  case ya13 =>
    intro w' hS
    (have k2 := hS.1.c2; have y0 := hS.2.1.cs (i := 0) (by omega); have y1 := hS.2.1.cs (i := 1) (by omega); have y2 := hS.2.1.cs (i := 2) (by omega); have y3 := hS.2.1.cs (i := 3) (by omega); have y4 := hS.2.1.cs (i := 4) (by omega); have y5 := hS.2.1.cs (i := 5) (by omega); have y6 := hS.2.1.cs (i := 6) (by omega); have y7 := hS.2.1.cs (i := 7) (by omega); clear hS)
    go_simp
    try with_reducible rfl
  refine wpAnyH_take (i := 4) (v := ?va14) rfl (by kernel_rfl) (by kernel_rfl) (by kernel_rfl) (fun _ _ _ h => h) (.inl ⟨by first | kernel_rfl | rfl, ?ya14⟩) hS0 ?_
  case ya14 =>
    intro w' hS
    (have k2 := hS.1.c2; have y0 := hS.2.1.cs (i := 0) (by omega); have y1 := hS.2.1.cs (i := 1) (by omega); have y2 := hS.2.1.cs (i := 2) (by omega); have y3 := hS.2.1.cs (i := 3) (by omega); have y4 := hS.2.1.cs (i := 4) (by omega); have y5 := hS.2.1.cs (i := 5) (by omega); have y6 := hS.2.1.cs (i := 6) (by omega); have y7 := hS.2.1.cs (i := 7) (by omega); clear hS)
    go_simp
    try with_reducible rfl
  refine wpAnyH_take (i := 5) (v := ?va15) rfl (by kernel_rfl) (by kernel_rfl) (by kernel_rfl) (fun _ _ _ h => h) (.inl ⟨by first | kernel_rfl | rfl, ?ya15⟩) hS0 ?_
  case ya15 =>
    intro w' hS
    (have k2 := hS.1.c2; have y0 := hS.2.1.cs (i := 0) (by omega); have y1 := hS.2.1.cs (i := 1) (by omega); have y2 := hS.2.1.cs (i := 2) (by omega); have y3 := hS.2.1.cs (i := 3) (by omega); have y4 := hS.2.1.cs (i := 4) (by omega); have y5 := hS.2.1.cs (i := 5) (by omega); have y6 := hS.2.1.cs (i := 6) (by omega); have y7 := hS.2.1.cs (i := 7) (by omega); clear hS)
    go_simp
    try with_reducible rfl
  refine wpAnyH_take (i := 6) (v := ?va16) rfl (by kernel_rfl) (by kernel_rfl) (by kernel_rfl) (fun _ _ _ h => h) (.inl ⟨by first | kernel_rfl | rfl, ?ya16⟩) hS0 ?_
  case ya16 =>
    intro w' hS
    (have k2 := hS.1.c2; have y0 := hS.2.1.cs (i := 0) (by omega); have y1 := hS.2.1.cs (i := 1) (by omega); have y2 := hS.2.1.cs (i := 2) (by omega); have y3 := hS.2.1.cs (i := 3) (by omega); have y4 := hS.2.1.cs (i := 4) (by omega); have y5 := hS.2.1.cs (i := 5) (by omega); have y6 := hS.2.1.cs (i := 6) (by omega); have y7 := hS.2.1.cs (i := 7) (by omega); clear hS)
    go_simp
    try with_reducible rfl
  try simp only [Act.put, List.getElem_toArray, List.getElem_cons_zero, List.getElem_cons_succ, List.setIfInBounds_toArray, List.set_cons_zero, List.set_cons_succ]
  refine wpAnyH_ready (rs := [7, 11]) (by kernel_rfl) (by simp) ?_
  refine AllReadyH.cons rfl (fun K' hK' => ?_) (AllReadyH.cons rfl (fun K' hK' => ?_) AllReadyH.nil)
  all_goals rw [if_pos (by first | kernel_rfl | rfl)]

  · go_simp
    refine (step_c bo m9 zs x.1 (j : Int) Wd hS0.2.2.2.1 ht hx).mono ?_
    rintro e w2 ⟨hres, hb⟩
    obtain ⟨y, ob, rfl, hy⟩ : ∃ (y : List Int) (ob : Bool), e = .returned (.tuple #[arrV y, .bool ob]) ∧ ((ob = true ∧ Opn x.1 (j : Int) ∧ y = stepL zs x.1 (j : Int)) ∨ (ob = false ∧ ¬ Opn x.1 (j : Int))) := by
      rcases hres with ⟨h1, h2⟩ | ⟨h1, h2⟩
      · exact ⟨_, true, h2, .inl ⟨rfl, h1, rfl⟩⟩
      · exact ⟨_, false, h2, .inr ⟨rfl, h1⟩⟩
    clear hres
    have hSa : Wat w2 b zs.length r bo mk ∧ Wbx w2 w.heap.size x ∧ Wbx w2 (w.heap.size + 1) ([], 0) ∧ Outl w2 bo zs m9 ∧ Below w.heap.size w w2 := ⟨hS0.1.later hb, hS0.2.1.later hb, hS0.2.2.1.later hb, hS0.2.2.2.1.later hb, hS0.2.2.2.2.trans (hb.mono hS0.2.2.2.2.size)⟩
    refine hK'.out _ _ hSa fun _ => ?_
    clear hK' hS0 hb
    unfold arrV cells8
    refine wpAnyH_take (i := 8) (v := ?vA18) rfl (by kernel_rfl) (by kernel_rfl) (by kernel_rfl) (fun _ _ _ h => h) (.inl ⟨by first | kernel_rfl | rfl, ?yA18⟩) hSa ?_
    case yA18 =>
      intro w' hS
      (clear hS)
      go_simp
      try with_reducible rfl
    refine wpAnyH_take (i := 9) (v := ?vA19) rfl (by kernel_rfl) (by kernel_rfl) (by kernel_rfl) (fun _ _ _ h => h) (.inl ⟨by first | kernel_rfl | rfl, ?yA19⟩) hSa ?_
    case yA19 =>
      intro w' hS
      (clear hS)
      go_simp
      try with_reducible rfl
    refine wpAnyH_take (i := 10) (v := ?vA110) rfl (by kernel_rfl) (by kernel_rfl) (by kernel_rfl) (fun _ _ _ h => h) (.inl ⟨by first | kernel_rfl | rfl, ?yA110⟩) hSa ?_
    case yA110 =>
      intro w' hS
      (clear hS)
      go_simp
      try with_reducible rfl
    try simp only [Act.put, List.getElem_toArray, List.getElem_cons_zero, List.getElem_cons_succ, List.setIfInBounds_toArray, List.set_cons_zero, List.set_cons_succ]
    refine wpAnyH_ready (rs := [11]) (by kernel_rfl) (by simp) ?_
    refine AllReadyH.cons rfl (fun K' hK' => ?_) AllReadyH.nil
    rw [if_pos (by first | kernel_rfl | rfl)]
    go_simp
    have hb8 : Below w2.heap.size w2 (w2.alloc (.cells #[.int .u8 0, .int .u8 0, .int .u8 0, .int .u8 0, .int .u8 0, .int .u8 0, .int .u8 0, .int .u8 0] 64)) := (Below.refl _ _).alloc (Nat.le_refl _) _
    have hA8 : Arr (w2.alloc (.cells #[.int .u8 0, .int .u8 0, .int .u8 0, .int .u8 0, .int .u8 0, .int .u8 0, .int .u8 0, .int .u8 0] 64)) w2.heap.size [] := Arr.new w2 []
    have hSb : Wat (w2.alloc (.cells #[.int .u8 0, .int .u8 0, .int .u8 0, .int .u8 0, .int .u8 0, .int .u8 0, .int .u8 0, .int .u8 0] 64)) b zs.length r bo mk ∧ Wbx (w2.alloc (.cells #[.int .u8 0, .int .u8 0, .int .u8 0, .int .u8 0, .int .u8 0, .int .u8 0, .int .u8 0, .int .u8 0] 64)) w.heap.size x ∧ Wbx (w2.alloc (.cells #[.int .u8 0, .int .u8 0, .int .u8 0, .int .u8 0, .int .u8 0, .int .u8 0, .int .u8 0, .int .u8 0] 64)) (w.heap.size + 1) ([], 0) ∧ Outl (w2.alloc (.cells #[.int .u8 0, .int .u8 0, .int .u8 0, .int .u8 0, .int .u8 0, .int .u8 0, .int .u8 0, .int .u8 0] 64)) bo zs m9 ∧ Below w.heap.size w (w2.alloc (.cells #[.int .u8 0, .int .u8 0, .int .u8 0, .int .u8 0, .int .u8 0, .int .u8 0, .int .u8 0, .int .u8 0] 64)) := ⟨hSa.1.later hb8, hSa.2.1.later hb8, hSa.2.2.1.later hb8, hSa.2.2.2.1.later hb8, hSa.2.2.2.2.trans (hb8.mono hSa.2.2.2.2.size)⟩
    refine hK'.out _ _ hSb fun _ => ?_
    have hg9 : w.heap.size + 1 < w2.heap.size := hSa.2.2.1.lt
    obtain ⟨g, hg⟩ : ∃ g, w2.heap.size = g := ⟨_, rfl⟩
    obtain ⟨W4, hW4⟩ : ∃ W4, w2.alloc (.cells #[.int .u8 0, .int .u8 0, .int .u8 0, .int .u8 0, .int .u8 0, .int .u8 0, .int .u8 0, .int .u8 0] 64) = W4 := ⟨_, rfl⟩
    rw [hW4] at hSb hA8
    rw [hg] at hA8 hg9
    first | rw [hW4] | skip
    first | rw [hg] | skip
    have hgb : b < g := by rw [← hg]; exact hSa.1.lt
    have hgo : bo < g := by rw [← hg]; exact hSa.2.2.2.1.lt
    clear hK' hSa hb8 hW4 hg
    have az := hA8
    have ac0 := hA8.cell (i := 0) (by omega)
    have ac1 := hA8.cell (i := 1) (by omega)
    have ac2 := hA8.cell (i := 2) (by omega)
    have ac3 := hA8.cell (i := 3) (by omega)
    have ac4 := hA8.cell (i := 4) (by omega)
    have ac5 := hA8.cell (i := 5) (by omega)
    have ac6 := hA8.cell (i := 6) (by omega)
    have ac7 := hA8.cell (i := 7) (by omega)
    have af0 := hA8.frozen 0
    have af1 := hA8.frozen 1
    have af2 := hA8.frozen 2
    have af3 := hA8.frozen 3
    have af4 := hA8.frozen 4
    have af5 := hA8.frozen 5
    have af6 := hA8.frozen 6
    have af7 := hA8.frozen 7
    have hT : (Wat (store8 W4 g y) b zs.length r bo mk ∧ Wbx (store8 W4 g y) w.heap.size x ∧ Arr (store8 W4 g y) g y ∧ Below w.heap.size w (store8 W4 g y)) ∧ (w.heap.size + 1 < g) ∧ Wbx (store8 W4 g y) (w.heap.size + 1) ([], 0) :=
      ⟨⟨hSb.1.kept (grownBy_set8 _ _ y) (by simp; omega), hSb.2.1.kept (grownBy_set8 _ _ y) (by simp; omega), hA8.stored8 y, below_set8 y hSb.2.2.2.2 (by omega) (Nat.le_refl _)⟩, hg9, hSb.2.2.1.kept (grownBy_set8 _ _ y) (by simp; omega)⟩
    have hSd : Wat (store8 W4 g y) b zs.length r bo mk ∧ Wbx (store8 W4 g y) w.heap.size x ∧ Wbx (store8 W4 g y) (w.heap.size + 1) ([], 0) ∧ Outl (store8 W4 g y) bo zs m9 ∧ Below w.heap.size w (store8 W4 g y) := ⟨hT.1.1, hT.1.2.1, hT.2.2, hSb.2.2.2.1.kept (grownBy_set8 _ _ y) (by simp; omega), hT.1.2.2.2⟩
    refine wpAnyH_ready (rs := [12]) (by kernel_rfl) (by simp) ?_
    refine AllReadyH.cons rfl (fun K' hK' => ?_) AllReadyH.nil
    rw [if_pos (by first | kernel_rfl | rfl)]
    go_simp
    refine hK'.out _ _ hSd fun _ => ?_
    refine wpAnyH_take (i := 13) (v := ?vA913) rfl (by kernel_rfl) (by kernel_rfl) (by kernel_rfl) (fun _ _ _ h => h) (.inl ⟨by first | kernel_rfl | rfl, ?yA913⟩) hSd ?_
    case yA913 =>
      intro w' hS
      (clear hS)
      go_simp
      try with_reducible rfl
    try simp only [Act.put, List.getElem_toArray, List.getElem_cons_zero, List.getElem_cons_succ, List.setIfInBounds_toArray, List.set_cons_zero, List.set_cons_succ]
    clear hK' ac0 af0 ac1 af1 ac2 af2 ac3 af3 ac4 af4 ac5 af5 ac6 af6 ac7 af7 az hA8 hSd hSb
    obtain ⟨W5, hW5⟩ : ∃ W5, store8 W4 g y = W5 := ⟨_, rfl⟩
    rw [hW5] at hT
    unfold store8 at hW5
    rw [hW5]
    clear hW5
    obtain ⟨hS4, hA4, hR⟩ : (Wat W5 b zs.length r bo mk ∧ Wbx W5 w.heap.size x ∧ Arr W5 g y ∧ Below w.heap.size w W5) ∧ (w.heap.size + 1 < g) ∧ Wbx W5 (w.heap.size + 1) ([], 0) := hT
    refine wpAnyH_done (by kernel_rfl) ?_ _
    go_wp2_with fail
    refine wp_region_held_drew (S := fun w' => Wat w' b zs.length r bo mk ∧ Wbx w' w.heap.size x ∧ Arr w' g y ∧ Below w.heap.size w w') hfw ⟨hS4.1, hS4.2.1, hS4.2.2.1, hS4.2.2.2.drew⟩ ?_
    intro hS6
    replace hR : Wbx W5.drew (w.heap.size + 1) ([], 0) := hR
    obtain ⟨W6, hW6⟩ : ∃ W6, W5.drew = W6 := ⟨_, rfl⟩
    rw [hW6] at hS6 hR ⊢
    clear hW6 hS4
    cases ob
    · refine wpAnyH_take (i := 0) (v := ?vAf10) rfl (by kernel_rfl) (by kernel_rfl) (by kernel_rfl) (fun _ _ _ h => h) (.inl ⟨by first | kernel_rfl | rfl, ?yAf10⟩) hS6 ?_
      case yAf10 =>
        intro w' hS
        (have k0 := hS.1.c0; have z0 := hS.2.2.1.cell (i := 0) (by omega); have z1 := hS.2.2.1.cell (i := 1) (by omega); have z2 := hS.2.2.1.cell (i := 2) (by omega); have z3 := hS.2.2.1.cell (i := 3) (by omega); have z4 := hS.2.2.1.cell (i := 4) (by omega); have z5 := hS.2.2.1.cell (i := 5) (by omega); have z6 := hS.2.2.1.cell (i := 6) (by omega); have z7 := hS.2.2.1.cell (i := 7) (by omega); clear hS)
        go_simp
        try with_reducible rfl
      refine wpAnyH_take (i := 1) (v := ?vAf11) rfl (by kernel_rfl) (by kernel_rfl) (by kernel_rfl) (fun _ _ _ h => h) (.inl ⟨by first | kernel_rfl | rfl, ?yAf11⟩) hS6 ?_
      case yAf11 =>
        intro w' hS
        (have k0 := hS.1.c0; have z0 := hS.2.2.1.cell (i := 0) (by omega); have z1 := hS.2.2.1.cell (i := 1) (by omega); have z2 := hS.2.2.1.cell (i := 2) (by omega); have z3 := hS.2.2.1.cell (i := 3) (by omega); have z4 := hS.2.2.1.cell (i := 4) (by omega); have z5 := hS.2.2.1.cell (i := 5) (by omega); have z6 := hS.2.2.1.cell (i := 6) (by omega); have z7 := hS.2.2.1.cell (i := 7) (by omega); clear hS)
        go_simp
        try with_reducible rfl
      refine wpAnyH_take (i := 2) (v := ?vAf12) rfl (by kernel_rfl) (by kernel_rfl) (by kernel_rfl) (fun _ _ _ h => h) (.inl ⟨by first | kernel_rfl | rfl, ?yAf12⟩) hS6 ?_
      case yAf12 =>
        intro w' hS
        (have k0 := hS.1.c0; have z0 := hS.2.2.1.cell (i := 0) (by omega); have z1 := hS.2.2.1.cell (i := 1) (by omega); have z2 := hS.2.2.1.cell (i := 2) (by omega); have z3 := hS.2.2.1.cell (i := 3) (by omega); have z4 := hS.2.2.1.cell (i := 4) (by omega); have z5 := hS.2.2.1.cell (i := 5) (by omega); have z6 := hS.2.2.1.cell (i := 6) (by omega); have z7 := hS.2.2.1.cell (i := 7) (by omega); clear hS)
        go_simp
        try with_reducible rfl
      refine wpAnyH_take (i := 3) (v := ?vAf13) rfl (by kernel_rfl) (by kernel_rfl) (by kernel_rfl) (fun _ _ _ h => h) (.inl ⟨by first | kernel_rfl | rfl, ?yAf13⟩) hS6 ?_
      case yAf13 =>
        intro w' hS
        (have k0 := hS.1.c0; have z0 := hS.2.2.1.cell (i := 0) (by omega); have z1 := hS.2.2.1.cell (i := 1) (by omega); have z2 := hS.2.2.1.cell (i := 2) (by omega); have z3 := hS.2.2.1.cell (i := 3) (by omega); have z4 := hS.2.2.1.cell (i := 4) (by omega); have z5 := hS.2.2.1.cell (i := 5) (by omega); have z6 := hS.2.2.1.cell (i := 6) (by omega); have z7 := hS.2.2.1.cell (i := 7) (by omega); clear hS)
        go_simp
        try with_reducible rfl
      refine wpAnyH_take (i := 4) (v := ?vAf14) rfl (by kernel_rfl) (by kernel_rfl) (by kernel_rfl) (fun _ _ _ h => h) (.inl ⟨by first | kernel_rfl | rfl, ?yAf14⟩) hS6 ?_
      case yAf14 =>
        intro w' hS
        (have k0 := hS.1.c0; have z0 := hS.2.2.1.cell (i := 0) (by omega); have z1 := hS.2.2.1.cell (i := 1) (by omega); have z2 := hS.2.2.1.cell (i := 2) (by omega); have z3 := hS.2.2.1.cell (i := 3) (by omega); have z4 := hS.2.2.1.cell (i := 4) (by omega); have z5 := hS.2.2.1.cell (i := 5) (by omega); have z6 := hS.2.2.1.cell (i := 6) (by omega); have z7 := hS.2.2.1.cell (i := 7) (by omega); clear hS)
        go_simp
        try with_reducible rfl
      try simp only [Act.put, List.getElem_toArray, List.getElem_cons_zero, List.getElem_cons_succ, List.setIfInBounds_toArray, List.set_cons_zero, List.set_cons_succ]
      refine wpAnyH_take (i := 5) (v := undef) rfl (by kernel_rfl) (by kernel_rfl) (by kernel_rfl) (fun _ _ _ h => h) (.inr ⟨by kernel_rfl, rfl⟩) hS6 ?_
      refine wpAnyH_take (i := 6) (v := undef) rfl (by kernel_rfl) (by kernel_rfl) (by kernel_rfl) (fun _ _ _ h => h) (.inr ⟨by kernel_rfl, rfl⟩) hS6 ?_
      refine wpAnyH_take (i := 7) (v := undef) rfl (by kernel_rfl) (by kernel_rfl) (by kernel_rfl) (fun _ _ _ h => h) (.inr ⟨by kernel_rfl, rfl⟩) hS6 ?_
      refine wpAnyH_take (i := 8) (v := undef) rfl (by kernel_rfl) (by kernel_rfl) (by kernel_rfl) (fun _ _ _ h => h) (.inr ⟨by kernel_rfl, rfl⟩) hS6 ?_
      refine wpAnyH_take (i := 9) (v := undef) rfl (by kernel_rfl) (by kernel_rfl) (by kernel_rfl) (fun _ _ _ h => h) (.inr ⟨by kernel_rfl, rfl⟩) hS6 ?_
      refine wpAnyH_take (i := 10) (v := undef) rfl (by kernel_rfl) (by kernel_rfl) (by kernel_rfl) (fun _ _ _ h => h) (.inr ⟨by kernel_rfl, rfl⟩) hS6 ?_
      refine wpAnyH_take (i := 11) (v := undef) rfl (by kernel_rfl) (by kernel_rfl) (by kernel_rfl) (fun _ _ _ h => h) (.inr ⟨by kernel_rfl, rfl⟩) hS6 ?_
      refine wpAnyH_take (i := 12) (v := undef) rfl (by kernel_rfl) (by kernel_rfl) (by kernel_rfl) (fun _ _ _ h => h) (.inr ⟨by kernel_rfl, rfl⟩) hS6 ?_
      try simp only [Act.put, List.getElem_toArray, List.getElem_cons_zero, List.getElem_cons_succ, List.setIfInBounds_toArray, List.set_cons_zero, List.set_cons_succ]
      refine wpAnyH_take (i := 13) (v := (.bool false)) rfl (by kernel_rfl) (by kernel_rfl) (by kernel_rfl) (fun _ _ _ h => h) (.inl ⟨by first | kernel_rfl | rfl, ?yAf213⟩) hS6 ?_
      case yAf213 =>
        intro w' hS
        (clear hS)
        go_simp
        first | done | (simp; done) | (simp; omega) | omega | (simp [*]; done)
      have hR2 : Wbx W6 (w.heap.size + 1) ([], 0) := hR
      have fin := Wbx.stored9 (y, j) hR2
      have hBz := hS6.2.2.2
      have rf0 := hR.frozen 0
      have rf1 := hR.frozen 1
      have rf2 := hR.frozen 2
      have rf3 := hR.frozen 3
      have rf4 := hR.frozen 4
      have rf5 := hR.frozen 5
      have rf6 := hR.frozen 6
      have rf7 := hR.frozen 7
      have rf8 := hR.frozen 8
      have rc0 := hR.c0
      have rc1 := hR.cs (i := 0) (by omega)
      have rc2 := hR.cs (i := 1) (by omega)
      have rc3 := hR.cs (i := 2) (by omega)
      have rc4 := hR.cs (i := 3) (by omega)
      have rc5 := hR.cs (i := 4) (by omega)
      have rc6 := hR.cs (i := 5) (by omega)
      have rc7 := hR.cs (i := 6) (by omega)
      have rc8 := hR.cs (i := 7) (by omega)
      refine wpAnyH_ready (rs := [14]) (by kernel_rfl) (by simp) ?_
      refine AllReadyH.cons rfl (fun K' hK' => ?_) AllReadyH.nil
      rw [if_pos (by first | kernel_rfl | rfl)]
      go_simp
      refine hK'.out _ _ ⟨hS6.1.kept (grownBy_set9 _ _ (y, j)) (by simp; omega), hS6.2.1.kept (grownBy_set9 _ _ (y, j)) (by simp), hS6.2.2.1.kept (grownBy_set9 _ _ (y, j)) (by simp; omega), below_set9 (y, j) hS6.2.2.2 (by omega) (Nat.le_refl _)⟩ fun hS9 => ?_
      refine wpAnyH_take (i := 15) (v := ?vAE1X15) rfl (by kernel_rfl) (by kernel_rfl) (by kernel_rfl) (fun _ _ _ h => h) (.inl ⟨by first | kernel_rfl | rfl, ?yAE1X15⟩) hS9 ?_
      case yAE1X15 =>
        intro w' hS
        (clear hS)
        go_simp
        try with_reducible rfl
      try simp only [Act.put, List.getElem_toArray, List.getElem_cons_zero, List.getElem_cons_succ, List.setIfInBounds_toArray, List.set_cons_zero, List.set_cons_succ]
      clear hK' rf0 rc0 rf1 rc1 rf2 rc2 rf3 rc3 rf4 rc4 rf5 rc5 rf6 rc6 rf7 rc7 rf8 rc8
      refine wpAnyH_done (by kernel_rfl) ?_ _
      have d0 := fin.c0
      have e0 := fin.cs (i := 0) (by omega)
      have e1 := fin.cs (i := 1) (by omega)
      have e2 := fin.cs (i := 2) (by omega)
      have e3 := fin.cs (i := 3) (by omega)
      have e4 := fin.cs (i := 4) (by omega)
      have e5 := fin.cs (i := 5) (by omega)
      have e6 := fin.cs (i := 6) (by omega)
      have e7 := fin.cs (i := 7) (by omega)
      go_wp2
      refine bodyPost_ret (v := .tuple #[wV (y, j), .bool false]) (by unfold store9 at d0 e0 e1 e2 e3 e4 e5 e6 e7; simp [results, Try.results102, go_sem, wV, wC, d0, e0, e1, e2, e3, e4, e5, e6, e7]) rfl ⟨.inr ⟨fun hm => (by have := hy.resolve_left (by simp); exact this.2 hm.2.2), (y, j), rfl⟩, hS9.2.2.2⟩
    · refine wpAnyH_take (i := 0) (v := ?vAg10) rfl (by kernel_rfl) (by kernel_rfl) (by kernel_rfl) (fun _ _ _ h => h) (.inl ⟨by first | kernel_rfl | rfl, ?yAg10⟩) hS6 ?_
      case yAg10 =>
        intro w' hS
        (have k0 := hS.1.c0; have k1 := hS.1.c1; have kx := hS.2.1.c0; have z0 := hS.2.2.1.cell (i := 0) (by omega); have z1 := hS.2.2.1.cell (i := 1) (by omega); have z2 := hS.2.2.1.cell (i := 2) (by omega); have z3 := hS.2.2.1.cell (i := 3) (by omega); have z4 := hS.2.2.1.cell (i := 4) (by omega); have z5 := hS.2.2.1.cell (i := 5) (by omega); have z6 := hS.2.2.1.cell (i := 6) (by omega); have z7 := hS.2.2.1.cell (i := 7) (by omega); clear hS)
        go_simp
        try with_reducible rfl
      refine wpAnyH_take (i := 1) (v := ?vAg11) rfl (by kernel_rfl) (by kernel_rfl) (by kernel_rfl) (fun _ _ _ h => h) (.inl ⟨by first | kernel_rfl | rfl, ?yAg11⟩) hS6 ?_
      case yAg11 =>
        intro w' hS
        (have k0 := hS.1.c0; have k1 := hS.1.c1; have kx := hS.2.1.c0; have z0 := hS.2.2.1.cell (i := 0) (by omega); have z1 := hS.2.2.1.cell (i := 1) (by omega); have z2 := hS.2.2.1.cell (i := 2) (by omega); have z3 := hS.2.2.1.cell (i := 3) (by omega); have z4 := hS.2.2.1.cell (i := 4) (by omega); have z5 := hS.2.2.1.cell (i := 5) (by omega); have z6 := hS.2.2.1.cell (i := 6) (by omega); have z7 := hS.2.2.1.cell (i := 7) (by omega); clear hS)
        go_simp
        try with_reducible rfl
      refine wpAnyH_take (i := 2) (v := ?vAg12) rfl (by kernel_rfl) (by kernel_rfl) (by kernel_rfl) (fun _ _ _ h => h) (.inl ⟨by first | kernel_rfl | rfl, ?yAg12⟩) hS6 ?_
      case yAg12 =>
        intro w' hS
        (have k0 := hS.1.c0; have k1 := hS.1.c1; have kx := hS.2.1.c0; have z0 := hS.2.2.1.cell (i := 0) (by omega); have z1 := hS.2.2.1.cell (i := 1) (by omega); have z2 := hS.2.2.1.cell (i := 2) (by omega); have z3 := hS.2.2.1.cell (i := 3) (by omega); have z4 := hS.2.2.1.cell (i := 4) (by omega); have z5 := hS.2.2.1.cell (i := 5) (by omega); have z6 := hS.2.2.1.cell (i := 6) (by omega); have z7 := hS.2.2.1.cell (i := 7) (by omega); clear hS)
        go_simp
        try with_reducible rfl
      refine wpAnyH_take (i := 3) (v := ?vAg13) rfl (by kernel_rfl) (by kernel_rfl) (by kernel_rfl) (fun _ _ _ h => h) (.inl ⟨by first | kernel_rfl | rfl, ?yAg13⟩) hS6 ?_
      case yAg13 =>
        intro w' hS
        (have k0 := hS.1.c0; have k1 := hS.1.c1; have kx := hS.2.1.c0; have z0 := hS.2.2.1.cell (i := 0) (by omega); have z1 := hS.2.2.1.cell (i := 1) (by omega); have z2 := hS.2.2.1.cell (i := 2) (by omega); have z3 := hS.2.2.1.cell (i := 3) (by omega); have z4 := hS.2.2.1.cell (i := 4) (by omega); have z5 := hS.2.2.1.cell (i := 5) (by omega); have z6 := hS.2.2.1.cell (i := 6) (by omega); have z7 := hS.2.2.1.cell (i := 7) (by omega); clear hS)
        go_simp
        try with_reducible rfl
      refine wpAnyH_take (i := 4) (v := ?vAg14) rfl (by kernel_rfl) (by kernel_rfl) (by kernel_rfl) (fun _ _ _ h => h) (.inl ⟨by first | kernel_rfl | rfl, ?yAg14⟩) hS6 ?_
      case yAg14 =>
        intro w' hS
        (have k0 := hS.1.c0; have k1 := hS.1.c1; have kx := hS.2.1.c0; have z0 := hS.2.2.1.cell (i := 0) (by omega); have z1 := hS.2.2.1.cell (i := 1) (by omega); have z2 := hS.2.2.1.cell (i := 2) (by omega); have z3 := hS.2.2.1.cell (i := 3) (by omega); have z4 := hS.2.2.1.cell (i := 4) (by omega); have z5 := hS.2.2.1.cell (i := 5) (by omega); have z6 := hS.2.2.1.cell (i := 6) (by omega); have z7 := hS.2.2.1.cell (i := 7) (by omega); clear hS)
        go_simp
        try with_reducible rfl
      refine wpAnyH_take (i := 5) (v := ?vAg15) rfl (by kernel_rfl) (by kernel_rfl) (by kernel_rfl) (fun _ _ _ h => h) (.inl ⟨by first | kernel_rfl | rfl, ?yAg15⟩) hS6 ?_
      case yAg15 =>
        intro w' hS
        (have k0 := hS.1.c0; have k1 := hS.1.c1; have kx := hS.2.1.c0; have z0 := hS.2.2.1.cell (i := 0) (by omega); have z1 := hS.2.2.1.cell (i := 1) (by omega); have z2 := hS.2.2.1.cell (i := 2) (by omega); have z3 := hS.2.2.1.cell (i := 3) (by omega); have z4 := hS.2.2.1.cell (i := 4) (by omega); have z5 := hS.2.2.1.cell (i := 5) (by omega); have z6 := hS.2.2.1.cell (i := 6) (by omega); have z7 := hS.2.2.1.cell (i := 7) (by omega); clear hS)
        go_simp
        try with_reducible rfl
      refine wpAnyH_take (i := 6) (v := ?vAg16) rfl (by kernel_rfl) (by kernel_rfl) (by kernel_rfl) (fun _ _ _ h => h) (.inl ⟨by first | kernel_rfl | rfl, ?yAg16⟩) hS6 ?_
      case yAg16 =>
        intro w' hS
        (have k0 := hS.1.c0; have k1 := hS.1.c1; have kx := hS.2.1.c0; have z0 := hS.2.2.1.cell (i := 0) (by omega); have z1 := hS.2.2.1.cell (i := 1) (by omega); have z2 := hS.2.2.1.cell (i := 2) (by omega); have z3 := hS.2.2.1.cell (i := 3) (by omega); have z4 := hS.2.2.1.cell (i := 4) (by omega); have z5 := hS.2.2.1.cell (i := 5) (by omega); have z6 := hS.2.2.1.cell (i := 6) (by omega); have z7 := hS.2.2.1.cell (i := 7) (by omega); clear hS)
        go_simp
        try with_reducible rfl
      refine wpAnyH_take (i := 7) (v := ?vAg17) rfl (by kernel_rfl) (by kernel_rfl) (by kernel_rfl) (fun _ _ _ h => h) (.inl ⟨by first | kernel_rfl | rfl, ?yAg17⟩) hS6 ?_
      case yAg17 =>
        intro w' hS
        (have k0 := hS.1.c0; have k1 := hS.1.c1; have kx := hS.2.1.c0; have z0 := hS.2.2.1.cell (i := 0) (by omega); have z1 := hS.2.2.1.cell (i := 1) (by omega); have z2 := hS.2.2.1.cell (i := 2) (by omega); have z3 := hS.2.2.1.cell (i := 3) (by omega); have z4 := hS.2.2.1.cell (i := 4) (by omega); have z5 := hS.2.2.1.cell (i := 5) (by omega); have z6 := hS.2.2.1.cell (i := 6) (by omega); have z7 := hS.2.2.1.cell (i := 7) (by omega); clear hS)
        go_simp
        try with_reducible rfl
      refine wpAnyH_take (i := 8) (v := ?vAg18) rfl (by kernel_rfl) (by kernel_rfl) (by kernel_rfl) (fun _ _ _ h => h) (.inl ⟨by first | kernel_rfl | rfl, ?yAg18⟩) hS6 ?_
      case yAg18 =>
        intro w' hS
        (have k0 := hS.1.c0; have k1 := hS.1.c1; have kx := hS.2.1.c0; have z0 := hS.2.2.1.cell (i := 0) (by omega); have z1 := hS.2.2.1.cell (i := 1) (by omega); have z2 := hS.2.2.1.cell (i := 2) (by omega); have z3 := hS.2.2.1.cell (i := 3) (by omega); have z4 := hS.2.2.1.cell (i := 4) (by omega); have z5 := hS.2.2.1.cell (i := 5) (by omega); have z6 := hS.2.2.1.cell (i := 6) (by omega); have z7 := hS.2.2.1.cell (i := 7) (by omega); clear hS)
        go_simp
        try with_reducible rfl
      refine wpAnyH_take (i := 9) (v := ?vAg19) rfl (by kernel_rfl) (by kernel_rfl) (by kernel_rfl) (fun _ _ _ h => h) (.inl ⟨by first | kernel_rfl | rfl, ?yAg19⟩) hS6 ?_
      case yAg19 =>
        intro w' hS
        (have k0 := hS.1.c0; have k1 := hS.1.c1; have kx := hS.2.1.c0; have z0 := hS.2.2.1.cell (i := 0) (by omega); have z1 := hS.2.2.1.cell (i := 1) (by omega); have z2 := hS.2.2.1.cell (i := 2) (by omega); have z3 := hS.2.2.1.cell (i := 3) (by omega); have z4 := hS.2.2.1.cell (i := 4) (by omega); have z5 := hS.2.2.1.cell (i := 5) (by omega); have z6 := hS.2.2.1.cell (i := 6) (by omega); have z7 := hS.2.2.1.cell (i := 7) (by omega); clear hS)
        go_simp
        try with_reducible rfl
      refine wpAnyH_take (i := 10) (v := ?vAg110) rfl (by kernel_rfl) (by kernel_rfl) (by kernel_rfl) (fun _ _ _ h => h) (.inl ⟨by first | kernel_rfl | rfl, ?yAg110⟩) hS6 ?_
      case yAg110 =>
        intro w' hS
        (have k0 := hS.1.c0; have k1 := hS.1.c1; have kx := hS.2.1.c0; have z0 := hS.2.2.1.cell (i := 0) (by omega); have z1 := hS.2.2.1.cell (i := 1) (by omega); have z2 := hS.2.2.1.cell (i := 2) (by omega); have z3 := hS.2.2.1.cell (i := 3) (by omega); have z4 := hS.2.2.1.cell (i := 4) (by omega); have z5 := hS.2.2.1.cell (i := 5) (by omega); have z6 := hS.2.2.1.cell (i := 6) (by omega); have z7 := hS.2.2.1.cell (i := 7) (by omega); clear hS)
        go_simp
        try with_reducible rfl
      refine wpAnyH_take (i := 11) (v := ?vAg111) rfl (by kernel_rfl) (by kernel_rfl) (by kernel_rfl) (fun _ _ _ h => h) (.inl ⟨by first | kernel_rfl | rfl, ?yAg111⟩) hS6 ?_
      case yAg111 =>
        intro w' hS
        (have k0 := hS.1.c0; have k1 := hS.1.c1; have kx := hS.2.1.c0; have z0 := hS.2.2.1.cell (i := 0) (by omega); have z1 := hS.2.2.1.cell (i := 1) (by omega); have z2 := hS.2.2.1.cell (i := 2) (by omega); have z3 := hS.2.2.1.cell (i := 3) (by omega); have z4 := hS.2.2.1.cell (i := 4) (by omega); have z5 := hS.2.2.1.cell (i := 5) (by omega); have z6 := hS.2.2.1.cell (i := 6) (by omega); have z7 := hS.2.2.1.cell (i := 7) (by omega); clear hS)
        go_simp
        try with_reducible rfl
      try simp only [Act.put, List.getElem_toArray, List.getElem_cons_zero, List.getElem_cons_succ, List.setIfInBounds_toArray, List.set_cons_zero, List.set_cons_succ]
      refine wpAnyH_ready (rs := [12]) (by kernel_rfl) (by simp) ?_
      refine AllReadyH.cons rfl (fun K' hK' => ?_) AllReadyH.nil
      rw [if_pos (by first | kernel_rfl | rfl)]
      go_simp
      refine (areNear_c zs.length r x.2 j _ hr (by omega) (by omega)).mono ?_
      rintro e w7 ⟨rfl, hb7⟩
      have hS7 : Wat w7 b zs.length r bo mk ∧ Wbx w7 w.heap.size x ∧ Arr w7 g y ∧ Below w.heap.size w w7 := ⟨hS6.1.later hb7, hS6.2.1.later hb7, hS6.2.2.1.later hb7, hS6.2.2.2.trans (hb7.mono hS6.2.2.2.size)⟩
      replace hR := hR.later hb7
      refine hK'.out _ _ hS7 fun _ => ?_
      clear hK' hS6 hb7
      refine wpAnyH_take (i := 13) (v := (.bool (nearB r x.2 j))) rfl (by kernel_rfl) (by kernel_rfl) (by kernel_rfl) (fun _ _ _ h => h) (.inl ⟨by first | kernel_rfl | rfl, ?yAg213⟩) hS7 ?_
      case yAg213 =>
        intro w' hS
        (clear hS)
        go_simp
        first | done | (simp; done) | (simp; omega) | omega | (simp [*]; done)
      have hyy := hy.resolve_right (by simp)
      obtain ⟨_, hop, rfl⟩ := hyy
      obtain ⟨y, hyd⟩ : ∃ y, stepL zs x.1 (j : Int) = y := ⟨_, rfl⟩
      have Hyd := Lib.hid hyd
      rw [hyd] at hS7 ⊢
      clear hyd hy
      cases hnr : nearB r x.2 j
      · have hR2 : Wbx w7 (w.heap.size + 1) ([], 0) := hR
        have fin := Wbx.stored9 (y, j) hR2
        have hBz := hS7.2.2.2
        have rf0 := hR.frozen 0
        have rf1 := hR.frozen 1
        have rf2 := hR.frozen 2
        have rf3 := hR.frozen 3
        have rf4 := hR.frozen 4
        have rf5 := hR.frozen 5
        have rf6 := hR.frozen 6
        have rf7 := hR.frozen 7
        have rf8 := hR.frozen 8
        have rc0 := hR.c0
        have rc1 := hR.cs (i := 0) (by omega)
        have rc2 := hR.cs (i := 1) (by omega)
        have rc3 := hR.cs (i := 2) (by omega)
        have rc4 := hR.cs (i := 3) (by omega)
        have rc5 := hR.cs (i := 4) (by omega)
        have rc6 := hR.cs (i := 5) (by omega)
        have rc7 := hR.cs (i := 6) (by omega)
        have rc8 := hR.cs (i := 7) (by omega)
        refine wpAnyH_ready (rs := [14]) (by kernel_rfl) (by simp) ?_
        refine AllReadyH.cons rfl (fun K' hK' => ?_) AllReadyH.nil
        rw [if_pos (by first | kernel_rfl | rfl)]
        go_simp
        refine hK'.out _ _ ⟨hS7.1.kept (grownBy_set9 _ _ (y, j)) (by simp; omega), hS7.2.1.kept (grownBy_set9 _ _ (y, j)) (by simp), hS7.2.2.1.kept (grownBy_set9 _ _ (y, j)) (by simp; omega), below_set9 (y, j) hS7.2.2.2 (by omega) (Nat.le_refl _)⟩ fun hS9 => ?_
        refine wpAnyH_take (i := 15) (v := ?vAE2X15) rfl (by kernel_rfl) (by kernel_rfl) (by kernel_rfl) (fun _ _ _ h => h) (.inl ⟨by first | kernel_rfl | rfl, ?yAE2X15⟩) hS9 ?_
        case yAE2X15 =>
          intro w' hS
          (clear hS)
          go_simp
          try with_reducible rfl
        try simp only [Act.put, List.getElem_toArray, List.getElem_cons_zero, List.getElem_cons_succ, List.setIfInBounds_toArray, List.set_cons_zero, List.set_cons_succ]
        clear hK' rf0 rc0 rf1 rc1 rf2 rc2 rf3 rc3 rf4 rc4 rf5 rc5 rf6 rc6 rf7 rc7 rf8 rc8
        refine wpAnyH_done (by kernel_rfl) ?_ _
        have d0 := fin.c0
        have e0 := fin.cs (i := 0) (by omega)
        have e1 := fin.cs (i := 1) (by omega)
        have e2 := fin.cs (i := 2) (by omega)
        have e3 := fin.cs (i := 3) (by omega)
        have e4 := fin.cs (i := 4) (by omega)
        have e5 := fin.cs (i := 5) (by omega)
        have e6 := fin.cs (i := 6) (by omega)
        have e7 := fin.cs (i := 7) (by omega)
        go_wp2
        refine bodyPost_ret (v := .tuple #[wV (y, j), .bool false]) (by unfold store9 at d0 e0 e1 e2 e3 e4 e5 e6 e7; simp [results, Try.results102, go_sem, wV, wC, d0, e0, e1, e2, e3, e4, e5, e6, e7]) rfl ⟨.inr ⟨fun hm => (by have := hm.2.1; rw [hnr] at this; cases this), (y, j), rfl⟩, hS9.2.2.2⟩
      · have hR2 : Wbx w7 (w.heap.size + 1) ([], 0) := hR
        have fin := Wbx.stored9 (y, j) hR2
        have hBz := hS7.2.2.2
        have rf0 := hR.frozen 0
        have rf1 := hR.frozen 1
        have rf2 := hR.frozen 2
        have rf3 := hR.frozen 3
        have rf4 := hR.frozen 4
        have rf5 := hR.frozen 5
        have rf6 := hR.frozen 6
        have rf7 := hR.frozen 7
        have rf8 := hR.frozen 8
        have rc0 := hR.c0
        have rc1 := hR.cs (i := 0) (by omega)
        have rc2 := hR.cs (i := 1) (by omega)
        have rc3 := hR.cs (i := 2) (by omega)
        have rc4 := hR.cs (i := 3) (by omega)
        have rc5 := hR.cs (i := 4) (by omega)
        have rc6 := hR.cs (i := 5) (by omega)
        have rc7 := hR.cs (i := 6) (by omega)
        have rc8 := hR.cs (i := 7) (by omega)
        refine wpAnyH_ready (rs := [14]) (by kernel_rfl) (by simp) ?_
        refine AllReadyH.cons rfl (fun K' hK' => ?_) AllReadyH.nil
        rw [if_pos (by first | kernel_rfl | rfl)]
        go_simp
        refine hK'.out _ _ ⟨hS7.1.kept (grownBy_set9 _ _ (y, j)) (by simp; omega), hS7.2.1.kept (grownBy_set9 _ _ (y, j)) (by simp), hS7.2.2.1.kept (grownBy_set9 _ _ (y, j)) (by simp; omega), below_set9 (y, j) hS7.2.2.2 (by omega) (Nat.le_refl _)⟩ fun hS9 => ?_
        refine wpAnyH_take (i := 15) (v := ?vAE3X15) rfl (by kernel_rfl) (by kernel_rfl) (by kernel_rfl) (fun _ _ _ h => h) (.inl ⟨by first | kernel_rfl | rfl, ?yAE3X15⟩) hS9 ?_
        case yAE3X15 =>
          intro w' hS
          (clear hS)
          go_simp
          try with_reducible rfl
        try simp only [Act.put, List.getElem_toArray, List.getElem_cons_zero, List.getElem_cons_succ, List.setIfInBounds_toArray, List.set_cons_zero, List.set_cons_succ]
        clear hK' rf0 rc0 rf1 rc1 rf2 rc2 rf3 rc3 rf4 rc4 rf5 rc5 rf6 rc6 rf7 rc7 rf8 rc8
        refine wpAnyH_done (by kernel_rfl) ?_ _
        have d0 := fin.c0
        have e0 := fin.cs (i := 0) (by omega)
        have e1 := fin.cs (i := 1) (by omega)
        have e2 := fin.cs (i := 2) (by omega)
        have e3 := fin.cs (i := 3) (by omega)
        have e4 := fin.cs (i := 4) (by omega)
        have e5 := fin.cs (i := 5) (by omega)
        have e6 := fin.cs (i := 6) (by omega)
        have e7 := fin.cs (i := 7) (by omega)
        go_wp2
        refine bodyPost_ret (v := .tuple #[wV (y, j), .bool true]) (by unfold store9 at d0 e0 e1 e2 e3 e4 e5 e6 e7; simp [results, Try.results102, go_sem, wV, wC, d0, e0, e1, e2, e3, e4, e5, e6, e7]) rfl ⟨.inl ⟨⟨hj, hnr, hop⟩, by unfold stW; rw [Hyd.out]⟩, hS9.2.2.2⟩
  · go_simp
    have hb8 : Below Wd.heap.size Wd (Wd.alloc (.cells #[.int .u8 0, .int .u8 0, .int .u8 0, .int .u8 0, .int .u8 0, .int .u8 0, .int .u8 0, .int .u8 0] 64)) := (Below.refl _ _).alloc (Nat.le_refl _) _
    have hA8 : Arr (Wd.alloc (.cells #[.int .u8 0, .int .u8 0, .int .u8 0, .int .u8 0, .int .u8 0, .int .u8 0, .int .u8 0, .int .u8 0] 64)) Wd.heap.size [] := Arr.new Wd []
    have hSb : Wat (Wd.alloc (.cells #[.int .u8 0, .int .u8 0, .int .u8 0, .int .u8 0, .int .u8 0, .int .u8 0, .int .u8 0, .int .u8 0] 64)) b zs.length r bo mk ∧ Wbx (Wd.alloc (.cells #[.int .u8 0, .int .u8 0, .int .u8 0, .int .u8 0, .int .u8 0, .int .u8 0, .int .u8 0, .int .u8 0] 64)) w.heap.size x ∧ Wbx (Wd.alloc (.cells #[.int .u8 0, .int .u8 0, .int .u8 0, .int .u8 0, .int .u8 0, .int .u8 0, .int .u8 0, .int .u8 0] 64)) (w.heap.size + 1) ([], 0) ∧ Outl (Wd.alloc (.cells #[.int .u8 0, .int .u8 0, .int .u8 0, .int .u8 0, .int .u8 0, .int .u8 0, .int .u8 0, .int .u8 0] 64)) bo zs m9 ∧ Below w.heap.size w (Wd.alloc (.cells #[.int .u8 0, .int .u8 0, .int .u8 0, .int .u8 0, .int .u8 0, .int .u8 0, .int .u8 0, .int .u8 0] 64)) := ⟨hS0.1.later hb8, hS0.2.1.later hb8, hS0.2.2.1.later hb8, hS0.2.2.2.1.later hb8, hS0.2.2.2.2.trans (hb8.mono hS0.2.2.2.2.size)⟩
    refine hK'.out _ _ hSb fun _ => ?_
    have hg9 : w.heap.size + 1 < Wd.heap.size := hS0.2.2.1.lt
    have hgb : b < Wd.heap.size := hS0.1.lt
    have hgo : bo < Wd.heap.size := hS0.2.2.2.1.lt
    obtain ⟨g, hg⟩ : ∃ g, Wd.heap.size = g := ⟨_, rfl⟩
    obtain ⟨W3, hW3⟩ : ∃ W3, Wd.alloc (.cells #[.int .u8 0, .int .u8 0, .int .u8 0, .int .u8 0, .int .u8 0, .int .u8 0, .int .u8 0, .int .u8 0] 64) = W3 := ⟨_, rfl⟩
    rw [hW3] at hSb hA8
    rw [hg] at hA8 hg9 hgb hgo
    first | rw [hW3] | skip
    first | rw [hg] | skip
    clear hK' hS0 hb8 hW3 hg
    refine wpAnyH_ready (rs := [7]) (by kernel_rfl) (by simp) ?_
    refine AllReadyH.cons rfl (fun K' hK' => ?_) AllReadyH.nil
    rw [if_pos (by first | kernel_rfl | rfl)]
    go_simp
    refine (step_c bo m9 zs x.1 (j : Int) W3 hSb.2.2.2.1 ht hx).mono ?_
    rintro e w2 ⟨hres, hb⟩
    obtain ⟨y, ob, rfl, hy⟩ : ∃ (y : List Int) (ob : Bool), e = .returned (.tuple #[arrV y, .bool ob]) ∧ ((ob = true ∧ Opn x.1 (j : Int) ∧ y = stepL zs x.1 (j : Int)) ∨ (ob = false ∧ ¬ Opn x.1 (j : Int))) := by
      rcases hres with ⟨h1, h2⟩ | ⟨h1, h2⟩
      · exact ⟨_, true, h2, .inl ⟨rfl, h1, rfl⟩⟩
      · exact ⟨_, false, h2, .inr ⟨rfl, h1⟩⟩
    clear hres
    have hSc : Wat w2 b zs.length r bo mk ∧ Wbx w2 w.heap.size x ∧ Wbx w2 (w.heap.size + 1) ([], 0) ∧ Outl w2 bo zs m9 ∧ Below w.heap.size w w2 := ⟨hSb.1.later hb, hSb.2.1.later hb, hSb.2.2.1.later hb, hSb.2.2.2.1.later hb, hSb.2.2.2.2.trans (hb.mono hSb.2.2.2.2.size)⟩
    replace hA8 := hA8.later hb
    refine hK'.out _ _ hSc fun _ => ?_
    clear hK' hSb hb
    unfold arrV cells8
    refine wpAnyH_take (i := 8) (v := ?vB18) rfl (by kernel_rfl) (by kernel_rfl) (by kernel_rfl) (fun _ _ _ h => h) (.inl ⟨by first | kernel_rfl | rfl, ?yB18⟩) hSc ?_
    case yB18 =>
      intro w' hS
      (clear hS)
      go_simp
      try with_reducible rfl
    refine wpAnyH_take (i := 9) (v := ?vB19) rfl (by kernel_rfl) (by kernel_rfl) (by kernel_rfl) (fun _ _ _ h => h) (.inl ⟨by first | kernel_rfl | rfl, ?yB19⟩) hSc ?_
    case yB19 =>
      intro w' hS
      (clear hS)
      go_simp
      try with_reducible rfl
    refine wpAnyH_take (i := 10) (v := ?vB110) rfl (by kernel_rfl) (by kernel_rfl) (by kernel_rfl) (fun _ _ _ h => h) (.inl ⟨by first | kernel_rfl | rfl, ?yB110⟩) hSc ?_
    case yB110 =>
      intro w' hS
      (clear hS)
      go_simp
      try with_reducible rfl
    try simp only [Act.put, List.getElem_toArray, List.getElem_cons_zero, List.getElem_cons_succ, List.setIfInBounds_toArray, List.set_cons_zero, List.set_cons_succ]
    have az := hA8
    have ac0 := hA8.cell (i := 0) (by omega)
    have ac1 := hA8.cell (i := 1) (by omega)
    have ac2 := hA8.cell (i := 2) (by omega)
    have ac3 := hA8.cell (i := 3) (by omega)
    have ac4 := hA8.cell (i := 4) (by omega)
    have ac5 := hA8.cell (i := 5) (by omega)
    have ac6 := hA8.cell (i := 6) (by omega)
    have ac7 := hA8.cell (i := 7) (by omega)
    have af0 := hA8.frozen 0
    have af1 := hA8.frozen 1
    have af2 := hA8.frozen 2
    have af3 := hA8.frozen 3
    have af4 := hA8.frozen 4
    have af5 := hA8.frozen 5
    have af6 := hA8.frozen 6
    have af7 := hA8.frozen 7
    have hT : (Wat (store8 w2 g y) b zs.length r bo mk ∧ Wbx (store8 w2 g y) w.heap.size x ∧ Arr (store8 w2 g y) g y ∧ Below w.heap.size w (store8 w2 g y)) ∧ (w.heap.size + 1 < g) ∧ Wbx (store8 w2 g y) (w.heap.size + 1) ([], 0) :=
      ⟨⟨hSc.1.kept (grownBy_set8 _ _ y) (by simp; omega), hSc.2.1.kept (grownBy_set8 _ _ y) (by simp; omega), hA8.stored8 y, below_set8 y hSc.2.2.2.2 (by omega) (Nat.le_refl _)⟩, hg9, hSc.2.2.1.kept (grownBy_set8 _ _ y) (by simp; omega)⟩
    have hSd : Wat (store8 w2 g y) b zs.length r bo mk ∧ Wbx (store8 w2 g y) w.heap.size x ∧ Wbx (store8 w2 g y) (w.heap.size + 1) ([], 0) ∧ Outl (store8 w2 g y) bo zs m9 ∧ Below w.heap.size w (store8 w2 g y) := ⟨hT.1.1, hT.1.2.1, hT.2.2, hSc.2.2.2.1.kept (grownBy_set8 _ _ y) (by simp; omega), hT.1.2.2.2⟩
    refine wpAnyH_ready (rs := [12]) (by kernel_rfl) (by simp) ?_
    refine AllReadyH.cons rfl (fun K' hK' => ?_) AllReadyH.nil
    rw [if_pos (by first | kernel_rfl | rfl)]
    go_simp
    refine hK'.out _ _ hSd fun _ => ?_
    refine wpAnyH_take (i := 13) (v := ?vB913) rfl (by kernel_rfl) (by kernel_rfl) (by kernel_rfl) (fun _ _ _ h => h) (.inl ⟨by first | kernel_rfl | rfl, ?yB913⟩) hSd ?_
    case yB913 =>
      intro w' hS
      (clear hS)
      go_simp
      try with_reducible rfl
    try simp only [Act.put, List.getElem_toArray, List.getElem_cons_zero, List.getElem_cons_succ, List.setIfInBounds_toArray, List.set_cons_zero, List.set_cons_succ]
    clear hK' ac0 af0 ac1 af1 ac2 af2 ac3 af3 ac4 af4 ac5 af5 ac6 af6 ac7 af7 az hA8 hSd hSc
    obtain ⟨W5, hW5⟩ : ∃ W5, store8 w2 g y = W5 := ⟨_, rfl⟩
    rw [hW5] at hT
    unfold store8 at hW5
    rw [hW5]
    clear hW5
    obtain ⟨hS4, hA4, hR⟩ : (Wat W5 b zs.length r bo mk ∧ Wbx W5 w.heap.size x ∧ Arr W5 g y ∧ Below w.heap.size w W5) ∧ (w.heap.size + 1 < g) ∧ Wbx W5 (w.heap.size + 1) ([], 0) := hT
    refine wpAnyH_done (by kernel_rfl) ?_ _
    go_wp2_with fail
    refine wp_region_held_drew (S := fun w' => Wat w' b zs.length r bo mk ∧ Wbx w' w.heap.size x ∧ Arr w' g y ∧ Below w.heap.size w w') hfw ⟨hS4.1, hS4.2.1, hS4.2.2.1, hS4.2.2.2.drew⟩ ?_
    intro hS6
    replace hR : Wbx W5.drew (w.heap.size + 1) ([], 0) := hR
    obtain ⟨W6, hW6⟩ : ∃ W6, W5.drew = W6 := ⟨_, rfl⟩
    rw [hW6] at hS6 hR ⊢
    clear hW6 hS4
    cases ob
    · refine wpAnyH_take (i := 0) (v := ?vBf10) rfl (by kernel_rfl) (by kernel_rfl) (by kernel_rfl) (fun _ _ _ h => h) (.inl ⟨by first | kernel_rfl | rfl, ?yBf10⟩) hS6 ?_
      case yBf10 =>
        intro w' hS
        (have k0 := hS.1.c0; have z0 := hS.2.2.1.cell (i := 0) (by omega); have z1 := hS.2.2.1.cell (i := 1) (by omega); have z2 := hS.2.2.1.cell (i := 2) (by omega); have z3 := hS.2.2.1.cell (i := 3) (by omega); have z4 := hS.2.2.1.cell (i := 4) (by omega); have z5 := hS.2.2.1.cell (i := 5) (by omega); have z6 := hS.2.2.1.cell (i := 6) (by omega); have z7 := hS.2.2.1.cell (i := 7) (by omega); clear hS)
        go_simp
        try with_reducible rfl
      refine wpAnyH_take (i := 1) (v := ?vBf11) rfl (by kernel_rfl) (by kernel_rfl) (by kernel_rfl) (fun _ _ _ h => h) (.inl ⟨by first | kernel_rfl | rfl, ?yBf11⟩) hS6 ?_
      case yBf11 =>
        intro w' hS
        (have k0 := hS.1.c0; have z0 := hS.2.2.1.cell (i := 0) (by omega); have z1 := hS.2.2.1.cell (i := 1) (by omega); have z2 := hS.2.2.1.cell (i := 2) (by omega); have z3 := hS.2.2.1.cell (i := 3) (by omega); have z4 := hS.2.2.1.cell (i := 4) (by omega); have z5 := hS.2.2.1.cell (i := 5) (by omega); have z6 := hS.2.2.1.cell (i := 6) (by omega); have z7 := hS.2.2.1.cell (i := 7) (by omega); clear hS)
        go_simp
        try with_reducible rfl
      refine wpAnyH_take (i := 2) (v := ?vBf12) rfl (by kernel_rfl) (by kernel_rfl) (by kernel_rfl) (fun _ _ _ h => h) (.inl ⟨by first | kernel_rfl | rfl, ?yBf12⟩) hS6 ?_
      case yBf12 =>
        intro w' hS
        (have k0 := hS.1.c0; have z0 := hS.2.2.1.cell (i := 0) (by omega); have z1 := hS.2.2.1.cell (i := 1) (by omega); have z2 := hS.2.2.1.cell (i := 2) (by omega); have z3 := hS.2.2.1.cell (i := 3) (by omega); have z4 := hS.2.2.1.cell (i := 4) (by omega); have z5 := hS.2.2.1.cell (i := 5) (by omega); have z6 := hS.2.2.1.cell (i := 6) (by omega); have z7 := hS.2.2.1.cell (i := 7) (by omega); clear hS)
        go_simp
        try with_reducible rfl
      refine wpAnyH_take (i := 3) (v := ?vBf13) rfl (by kernel_rfl) (by kernel_rfl) (by kernel_rfl) (fun _ _ _ h => h) (.inl ⟨by first | kernel_rfl | rfl, ?yBf13⟩) hS6 ?_
      case yBf13 =>
        intro w' hS
        (have k0 := hS.1.c0; have z0 := hS.2.2.1.cell (i := 0) (by omega); have z1 := hS.2.2.1.cell (i := 1) (by omega); have z2 := hS.2.2.1.cell (i := 2) (by omega); have z3 := hS.2.2.1.cell (i := 3) (by omega); have z4 := hS.2.2.1.cell (i := 4) (by omega); have z5 := hS.2.2.1.cell (i := 5) (by omega); have z6 := hS.2.2.1.cell (i := 6) (by omega); have z7 := hS.2.2.1.cell (i := 7) (by omega); clear hS)
        go_simp
        try with_reducible rfl
      refine wpAnyH_take (i := 4) (v := ?vBf14) rfl (by kernel_rfl) (by kernel_rfl) (by kernel_rfl) (fun _ _ _ h => h) (.inl ⟨by first | kernel_rfl | rfl, ?yBf14⟩) hS6 ?_
      case yBf14 =>
        intro w' hS
        (have k0 := hS.1.c0; have z0 := hS.2.2.1.cell (i := 0) (by omega); have z1 := hS.2.2.1.cell (i := 1) (by omega); have z2 := hS.2.2.1.cell (i := 2) (by omega); have z3 := hS.2.2.1.cell (i := 3) (by omega); have z4 := hS.2.2.1.cell (i := 4) (by omega); have z5 := hS.2.2.1.cell (i := 5) (by omega); have z6 := hS.2.2.1.cell (i := 6) (by omega); have z7 := hS.2.2.1.cell (i := 7) (by omega); clear hS)
        go_simp
        try with_reducible rfl
      try simp only [Act.put, List.getElem_toArray, List.getElem_cons_zero, List.getElem_cons_succ, List.setIfInBounds_toArray, List.set_cons_zero, List.set_cons_succ]
      refine wpAnyH_take (i := 5) (v := undef) rfl (by kernel_rfl) (by kernel_rfl) (by kernel_rfl) (fun _ _ _ h => h) (.inr ⟨by kernel_rfl, rfl⟩) hS6 ?_
      refine wpAnyH_take (i := 6) (v := undef) rfl (by kernel_rfl) (by kernel_rfl) (by kernel_rfl) (fun _ _ _ h => h) (.inr ⟨by kernel_rfl, rfl⟩) hS6 ?_
      refine wpAnyH_take (i := 7) (v := undef) rfl (by kernel_rfl) (by kernel_rfl) (by kernel_rfl) (fun _ _ _ h => h) (.inr ⟨by kernel_rfl, rfl⟩) hS6 ?_
      refine wpAnyH_take (i := 8) (v := undef) rfl (by kernel_rfl) (by kernel_rfl) (by kernel_rfl) (fun _ _ _ h => h) (.inr ⟨by kernel_rfl, rfl⟩) hS6 ?_
      refine wpAnyH_take (i := 9) (v := undef) rfl (by kernel_rfl) (by kernel_rfl) (by kernel_rfl) (fun _ _ _ h => h) (.inr ⟨by kernel_rfl, rfl⟩) hS6 ?_
      refine wpAnyH_take (i := 10) (v := undef) rfl (by kernel_rfl) (by kernel_rfl) (by kernel_rfl) (fun _ _ _ h => h) (.inr ⟨by kernel_rfl, rfl⟩) hS6 ?_
      refine wpAnyH_take (i := 11) (v := undef) rfl (by kernel_rfl) (by kernel_rfl) (by kernel_rfl) (fun _ _ _ h => h) (.inr ⟨by kernel_rfl, rfl⟩) hS6 ?_
      refine wpAnyH_take (i := 12) (v := undef) rfl (by kernel_rfl) (by kernel_rfl) (by kernel_rfl) (fun _ _ _ h => h) (.inr ⟨by kernel_rfl, rfl⟩) hS6 ?_
      try simp only [Act.put, List.getElem_toArray, List.getElem_cons_zero, List.getElem_cons_succ, List.setIfInBounds_toArray, List.set_cons_zero, List.set_cons_succ]
      refine wpAnyH_take (i := 13) (v := (.bool false)) rfl (by kernel_rfl) (by kernel_rfl) (by kernel_rfl) (fun _ _ _ h => h) (.inl ⟨by first | kernel_rfl | rfl, ?yBf213⟩) hS6 ?_
      case yBf213 =>
        intro w' hS
        (clear hS)
        go_simp
        first | done | (simp; done) | (simp; omega) | omega | (simp [*]; done)
      have hR2 : Wbx W6 (w.heap.size + 1) ([], 0) := hR
      have fin := Wbx.stored9 (y, j) hR2
      have hBz := hS6.2.2.2
      have rf0 := hR.frozen 0
      have rf1 := hR.frozen 1
      have rf2 := hR.frozen 2
      have rf3 := hR.frozen 3
      have rf4 := hR.frozen 4
      have rf5 := hR.frozen 5
      have rf6 := hR.frozen 6
      have rf7 := hR.frozen 7
      have rf8 := hR.frozen 8
      have rc0 := hR.c0
      have rc1 := hR.cs (i := 0) (by omega)
      have rc2 := hR.cs (i := 1) (by omega)
      have rc3 := hR.cs (i := 2) (by omega)
      have rc4 := hR.cs (i := 3) (by omega)
      have rc5 := hR.cs (i := 4) (by omega)
      have rc6 := hR.cs (i := 5) (by omega)
      have rc7 := hR.cs (i := 6) (by omega)
      have rc8 := hR.cs (i := 7) (by omega)
      refine wpAnyH_ready (rs := [14]) (by kernel_rfl) (by simp) ?_
      refine AllReadyH.cons rfl (fun K' hK' => ?_) AllReadyH.nil
      rw [if_pos (by first | kernel_rfl | rfl)]
      go_simp
      refine hK'.out _ _ ⟨hS6.1.kept (grownBy_set9 _ _ (y, j)) (by simp; omega), hS6.2.1.kept (grownBy_set9 _ _ (y, j)) (by simp), hS6.2.2.1.kept (grownBy_set9 _ _ (y, j)) (by simp; omega), below_set9 (y, j) hS6.2.2.2 (by omega) (Nat.le_refl _)⟩ fun hS9 => ?_
      refine wpAnyH_take (i := 15) (v := ?vBE1X15) rfl (by kernel_rfl) (by kernel_rfl) (by kernel_rfl) (fun _ _ _ h => h) (.inl ⟨by first | kernel_rfl | rfl, ?yBE1X15⟩) hS9 ?_
      case yBE1X15 =>
        intro w' hS
        (clear hS)
        go_simp
        try with_reducible rfl
      try simp only [Act.put, List.getElem_toArray, List.getElem_cons_zero, List.getElem_cons_succ, List.setIfInBounds_toArray, List.set_cons_zero, List.set_cons_succ]
      clear hK' rf0 rc0 rf1 rc1 rf2 rc2 rf3 rc3 rf4 rc4 rf5 rc5 rf6 rc6 rf7 rc7 rf8 rc8
      refine wpAnyH_done (by kernel_rfl) ?_ _
      have d0 := fin.c0
      have e0 := fin.cs (i := 0) (by omega)
      have e1 := fin.cs (i := 1) (by omega)
      have e2 := fin.cs (i := 2) (by omega)
      have e3 := fin.cs (i := 3) (by omega)
      have e4 := fin.cs (i := 4) (by omega)
      have e5 := fin.cs (i := 5) (by omega)
      have e6 := fin.cs (i := 6) (by omega)
      have e7 := fin.cs (i := 7) (by omega)
      go_wp2
      refine bodyPost_ret (v := .tuple #[wV (y, j), .bool false]) (by unfold store9 at d0 e0 e1 e2 e3 e4 e5 e6 e7; simp [results, Try.results102, go_sem, wV, wC, d0, e0, e1, e2, e3, e4, e5, e6, e7]) rfl ⟨.inr ⟨fun hm => (by have := hy.resolve_left (by simp); exact this.2 hm.2.2), (y, j), rfl⟩, hS9.2.2.2⟩
    · refine wpAnyH_take (i := 0) (v := ?vBg10) rfl (by kernel_rfl) (by kernel_rfl) (by kernel_rfl) (fun _ _ _ h => h) (.inl ⟨by first | kernel_rfl | rfl, ?yBg10⟩) hS6 ?_
      case yBg10 =>
        intro w' hS
        (have k0 := hS.1.c0; have k1 := hS.1.c1; have kx := hS.2.1.c0; have z0 := hS.2.2.1.cell (i := 0) (by omega); have z1 := hS.2.2.1.cell (i := 1) (by omega); have z2 := hS.2.2.1.cell (i := 2) (by omega); have z3 := hS.2.2.1.cell (i := 3) (by omega); have z4 := hS.2.2.1.cell (i := 4) (by omega); have z5 := hS.2.2.1.cell (i := 5) (by omega); have z6 := hS.2.2.1.cell (i := 6) (by omega); have z7 := hS.2.2.1.cell (i := 7) (by omega); clear hS)
        go_simp
        try with_reducible rfl
      refine wpAnyH_take (i := 1) (v := ?vBg11) rfl (by kernel_rfl) (by kernel_rfl) (by kernel_rfl) (fun _ _ _ h => h) (.inl ⟨by first | kernel_rfl | rfl, ?yBg11⟩) hS6 ?_
      case yBg11 =>
        intro w' hS
        (have k0 := hS.1.c0; have k1 := hS.1.c1; have kx := hS.2.1.c0; have z0 := hS.2.2.1.cell (i := 0) (by omega); have z1 := hS.2.2.1.cell (i := 1) (by omega); have z2 := hS.2.2.1.cell (i := 2) (by omega); have z3 := hS.2.2.1.cell (i := 3) (by omega); have z4 := hS.2.2.1.cell (i := 4) (by omega); have z5 := hS.2.2.1.cell (i := 5) (by omega); have z6 := hS.2.2.1.cell (i := 6) (by omega); have z7 := hS.2.2.1.cell (i := 7) (by omega); clear hS)
        go_simp
        try with_reducible rfl
      refine wpAnyH_take (i := 2) (v := ?vBg12) rfl (by kernel_rfl) (by kernel_rfl) (by kernel_rfl) (fun _ _ _ h => h) (.inl ⟨by first | kernel_rfl | rfl, ?yBg12⟩) hS6 ?_
      case yBg12 =>
        intro w' hS
        (have k0 := hS.1.c0; have k1 := hS.1.c1; have kx := hS.2.1.c0; have z0 := hS.2.2.1.cell (i := 0) (by omega); have z1 := hS.2.2.1.cell (i := 1) (by omega); have z2 := hS.2.2.1.cell (i := 2) (by omega); have z3 := hS.2.2.1.cell (i := 3) (by omega); have z4 := hS.2.2.1.cell (i := 4) (by omega); have z5 := hS.2.2.1.cell (i := 5) (by omega); have z6 := hS.2.2.1.cell (i := 6) (by omega); have z7 := hS.2.2.1.cell (i := 7) (by omega); clear hS)
        go_simp
        try with_reducible rfl
      refine wpAnyH_take (i := 3) (v := ?vBg13) rfl (by kernel_rfl) (by kernel_rfl) (by kernel_rfl) (fun _ _ _ h => h) (.inl ⟨by first | kernel_rfl | rfl, ?yBg13⟩) hS6 ?_
      case yBg13 =>
        intro w' hS
        (have k0 := hS.1.c0; have k1 := hS.1.c1; have kx := hS.2.1.c0; have z0 := hS.2.2.1.cell (i := 0) (by omega); have z1 := hS.2.2.1.cell (i := 1) (by omega); have z2 := hS.2.2.1.cell (i := 2) (by omega); have z3 := hS.2.2.1.cell (i := 3) (by omega); have z4 := hS.2.2.1.cell (i := 4) (by omega); have z5 := hS.2.2.1.cell (i := 5) (by omega); have z6 := hS.2.2.1.cell (i := 6) (by omega); have z7 := hS.2.2.1.cell (i := 7) (by omega); clear hS)
        go_simp
        try with_reducible rfl
      refine wpAnyH_take (i := 4) (v := ?vBg14) rfl (by kernel_rfl) (by kernel_rfl) (by kernel_rfl) (fun _ _ _ h => h) (.inl ⟨by first | kernel_rfl | rfl, ?yBg14⟩) hS6 ?_
      case yBg14 =>
        intro w' hS
        (have k0 := hS.1.c0; have k1 := hS.1.c1; have kx := hS.2.1.c0; have z0 := hS.2.2.1.cell (i := 0) (by omega); have z1 := hS.2.2.1.cell (i := 1) (by omega); have z2 := hS.2.2.1.cell (i := 2) (by omega); have z3 := hS.2.2.1.cell (i := 3) (by omega); have z4 := hS.2.2.1.cell (i := 4) (by omega); have z5 := hS.2.2.1.cell (i := 5) (by omega); have z6 := hS.2.2.1.cell (i := 6) (by omega); have z7 := hS.2.2.1.cell (i := 7) (by omega); clear hS)
        go_simp
        try with_reducible rfl
      refine wpAnyH_take (i := 5) (v := ?vBg15) rfl (by kernel_rfl) (by kernel_rfl) (by kernel_rfl) (fun _ _ _ h => h) (.inl ⟨by first | kernel_rfl | rfl, ?yBg15⟩) hS6 ?_
      case yBg15 =>
        intro w' hS
        (have k0 := hS.1.c0; have k1 := hS.1.c1; have kx := hS.2.1.c0; have z0 := hS.2.2.1.cell (i := 0) (by omega); have z1 := hS.2.2.1.cell (i := 1) (by omega); have z2 := hS.2.2.1.cell (i := 2) (by omega); have z3 := hS.2.2.1.cell (i := 3) (by omega); have z4 := hS.2.2.1.cell (i := 4) (by omega); have z5 := hS.2.2.1.cell (i := 5) (by omega); have z6 := hS.2.2.1.cell (i := 6) (by omega); have z7 := hS.2.2.1.cell (i := 7) (by omega); clear hS)
        go_simp
        try with_reducible rfl
      refine wpAnyH_take (i := 6) (v := ?vBg16) rfl (by kernel_rfl) (by kernel_rfl) (by kernel_rfl) (fun _ _ _ h => h) (.inl ⟨by first | kernel_rfl | rfl, ?yBg16⟩) hS6 ?_
      case yBg16 =>
        intro w' hS
        (have k0 := hS.1.c0; have k1 := hS.1.c1; have kx := hS.2.1.c0; have z0 := hS.2.2.1.cell (i := 0) (by omega); have z1 := hS.2.2.1.cell (i := 1) (by omega); have z2 := hS.2.2.1.cell (i := 2) (by omega); have z3 := hS.2.2.1.cell (i := 3) (by omega); have z4 := hS.2.2.1.cell (i := 4) (by omega); have z5 := hS.2.2.1.cell (i := 5) (by omega); have z6 := hS.2.2.1.cell (i := 6) (by omega); have z7 := hS.2.2.1.cell (i := 7) (by omega); clear hS)
        go_simp
        try with_reducible rfl
      refine wpAnyH_take (i := 7) (v := ?vBg17) rfl (by kernel_rfl) (by kernel_rfl) (by kernel_rfl) (fun _ _ _ h => h) (.inl ⟨by first | kernel_rfl | rfl, ?yBg17⟩) hS6 ?_
      case yBg17 =>
        intro w' hS
        (have k0 := hS.1.c0; have k1 := hS.1.c1; have kx := hS.2.1.c0; have z0 := hS.2.2.1.cell (i := 0) (by omega); have z1 := hS.2.2.1.cell (i := 1) (by omega); have z2 := hS.2.2.1.cell (i := 2) (by omega); have z3 := hS.2.2.1.cell (i := 3) (by omega); have z4 := hS.2.2.1.cell (i := 4) (by omega); have z5 := hS.2.2.1.cell (i := 5) (by omega); have z6 := hS.2.2.1.cell (i := 6) (by omega); have z7 := hS.2.2.1.cell (i := 7) (by omega); clear hS)
        go_simp
        try with_reducible rfl
      refine wpAnyH_take (i := 8) (v := ?vBg18) rfl (by kernel_rfl) (by kernel_rfl) (by kernel_rfl) (fun _ _ _ h => h) (.inl ⟨by first | kernel_rfl | rfl, ?yBg18⟩) hS6 ?_
      case yBg18 =>
        intro w' hS
        (have k0 := hS.1.c0; have k1 := hS.1.c1; have kx := hS.2.1.c0; have z0 := hS.2.2.1.cell (i := 0) (by omega); have z1 := hS.2.2.1.cell (i := 1) (by omega); have z2 := hS.2.2.1.cell (i := 2) (by omega); have z3 := hS.2.2.1.cell (i := 3) (by omega); have z4 := hS.2.2.1.cell (i := 4) (by omega); have z5 := hS.2.2.1.cell (i := 5) (by omega); have z6 := hS.2.2.1.cell (i := 6) (by omega); have z7 := hS.2.2.1.cell (i := 7) (by omega); clear hS)
        go_simp
        try with_reducible rfl
      refine wpAnyH_take (i := 9) (v := ?vBg19) rfl (by kernel_rfl) (by kernel_rfl) (by kernel_rfl) (fun _ _ _ h => h) (.inl ⟨by first | kernel_rfl | rfl, ?yBg19⟩) hS6 ?_
      case yBg19 =>
        intro w' hS
        (have k0 := hS.1.c0; have k1 := hS.1.c1; have kx := hS.2.1.c0; have z0 := hS.2.2.1.cell (i := 0) (by omega); have z1 := hS.2.2.1.cell (i := 1) (by omega); have z2 := hS.2.2.1.cell (i := 2) (by omega); have z3 := hS.2.2.1.cell (i := 3) (by omega); have z4 := hS.2.2.1.cell (i := 4) (by omega); have z5 := hS.2.2.1.cell (i := 5) (by omega); have z6 := hS.2.2.1.cell (i := 6) (by omega); have z7 := hS.2.2.1.cell (i := 7) (by omega); clear hS)
        go_simp
        try with_reducible rfl
      refine wpAnyH_take (i := 10) (v := ?vBg110) rfl (by kernel_rfl) (by kernel_rfl) (by kernel_rfl) (fun _ _ _ h => h) (.inl ⟨by first | kernel_rfl | rfl, ?yBg110⟩) hS6 ?_
      case yBg110 =>
        intro w' hS
        (have k0 := hS.1.c0; have k1 := hS.1.c1; have kx := hS.2.1.c0; have z0 := hS.2.2.1.cell (i := 0) (by omega); have z1 := hS.2.2.1.cell (i := 1) (by omega); have z2 := hS.2.2.1.cell (i := 2) (by omega); have z3 := hS.2.2.1.cell (i := 3) (by omega); have z4 := hS.2.2.1.cell (i := 4) (by omega); have z5 := hS.2.2.1.cell (i := 5) (by omega); have z6 := hS.2.2.1.cell (i := 6) (by omega); have z7 := hS.2.2.1.cell (i := 7) (by omega); clear hS)
        go_simp
        try with_reducible rfl
      refine wpAnyH_take (i := 11) (v := ?vBg111) rfl (by kernel_rfl) (by kernel_rfl) (by kernel_rfl) (fun _ _ _ h => h) (.inl ⟨by first | kernel_rfl | rfl, ?yBg111⟩) hS6 ?_
      case yBg111 =>
        intro w' hS
        (have k0 := hS.1.c0; have k1 := hS.1.c1; have kx := hS.2.1.c0; have z0 := hS.2.2.1.cell (i := 0) (by omega); have z1 := hS.2.2.1.cell (i := 1) (by omega); have z2 := hS.2.2.1.cell (i := 2) (by omega); have z3 := hS.2.2.1.cell (i := 3) (by omega); have z4 := hS.2.2.1.cell (i := 4) (by omega); have z5 := hS.2.2.1.cell (i := 5) (by omega); have z6 := hS.2.2.1.cell (i := 6) (by omega); have z7 := hS.2.2.1.cell (i := 7) (by omega); clear hS)
        go_simp
        try with_reducible rfl
      try simp only [Act.put, List.getElem_toArray, List.getElem_cons_zero, List.getElem_cons_succ, List.setIfInBounds_toArray, List.set_cons_zero, List.set_cons_succ]
      refine wpAnyH_ready (rs := [12]) (by kernel_rfl) (by simp) ?_
      refine AllReadyH.cons rfl (fun K' hK' => ?_) AllReadyH.nil
      rw [if_pos (by first | kernel_rfl | rfl)]
      go_simp
      refine (areNear_c zs.length r x.2 j _ hr (by omega) (by omega)).mono ?_
      rintro e w7 ⟨rfl, hb7⟩
      have hS7 : Wat w7 b zs.length r bo mk ∧ Wbx w7 w.heap.size x ∧ Arr w7 g y ∧ Below w.heap.size w w7 := ⟨hS6.1.later hb7, hS6.2.1.later hb7, hS6.2.2.1.later hb7, hS6.2.2.2.trans (hb7.mono hS6.2.2.2.size)⟩
      replace hR := hR.later hb7
      refine hK'.out _ _ hS7 fun _ => ?_
      clear hK' hS6 hb7
      refine wpAnyH_take (i := 13) (v := (.bool (nearB r x.2 j))) rfl (by kernel_rfl) (by kernel_rfl) (by kernel_rfl) (fun _ _ _ h => h) (.inl ⟨by first | kernel_rfl | rfl, ?yBg213⟩) hS7 ?_
      case yBg213 =>
        intro w' hS
        (clear hS)
        go_simp
        first | done | (simp; done) | (simp; omega) | omega | (simp [*]; done)
      have hyy := hy.resolve_right (by simp)
      obtain ⟨_, hop, rfl⟩ := hyy
      obtain ⟨y, hyd⟩ : ∃ y, stepL zs x.1 (j : Int) = y := ⟨_, rfl⟩
      have Hyd := Lib.hid hyd
      rw [hyd] at hS7 ⊢
      clear hyd hy
      cases hnr : nearB r x.2 j
      · have hR2 : Wbx w7 (w.heap.size + 1) ([], 0) := hR
        have fin := Wbx.stored9 (y, j) hR2
        have hBz := hS7.2.2.2
        have rf0 := hR.frozen 0
        have rf1 := hR.frozen 1
        have rf2 := hR.frozen 2
        have rf3 := hR.frozen 3
        have rf4 := hR.frozen 4
        have rf5 := hR.frozen 5
        have rf6 := hR.frozen 6
        have rf7 := hR.frozen 7
        have rf8 := hR.frozen 8
        have rc0 := hR.c0
        have rc1 := hR.cs (i := 0) (by omega)
        have rc2 := hR.cs (i := 1) (by omega)
        have rc3 := hR.cs (i := 2) (by omega)
        have rc4 := hR.cs (i := 3) (by omega)
        have rc5 := hR.cs (i := 4) (by omega)
        have rc6 := hR.cs (i := 5) (by omega)
        have rc7 := hR.cs (i := 6) (by omega)
        have rc8 := hR.cs (i := 7) (by omega)
        refine wpAnyH_ready (rs := [14]) (by kernel_rfl) (by simp) ?_
        refine AllReadyH.cons rfl (fun K' hK' => ?_) AllReadyH.nil
        rw [if_pos (by first | kernel_rfl | rfl)]
        go_simp
        refine hK'.out _ _ ⟨hS7.1.kept (grownBy_set9 _ _ (y, j)) (by simp; omega), hS7.2.1.kept (grownBy_set9 _ _ (y, j)) (by simp), hS7.2.2.1.kept (grownBy_set9 _ _ (y, j)) (by simp; omega), below_set9 (y, j) hS7.2.2.2 (by omega) (Nat.le_refl _)⟩ fun hS9 => ?_
        refine wpAnyH_take (i := 15) (v := ?vBE2X15) rfl (by kernel_rfl) (by kernel_rfl) (by kernel_rfl) (fun _ _ _ h => h) (.inl ⟨by first | kernel_rfl | rfl, ?yBE2X15⟩) hS9 ?_
        case yBE2X15 =>
          intro w' hS
          (clear hS)
          go_simp
          try with_reducible rfl
        try simp only [Act.put, List.getElem_toArray, List.getElem_cons_zero, List.getElem_cons_succ, List.setIfInBounds_toArray, List.set_cons_zero, List.set_cons_succ]
        clear hK' rf0 rc0 rf1 rc1 rf2 rc2 rf3 rc3 rf4 rc4 rf5 rc5 rf6 rc6 rf7 rc7 rf8 rc8
        refine wpAnyH_done (by kernel_rfl) ?_ _
        have d0 := fin.c0
        have e0 := fin.cs (i := 0) (by omega)
        have e1 := fin.cs (i := 1) (by omega)
        have e2 := fin.cs (i := 2) (by omega)
        have e3 := fin.cs (i := 3) (by omega)
        have e4 := fin.cs (i := 4) (by omega)
        have e5 := fin.cs (i := 5) (by omega)
        have e6 := fin.cs (i := 6) (by omega)
        have e7 := fin.cs (i := 7) (by omega)
        go_wp2
        refine bodyPost_ret (v := .tuple #[wV (y, j), .bool false]) (by unfold store9 at d0 e0 e1 e2 e3 e4 e5 e6 e7; simp [results, Try.results102, go_sem, wV, wC, d0, e0, e1, e2, e3, e4, e5, e6, e7]) rfl ⟨.inr ⟨fun hm => (by have := hm.2.1; rw [hnr] at this; cases this), (y, j), rfl⟩, hS9.2.2.2⟩
      · have hR2 : Wbx w7 (w.heap.size + 1) ([], 0) := hR
        have fin := Wbx.stored9 (y, j) hR2
        have hBz := hS7.2.2.2
        have rf0 := hR.frozen 0
        have rf1 := hR.frozen 1
        have rf2 := hR.frozen 2
        have rf3 := hR.frozen 3
        have rf4 := hR.frozen 4
        have rf5 := hR.frozen 5
        have rf6 := hR.frozen 6
        have rf7 := hR.frozen 7
        have rf8 := hR.frozen 8
        have rc0 := hR.c0
        have rc1 := hR.cs (i := 0) (by omega)
        have rc2 := hR.cs (i := 1) (by omega)
        have rc3 := hR.cs (i := 2) (by omega)
        have rc4 := hR.cs (i := 3) (by omega)
        have rc5 := hR.cs (i := 4) (by omega)
        have rc6 := hR.cs (i := 5) (by omega)
        have rc7 := hR.cs (i := 6) (by omega)
        have rc8 := hR.cs (i := 7) (by omega)
        refine wpAnyH_ready (rs := [14]) (by kernel_rfl) (by simp) ?_
        refine AllReadyH.cons rfl (fun K' hK' => ?_) AllReadyH.nil
        rw [if_pos (by first | kernel_rfl | rfl)]
        go_simp
        refine hK'.out _ _ ⟨hS7.1.kept (grownBy_set9 _ _ (y, j)) (by simp; omega), hS7.2.1.kept (grownBy_set9 _ _ (y, j)) (by simp), hS7.2.2.1.kept (grownBy_set9 _ _ (y, j)) (by simp; omega), below_set9 (y, j) hS7.2.2.2 (by omega) (Nat.le_refl _)⟩ fun hS9 => ?_
        refine wpAnyH_take (i := 15) (v := ?vBE3X15) rfl (by kernel_rfl) (by kernel_rfl) (by kernel_rfl) (fun _ _ _ h => h) (.inl ⟨by first | kernel_rfl | rfl, ?yBE3X15⟩) hS9 ?_
        case yBE3X15 =>
          intro w' hS
          (clear hS)
          go_simp
          try with_reducible rfl
        try simp only [Act.put, List.getElem_toArray, List.getElem_cons_zero, List.getElem_cons_succ, List.setIfInBounds_toArray, List.set_cons_zero, List.set_cons_succ]
        clear hK' rf0 rc0 rf1 rc1 rf2 rc2 rf3 rc3 rf4 rc4 rf5 rc5 rf6 rc6 rf7 rc7 rf8 rc8
        refine wpAnyH_done (by kernel_rfl) ?_ _
        have d0 := fin.c0
        have e0 := fin.cs (i := 0) (by omega)
        have e1 := fin.cs (i := 1) (by omega)
        have e2 := fin.cs (i := 2) (by omega)
        have e3 := fin.cs (i := 3) (by omega)
        have e4 := fin.cs (i := 4) (by omega)
        have e5 := fin.cs (i := 5) (by omega)
        have e6 := fin.cs (i := 6) (by omega)
        have e7 := fin.cs (i := 7) (by omega)
        go_wp2
        refine bodyPost_ret (v := .tuple #[wV (y, j), .bool true]) (by unfold store9 at d0 e0 e1 e2 e3 e4 e5 e6 e7; simp [results, Try.results102, go_sem, wV, wC, d0, e0, e1, e2, e3, e4, e5, e6, e7]) rfl ⟨.inl ⟨⟨hj, hnr, hop⟩, by unfold stW; rw [Hyd.out]⟩, hS9.2.2.2⟩

end Go.Proofs.Ytgndbifcncklgaa
