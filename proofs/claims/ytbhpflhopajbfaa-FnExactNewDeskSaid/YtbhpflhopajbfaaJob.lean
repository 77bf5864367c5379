/-
  Jobs: a variable of three cells; jobs as three slices; the laws' helpers for jobs: sizes, copies, comparisons, marks; opening a struct of three slices.
  Conditions: lists of at most 1048576 elements where a copy is made.
-/
import Derived.Test.YtbhpflhopajbfaaLaw
import Derived.Test.YtbhpflhopajbfaaChk
namespace Go.Proofs.Ytbhpflhopajbfaa
open Go.RowKit Go.Shelf

/-! ### a variable of three cells -/
theorem grownBy_setJ (W : World) (b j : Nat) (v : Value) : W.grownBy (W.setCell ⟨b, j, none⟩ v) (some b) :=
  ⟨rfl, rfl, rfl, by simp [World.setCell], fun i _ hne => Below.heap_setCell _ _ _ i (fun e => hne (by rw [show i = b from e]))⟩
def Box3 (W : World) (b : Nat) (t : TypeId) (u v x : Value) : Prop := W.heap[b]? = some (.cells #[u, v, x] t (0, 0))
section
variable {W W' : World} {b b' : Nat} {t : TypeId} {u v x : Value}
theorem Box3.lt (h : Box3 W b t u v x) : b < W.heap.size := (Array.getElem?_eq_some_iff.1 h).1
theorem Box3.c0 (h : Box3 W b t u v x) : W.cell? ⟨b, 0, none⟩ = some u := by simp [World.cell?, show W.heap[b]? = _ from h]
theorem Box3.c1 (h : Box3 W b t u v x) : W.cell? ⟨b, 1, none⟩ = some v := by simp [World.cell?, show W.heap[b]? = _ from h]
theorem Box3.c2 (h : Box3 W b t u v x) : W.cell? ⟨b, 2, none⟩ = some x := by simp [World.cell?, show W.heap[b]? = _ from h]
theorem Box3.frozen (h : Box3 W b t u v x) (i : Nat) : W.frozen? ⟨b, i, none⟩ = false := by simp [World.frozen?, show W.heap[b]? = _ from h]
theorem Box3.new (W : World) (t : TypeId) (u v x : Value) : Box3 (W.alloc (.cells #[u, v, x] t)) W.heap.size t u v x := World.alloc_heap_new W _
theorem Box3.kept {row : Option Nat} (h : Box3 W b t u v x) (hg : W.grownBy W' row) (hne : some b ≠ row) : Box3 W' b t u v x := (hg.block b h.lt hne).trans h
theorem Box3.alloc (h : Box3 W b t u v x) (o : Obj) : Box3 (W.alloc o) b t u v x := h.kept (World.grownBy_alloc W o none) (by simp)
theorem Box3.below {n : Nat} (h : Box3 W b t u v x) (hb : Below n W W') (hn : b < n) : Box3 W' b t u v x := (hb.block b hn).trans h
theorem Box3.later (h : Box3 W b t u v x) (hb : Below W.heap.size W W') : Box3 W' b t u v x := (hb.block b h.lt).trans h
theorem Box3.put (h : Box3 W b t u v x) (i : Nat) (y : Value) : W.heap[b]? = some (.cells #[u, v, x] t (0, 0)) → (W.setCell ⟨b, i, none⟩ y).heap[b]? = some (.cells ((#[u, v, x] : Array Value).setIfInBounds i y) t (0, 0)) := fun _ => by
  obtain ⟨hlt, hk⟩ := Array.getElem?_eq_some_iff.1 h
  show (W.heap.modify b _)[b]? = _
  rw [Array.getElem?_eq_getElem (by rw [Array.size_modify]; exact hlt), Array.getElem_modify_self, hk]
  simp
theorem Box3.set0 (h : Box3 W b t u v x) (y : Value) : Box3 (W.setCell ⟨b, 0, none⟩ y) b t y v x := by unfold Box3; simpa using h.put 0 y h
theorem Box3.set1 (h : Box3 W b t u v x) (y : Value) : Box3 (W.setCell ⟨b, 1, none⟩ y) b t u y x := by unfold Box3; simpa using h.put 1 y h
theorem Box3.set2 (h : Box3 W b t u v x) (y : Value) : Box3 (W.setCell ⟨b, 2, none⟩ y) b t u v y := by unfold Box3; simpa using h.put 2 y h
theorem Box3.other {i : Nat} (h : Box3 W b t u v x) (hne : b ≠ b') (y : Value) : Box3 (W.setCell ⟨b', i, none⟩ y) b t u v x := h.kept (grownBy_setJ W b' i y) (fun e => hne (by cases e; rfl))
theorem box3_own {β : Type} (b : Nat) (t : TypeId) (f g k : β → Value) : Own (fun s W => Box3 W b t (f s) (g s) (k s)) := fun s X Y row hs hg hrow =>
  hs.kept hg (fun e' => by obtain ⟨o, ho, hc⟩ := hrow b e'.symm; rw [show X.heap[b]? = _ from hs] at ho; cases ho; cases hc)
theorem box3_shut {D : Nat} (h : Box3 W b t u v x) (hK : W.heap[D]? = some (.deferred (some []))) : Box3 (W.putObj D (.deferred none)) b t u v x :=
  (World.putObj_heap_other (by rintro rfl; rw [show W.heap[b]? = _ from h] at hK; cases hK)).trans h
end

/-- blocks outside lo .. hi - 1 lie as they lay -/
structure Out (lo hi : Nat) (A B : World) : Prop where
  os : B.os = A.os
  tape : B.tape = A.tape
  output : B.output = A.output
  size : A.heap.size ≤ B.heap.size
  same : ∀ k, (k < lo ∨ hi ≤ k) → k < A.heap.size → B.heap[k]? = A.heap[k]?
theorem Out.refl (lo hi : Nat) (A : World) : Out lo hi A A := ⟨rfl, rfl, rfl, Nat.le_refl _, fun _ _ _ => rfl⟩
theorem Out.trans {lo hi : Nat} {A B C : World} (h : Out lo hi A B) (k : Out lo hi B C) : Out lo hi A C := ⟨k.os.trans h.os, k.tape.trans h.tape, k.output.trans h.output, Nat.le_trans h.size k.size, fun i hi hl => (k.same i hi (Nat.lt_of_lt_of_le hl h.size)).trans (h.same i hi hl)⟩
theorem Out.grown {lo hi : Nat} {A B : World} {row : Option Nat} (h : A.grownBy B row) (hr : ∀ k, row = some k → lo ≤ k ∧ k < hi) : Out lo hi A B :=
  ⟨h.os, h.tape, h.output, h.size, fun i hi hl => h.block i hl (fun e => by have := hr i e.symm; omega)⟩
theorem Out.alloc (lo hi : Nat) (A : World) (o : Obj) : Out lo hi A (A.alloc o) := Out.grown (World.grownBy_alloc A o none) (by simp)
theorem Out.below {lo hi : Nat} {w A B : World} (h : Out lo hi A B) (hw : Below w.heap.size w A) (hs : w.heap.size ≤ lo) : Below w.heap.size w B :=
  hw.trans ⟨h.os, h.tape, h.output, h.size, fun k hk => h.same k (by omega) (Nat.lt_of_lt_of_le hk hw.size)⟩
theorem Seg.outside {lo hi l h : Nat} {W W' : World} {v : Value} {zs : List Int} (hs : Seg l h W v zs) (ho : Out lo hi W W') (ha : h ≤ lo ∨ hi ≤ l) : Seg l h W' v zs :=
  ⟨hs.own.of_block fun k hk => ho.same k (by have h1 := (hs.own.blk k hk).1; have h2 := hs.top k hk; omega) (hs.own.blk k hk).2, hs.top, Nat.le_trans hs.le ho.size⟩
theorem boxed_outside {lo hi b : Nat} {W W' : World} {t : TypeId} {v : Value} (hb : Boxed W b t v) (ho : Out lo hi W W') (ha : b < lo ∨ hi ≤ b) : Boxed W' b t v := (ho.same b ha hb.lt).trans hb
theorem Box3.outside {lo hi b : Nat} {W W' : World} {t : TypeId} {u v x : Value} (hb : Box3 W b t u v x) (ho : Out lo hi W W') (ha : b < lo ∨ hi ≤ b) : Box3 W' b t u v x := (ho.same b ha hb.lt).trans hb
theorem Box3.marked {lo hi : Nat} {W W' : World} {b : Nat} {t : TypeId} {u v x y : Value} {zs : List Int} (h : Box3 W b t u v x) (hs : Seg lo hi W y zs) (hg : W.grownBy W' y.ownBlock) (hb : b < lo ∨ hi ≤ b) : Box3 W' b t u v x :=
  h.kept hg (fun e => by have h1 := hs.top b e.symm; have h2 := (hs.own.blk b e.symm).1; omega)

/-! ### jobs as three slices -/
/-- the slice values hold the lists -/
structure Jobs3 (n : Nat) (W : World) (cl cp cd : Value) (ls ps ds : List Int) : Prop where
  l : Ints n W cl ls
  p : Ints n W cp ps
  d : Ints n W cd ds
theorem Jobs3.below {n : Nat} {A B : World} {cl cp cd : Value} {ls ps ds : List Int} (h : Jobs3 n A cl cp cd ls ps ds) (hb : Below n A B) : Jobs3 n B cl cp cd ls ps ds := ⟨h.l.below hb, h.p.below hb, h.d.below hb⟩
theorem Jobs3.mono {n m : Nat} {A : World} {cl cp cd : Value} {ls ps ds : List Int} (h : Jobs3 n A cl cp cd ls ps ds) (hb : n ≤ m) : Jobs3 m A cl cp cd ls ps ds := ⟨h.l.mono hb, h.p.mono hb, h.d.mono hb⟩
theorem Jobs3.later {w W : World} {cl cp cd : Value} {ls ps ds : List Int} (h : Jobs3 w.heap.size w cl cp cd ls ps ds) (hb : Below w.heap.size w W) : Jobs3 W.heap.size W cl cp cd ls ps ds := ⟨h.l.later hb, h.p.later hb, h.d.later hb⟩
/-- lists of int64s -/
structure J64 (ls ps ds : List Int) : Prop where
  l : I64s ls
  p : I64s ps
  d : I64s ds
/-- .. of at most 1048576 elements -/
structure JLen (ls ps ds : List Int) : Prop where
  l : ls.length ≤ 1048576
  p : ps.length ≤ 1048576
  d : ds.length ≤ 1048576
/-- three lists, each in memory of its own, one above the other -/
def GivesIII (w : World) (xs ys zs : List Int) (mk : Value → Value → Value → Value) (e : Ending) (w' : World) : Prop :=
  ∃ u v x m1 m2, e = .returned (mk u v x) ∧ Seg w.heap.size m1 w' u xs ∧ Seg m1 m2 w' v ys ∧ Seg m2 w'.heap.size w' x zs ∧ w.heap.size ≤ m1 ∧ m1 ≤ m2 ∧ m2 ≤ w'.heap.size ∧ Below w.heap.size w w'

/-! ### sizes -/
theorem szInt64S_d (r : Int) (a : Option Addr) (n cap : Nat) (left : Int) (w : World) (h0 : 0 ≤ left) (h1 : left ≤ 1048576) (hn : n ≤ 9223372036854775807) (hr : szI n left = r) :
    Calls Try.prog 64 #[.slice a n cap, .int .i64 left] w fun e w' => e = .returned (.int .i64 r) ∧ w = w' := by
  subst hr; exact szInt64S_c a n cap left w h0 h1 hn
def szJ (n1 n2 n3 : Nat) (left : Int) : Int := if left - n1 - n2 - n3 < 0 then -1 else left - n1 - n2 - n3

set_option maxHeartbeats 1000000 in
theorem szJobs_c (a1 a2 a3 : Option Addr) (n1 n2 n3 c1 c2 c3 : Nat) (left : Int) (w : World) (h0 : 0 ≤ left) (h1 : left ≤ 1048576) (hn1 : n1 ≤ 9223372036854775807) (hn2 : n2 ≤ 9223372036854775807) (hn3 : n3 ≤ 9223372036854775807) :
    Calls Try.prog 20 #[.agg #[.slice a1 n1 c1, .slice a2 n2 c2, .slice a3 n3 c3], .int .i64 left] w fun e w' => e = .returned (.int .i64 (szJ n1 n2 n3 left)) ∧ Below w.heap.size w w' := by
  have hB0 : Below w.heap.size w (w.alloc (.cells #[.slice a1 n1 c1, .slice a2 n2 c2, .slice a3 n3 c3] 33)) := (Below.refl _ _).alloc (Nat.le_refl _) _
  by_cases k1 : left - n1 < 0
  · have Hm := Lib.hid (show szJ n1 n2 n3 left = -1 by unfold szJ; rw [if_pos (by omega)])
    have H1 := Lib.hid (show szI n1 left = -1 by unfold szI; rw [if_pos (by omega)])
    go_enter Try.func20, Try.ntmps20
    go_wp2_with (go_at_call 64; refine (szInt64S_d (-1) _ _ _ _ _ (by omega) (by omega) hn1 H1.out).mono ?_; rintro e w' ⟨rfl, rfl⟩)
    go_ret
    exact ⟨ret_int Hm.out.symm, hB0⟩
  · by_cases k2 : left - n1 - n2 < 0
    · have Hm := Lib.hid (show szJ n1 n2 n3 left = -1 by unfold szJ; rw [if_pos (by omega)])
      have H1 := Lib.hid (show szI n1 left = left - n1 by unfold szI; rw [if_neg (by omega)])
      have H2 := Lib.hid (show szI n2 (left - n1) = -1 by unfold szI; rw [if_pos (by omega)])
      go_enter Try.func20, Try.ntmps20
      go_wp2_with fail
      refine (szInt64S_d (left - n1) _ _ _ _ _ (by omega) (by omega) hn1 H1.out).mono ?_
      rintro e w' ⟨rfl, rfl⟩
      go_wp2_with fail
      refine (szInt64S_d (-1) _ _ _ _ _ (by omega) (by omega) hn2 H2.out).mono ?_
      rintro e w' ⟨rfl, rfl⟩
      go_wp2
      go_ret
      exact ⟨ret_int Hm.out.symm, hB0⟩
    · have H1 := Lib.hid (show szI n1 left = left - n1 by unfold szI; rw [if_neg (by omega)])
      have H2 := Lib.hid (show szI n2 (left - n1) = left - n1 - n2 by unfold szI; rw [if_neg (by omega)])
      by_cases k3 : left - n1 - n2 - n3 < 0
      · have Hm := Lib.hid (show szJ n1 n2 n3 left = -1 by unfold szJ; rw [if_pos (by omega)])
        have H3 := Lib.hid (show szI n3 (left - n1 - n2) = -1 by unfold szI; rw [if_pos (by omega)])
        go_enter Try.func20, Try.ntmps20
        go_wp2_with fail
        refine (szInt64S_d (left - n1) _ _ _ _ _ (by omega) (by omega) hn1 H1.out).mono ?_
        rintro e w' ⟨rfl, rfl⟩
        go_wp2_with fail
        refine (szInt64S_d (left - n1 - n2) _ _ _ _ _ (by omega) (by omega) hn2 H2.out).mono ?_
        rintro e w' ⟨rfl, rfl⟩
        go_wp2_with fail
        refine (szInt64S_d (-1) _ _ _ _ _ (by omega) (by omega) hn3 H3.out).mono ?_
        rintro e w' ⟨rfl, rfl⟩
        go_wp2
        go_ret
        exact ⟨ret_int Hm.out.symm, hB0⟩
      · have Hm := Lib.hid (show szJ n1 n2 n3 left = left - n1 - n2 - n3 by unfold szJ; rw [if_neg (by omega)])
        have H3 := Lib.hid (show szI n3 (left - n1 - n2) = left - n1 - n2 - n3 by unfold szI; rw [if_neg (by omega)])
        go_enter Try.func20, Try.ntmps20
        go_wp2_with fail
        refine (szInt64S_d (left - n1) _ _ _ _ _ (by omega) (by omega) hn1 H1.out).mono ?_
        rintro e w' ⟨rfl, rfl⟩
        go_wp2_with fail
        refine (szInt64S_d (left - n1 - n2) _ _ _ _ _ (by omega) (by omega) hn2 H2.out).mono ?_
        rintro e w' ⟨rfl, rfl⟩
        go_wp2_with fail
        refine (szInt64S_d (left - n1 - n2 - n3) _ _ _ _ _ (by omega) (by omega) hn3 H3.out).mono ?_
        rintro e w' ⟨rfl, rfl⟩
        go_wp2
        go_ret
        exact ⟨ret_int Hm.out.symm, hB0⟩

/-! ### copies -/
set_option maxRecDepth 100000 in
set_option maxHeartbeats 4000000 in
theorem toJobs_c (cl cp cd : Value) (ls ps ds : List Int) (w : World) (hI : Jobs3 w.heap.size w cl cp cd ls ps ds) (hl : JLen ls ps ds) :
    Calls Try.prog 22 #[.agg #[cl, cp, cd]] w (GivesIII w ls ps ds fun u v x => .agg #[u, v, x]) := by
  obtain ⟨al, capl, rfl⟩ := hI.l.shape
  obtain ⟨ap, capp, rfl⟩ := hI.p.shape
  obtain ⟨ad, capd, rfl⟩ := hI.d.shape
  go_enter Try.func22, Try.ntmps22
  go_wp2_with fail
  obtain ⟨W0, hW0⟩ : ∃ W0, (((w.alloc (.cells #[.slice al ls.length capl, .slice ap ps.length capp, .slice ad ds.length capd] 33)).alloc (.cells #[.slice none 0 0, .slice none 0 0, .slice none 0 0] 37)).alloc (.cells #[.slice none 0 0, .slice none 0 0, .slice none 0 0] 37)) = W0 := ⟨_, rfl⟩
  have bA : Box3 W0 w.heap.size 33 (.slice al ls.length capl) (.slice ap ps.length capp) (.slice ad ds.length capd) := by rw [← hW0]; exact ((Box3.new w _ _ _ _).alloc _).alloc _
  have bO : Box3 W0 (w.heap.size + 1) 37 (.slice none 0 0) (.slice none 0 0) (.slice none 0 0) := by rw [← hW0]; simpa using (Box3.new (w.alloc (.cells #[.slice al ls.length capl, .slice ap ps.length capp, .slice ad ds.length capd] 33)) 37 (.slice none 0 0) (.slice none 0 0) (.slice none 0 0)).alloc _
  have hB0 : Below w.heap.size w W0 := by rw [← hW0]; exact (((Below.refl _ w).alloc (Nat.le_refl _) _).alloc (by simp) _).alloc (by simp; omega) _
  have bQ : Box3 W0 (w.heap.size + 1 + 1) 37 (.slice none 0 0) (.slice none 0 0) (.slice none 0 0) := by rw [← hW0]; simpa using (Box3.new ((w.alloc (.cells #[.slice al ls.length capl, .slice ap ps.length capp, .slice ad ds.length capd] 33)).alloc (.cells #[.slice none 0 0, .slice none 0 0, .slice none 0 0] 37)) 37 (.slice none 0 0) (.slice none 0 0) (.slice none 0 0))
  have hs0 : w.heap.size + 3 ≤ W0.heap.size := by rw [← hW0]; simp
  rw [hW0]
  clear hW0
  have hB1 := hB0
  clear hB0
  refine (toInt64S_c _ ls _ (hI.l.later hB1) hl.l).mono ?_
  rintro e W1 ⟨u, rfl, ho, hb⟩
  obtain ⟨a1, c1, rfl⟩ := ho.ints.shape
  have g1 := Seg.new ho
  replace bA := bA.later hb
  replace bO := bO.later hb
  replace bQ := bQ.later hb
  replace hB1 := hB1.trans (hb.mono (by omega))
  have hsW1 := hb.size
  clear hb ho
  have f1 := bQ.frozen 0
  have e1 := bQ.c0
  have k9 := (bA.other (b' := w.heap.size + 1 + 1) (i := 0) (by omega) (.slice a1 ls.length c1)).c1
  go_wp2_with fail
  have hout : Out (w.heap.size + 1 + 1) (w.heap.size + 1 + 1 + 1) W1 (W1.setCell ⟨w.heap.size + 1 + 1, 0, none⟩ (.slice a1 ls.length c1)) := Out.grown (grownBy_setJ _ _ _ _) (fun k e => by cases e; omega)
  replace bA := bA.other (b' := w.heap.size + 1 + 1) (i := 0) (by omega) (.slice a1 ls.length c1)
  replace bO := bO.other (b' := w.heap.size + 1 + 1) (i := 0) (by omega) (.slice a1 ls.length c1)
  replace bQ := bQ.set0 (.slice a1 ls.length c1)
  replace hB1 := hB1.setCell (p := ⟨w.heap.size + 1 + 1, 0, none⟩) (by show w.heap.size ≤ w.heap.size + 1 + 1; omega) (.slice a1 ls.length c1)
  replace g1 := g1.outside hout (.inr (by omega))
  have hsW2 : W1.heap.size ≤ (W1.setCell ⟨w.heap.size + 1 + 1, 0, none⟩ (.slice a1 ls.length c1)).heap.size := by simp [World.setCell]
  obtain ⟨W2, hWn⟩ : ∃ W2, W1.setCell ⟨w.heap.size + 1 + 1, 0, none⟩ (.slice a1 ls.length c1) = W2 := ⟨_, rfl⟩
  rw [hWn] at bA bO bQ hB1 hsW2 g1
  rw [hWn]
  clear hWn f1 e1 k9 hout
  refine (toInt64S_c _ ps _ (hI.p.later hB1) hl.p).mono ?_
  rintro e W3 ⟨u, rfl, ho, hb⟩
  obtain ⟨a2, c2, rfl⟩ := ho.ints.shape
  have g2 := Seg.new ho
  replace bA := bA.later hb
  replace bO := bO.later hb
  replace bQ := bQ.later hb
  replace g1 := g1.below hb
  replace hB1 := hB1.trans (hb.mono (by omega))
  have hsW3 := hb.size
  clear hb ho
  have f1 := bQ.frozen 1
  have e1 := bQ.c1
  have k9 := (bA.other (b' := w.heap.size + 1 + 1) (i := 1) (by omega) (.slice a2 ps.length c2)).c2
  go_wp2_with fail
  have hout : Out (w.heap.size + 1 + 1) (w.heap.size + 1 + 1 + 1) W3 (W3.setCell ⟨w.heap.size + 1 + 1, 1, none⟩ (.slice a2 ps.length c2)) := Out.grown (grownBy_setJ _ _ _ _) (fun k e => by cases e; omega)
  replace bA := bA.other (b' := w.heap.size + 1 + 1) (i := 1) (by omega) (.slice a2 ps.length c2)
  replace bO := bO.other (b' := w.heap.size + 1 + 1) (i := 1) (by omega) (.slice a2 ps.length c2)
  replace bQ := bQ.set1 (.slice a2 ps.length c2)
  replace hB1 := hB1.setCell (p := ⟨w.heap.size + 1 + 1, 1, none⟩) (by show w.heap.size ≤ w.heap.size + 1 + 1; omega) (.slice a2 ps.length c2)
  replace g1 := g1.outside hout (.inr (by omega))
  replace g2 := g2.outside hout (.inr (by omega))
  have hsW4 : W3.heap.size ≤ (W3.setCell ⟨w.heap.size + 1 + 1, 1, none⟩ (.slice a2 ps.length c2)).heap.size := by simp [World.setCell]
  obtain ⟨W4, hWn⟩ : ∃ W4, W3.setCell ⟨w.heap.size + 1 + 1, 1, none⟩ (.slice a2 ps.length c2) = W4 := ⟨_, rfl⟩
  rw [hWn] at bA bO bQ hB1 hsW4 g1 g2
  rw [hWn]
  clear hWn f1 e1 k9 hout
  refine (toInt64S_c _ ds _ (hI.d.later hB1) hl.d).mono ?_
  rintro e W5 ⟨u, rfl, ho, hb⟩
  obtain ⟨a3, c3, rfl⟩ := ho.ints.shape
  have g3 := Seg.new ho
  replace bA := bA.later hb
  replace bO := bO.later hb
  replace bQ := bQ.later hb
  replace g1 := g1.below hb
  replace g2 := g2.below hb
  replace hB1 := hB1.trans (hb.mono (by omega))
  have hsW5 := hb.size
  clear hb ho
  have f1 := bQ.frozen 2
  have e1 := bQ.c2
  have k7 := (bQ.set2 (.slice a3 ds.length c3)).c0
  have k8 := (bQ.set2 (.slice a3 ds.length c3)).c1
  have k9 := (bQ.set2 (.slice a3 ds.length c3)).c2
  have k0 := bO.frozen 0
  have k00 := bO.frozen 1
  have k000 := bO.frozen 2
  have j0 := bO.c0
  have j1 := bO.c1
  have j2 := bO.c2
  go_wp2_with fail
  have hout : Out (w.heap.size + 1) (w.heap.size + 3) W5 (((((W5.setCell ⟨w.heap.size + 1 + 1, 2, none⟩ (.slice a3 ds.length c3)).setCell ⟨w.heap.size + 1, 0, none⟩ (.slice a1 ls.length c1)).setCell ⟨w.heap.size + 1, 1, none⟩ (.slice a2 ps.length c2)).setCell ⟨w.heap.size + 1, 2, none⟩ (.slice a3 ds.length c3))) :=
    (((Out.grown (grownBy_setJ _ _ _ _) (fun k e => by cases e; omega)).trans (Out.grown (grownBy_setJ _ _ _ _) (fun k e => by cases e; omega))).trans (Out.grown (grownBy_setJ _ _ _ _) (fun k e => by cases e; omega))).trans (Out.grown (grownBy_setJ _ _ _ _) (fun k e => by cases e; omega))
  have bF := (((bO.other (b' := w.heap.size + 1 + 1) (i := 2) (by omega) (.slice a3 ds.length c3)).set0 (.slice a1 ls.length c1)).set1 (.slice a2 ps.length c2)).set2 (.slice a3 ds.length c3)
  have n0 := bF.c0
  have n1 := bF.c1
  have n2 := bF.c2
  have hsz : W5.heap.size = (((((W5.setCell ⟨w.heap.size + 1 + 1, 2, none⟩ (.slice a3 ds.length c3)).setCell ⟨w.heap.size + 1, 0, none⟩ (.slice a1 ls.length c1)).setCell ⟨w.heap.size + 1, 1, none⟩ (.slice a2 ps.length c2)).setCell ⟨w.heap.size + 1, 2, none⟩ (.slice a3 ds.length c3))).heap.size := by simp [World.setCell]
  refine bodyPost_ret (v := .agg #[.slice a1 ls.length c1, .slice a2 ps.length c2, .slice a3 ds.length c3]) (by simp [results, Try.results22, go_sem, n0, n1, n2]) rfl ⟨_, _, _, W1.heap.size, W3.heap.size, rfl, ?_, ?_, ?_, by omega, by omega, by omega, hout.below hB1 (by omega)⟩
  · have h := g1.outside hout (.inr (by omega)); exact ⟨h.own.base (by omega), h.top, h.le⟩
  · have h := g2.outside hout (.inr (by omega)); exact ⟨h.own.base (by omega), h.top, h.le⟩
  · have h := g3.outside hout (.inr (by omega)); exact ⟨h.own.base (by omega), fun k e => by have := h.top k e; omega, Nat.le_refl _⟩

/-! ### comparisons -/
set_option maxRecDepth 100000 in
set_option maxHeartbeats 4000000 in
theorem eqJobs_t (cl cp cd cl' cp' cd' : Value) (ls ps ds : List Int) (w : World) (hX : Jobs3 w.heap.size w cl cp cd ls ps ds) (hY : Jobs3 w.heap.size w cl' cp' cd' ls ps ds) (h1 : ls.length * 8 ≤ 140737488351232) (h2 : ps.length * 8 ≤ 140737488351232) (h3 : ds.length * 8 ≤ 140737488351232) :
    Calls Try.prog 25 #[.agg #[cl, cp, cd], .agg #[cl', cp', cd']] w fun e w' => e = .returned (.bool true) ∧ Below w.heap.size w w' := by
  obtain ⟨al, capl, rfl⟩ := hX.l.shape
  obtain ⟨ap, capp, rfl⟩ := hX.p.shape
  obtain ⟨ad, capd, rfl⟩ := hX.d.shape
  obtain ⟨al', capl', rfl⟩ := hY.l.shape
  obtain ⟨ap', capp', rfl⟩ := hY.p.shape
  obtain ⟨ad', capd', rfl⟩ := hY.d.shape
  go_enter Try.func25, Try.ntmps25
  go_wp2_with fail
  obtain ⟨W0, hW0⟩ : ∃ W0, ((w.alloc (.cells #[.slice al ls.length capl, .slice ap ps.length capp, .slice ad ds.length capd] 37)).alloc (.cells #[.slice al' ls.length capl', .slice ap' ps.length capp', .slice ad' ds.length capd'] 37)) = W0 := ⟨_, rfl⟩
  have bA : Box3 W0 w.heap.size 37 (.slice al ls.length capl) (.slice ap ps.length capp) (.slice ad ds.length capd) := by rw [← hW0]; exact (Box3.new w _ _ _ _).alloc _
  have bO : Box3 W0 (w.heap.size + 1) 37 (.slice al' ls.length capl') (.slice ap' ps.length capp') (.slice ad' ds.length capd') := by rw [← hW0]; simpa using Box3.new (w.alloc (.cells #[.slice al ls.length capl, .slice ap ps.length capp, .slice ad ds.length capd] 37)) 37 (.slice al' ls.length capl') (.slice ap' ps.length capp') (.slice ad' ds.length capd')
  have hB : Below w.heap.size w W0 := by rw [← hW0]; exact ((Below.refl _ w).alloc (Nat.le_refl _) _).alloc (by simp) _
  rw [hW0]
  clear hW0
  have hX0 := hX.later hB
  have hY0 := hY.later hB
  refine (eqInt64S_d true _ _ ls ls _ hX0.l hY0.l h1 (by simp)).mono ?_
  rintro e W1 ⟨rfl, hb⟩
  replace bA := bA.later hb
  replace bO := bO.later hb
  replace hX0 := hX0.later hb
  replace hY0 := hY0.later hb
  replace hB := hB.trans (hb.mono hB.size)
  clear hb
  have k1 := bA.c1
  have k2 := bO.c1
  go_wp2_with fail
  refine (eqInt64S_d true _ _ ps ps _ hX0.p hY0.p h2 (by simp)).mono ?_
  rintro e W2 ⟨rfl, hb⟩
  replace bA := bA.later hb
  replace bO := bO.later hb
  replace hX0 := hX0.later hb
  replace hY0 := hY0.later hb
  replace hB := hB.trans (hb.mono hB.size)
  clear hb k1 k2
  have k1 := bA.c2
  have k2 := bO.c2
  go_wp2_with fail
  refine (eqInt64S_d true _ _ ds ds _ hX0.d hY0.d h3 (by simp)).mono ?_
  rintro e W3 ⟨rfl, hb⟩
  replace hB := hB.trans (hb.mono hB.size)
  go_wp2
  go_ret
  exact ⟨rfl, hB⟩

/-! ### marks -/
theorem Seg.out_marked {lo hi : Nat} {W W' : World} {v : Value} {zs : List Int} (h : Seg lo hi W v zs) (hg : W.grownBy W' v.ownBlock) {l h' : Nat} (h1 : l ≤ lo) (h2 : hi ≤ h') : Out l h' W W' :=
  Out.grown hg (fun k e => by have a := h.top k e; have b := (h.own.blk k e).1; omega)
set_option maxRecDepth 100000 in
set_option maxHeartbeats 4000000 in
theorem markJobs_c (lo m1 m2 hi : Nat) (u v x : Value) (xs ys zs : List Int) (k : Int) (w : World) (g1 : Seg lo m1 w u xs) (g2 : Seg m1 m2 w v ys) (g3 : Seg m2 hi w x zs) (o1 : lo ≤ m1) (o2 : m1 ≤ m2) (o3 : m2 ≤ hi)
    (h1 : xs.length * 8 ≤ 140737488351232) (h2 : ys.length * 8 ≤ 140737488351232) (h3 : zs.length * 8 ≤ 140737488351232) (hk0 : 0 ≤ k) (hk1 : k + xs.length + ys.length ≤ 1099511627776) :
    Calls Try.prog 26 #[.agg #[u, v, x], .int .i64 k] w fun e w' => e = .returned (.int .i64 (k + xs.length + ys.length + zs.length)) ∧ Seg lo m1 w' u (ups k xs.length) ∧ Seg m1 m2 w' v (ups (k + xs.length) ys.length) ∧ Seg m2 hi w' x (ups (k + xs.length + ys.length) zs.length) ∧ Out lo hi w w' := by
  obtain ⟨a1, c1, rfl⟩ := g1.ints.shape
  obtain ⟨a2, c2, rfl⟩ := g2.ints.shape
  obtain ⟨a3, c3, rfl⟩ := g3.ints.shape
  have hhi : hi ≤ w.heap.size := g3.le
  go_enter Try.func26, Try.ntmps26
  go_wp2_with fail
  obtain ⟨W0, hW0⟩ : ∃ W0, (w.alloc (.cells #[.slice a1 xs.length c1, .slice a2 ys.length c2, .slice a3 zs.length c3] 37)) = W0 := ⟨_, rfl⟩
  have bA : Box3 W0 w.heap.size 37 (.slice a1 xs.length c1) (.slice a2 ys.length c2) (.slice a3 zs.length c3) := by rw [← hW0]; exact Box3.new w _ _ _ _
  have hO : Out lo hi w W0 := by rw [← hW0]; exact Out.alloc _ _ _ _
  have hb : Below w.heap.size w W0 := by rw [← hW0]; exact (Below.refl _ _).alloc (Nat.le_refl _) _
  have hs0 : w.heap.size + 1 ≤ W0.heap.size := by rw [← hW0]; simp
  replace g1 := g1.below hb
  replace g2 := g2.below hb
  replace g3 := g3.below hb
  rw [hW0]
  clear hW0 hb
  refine (markInt64S_c _ _ _ k _ g1.own h1 (by omega) (by omega)).mono ?_
  rintro e W1 ⟨rfl, ho, hg⟩
  have hs1 := hg.size
  replace bA := bA.marked g1 hg (by omega)
  replace hO := hO.trans (g1.out_marked hg (by omega) (by omega))
  replace g2 := g2.kept hg (g1.apart (by omega))
  replace g3 := g3.kept hg (g1.apart (by omega))
  replace g1 := g1.marked ho hg
  clear ho hg
  have k1 := bA.c1
  go_wp2_with fail
  refine (markInt64S_c _ _ _ (k + xs.length) _ g2.own h2 (by omega) (by omega)).mono ?_
  rintro e W2 ⟨rfl, ho, hg⟩
  have hs2 := hg.size
  replace bA := bA.marked g2 hg (by omega)
  replace hO := hO.trans (g2.out_marked hg (by omega) (by omega))
  replace g1 := g1.kept hg (g2.apart (by omega))
  replace g3 := g3.kept hg (g2.apart (by omega))
  replace g2 := g2.marked ho hg
  clear ho hg k1
  have k1 := bA.c2
  go_wp2_with fail
  refine (markInt64S_c _ _ _ (k + xs.length + ys.length) _ g3.own h3 (by omega) (by omega)).mono ?_
  rintro e W3 ⟨rfl, ho, hg⟩
  replace hO := hO.trans (g3.out_marked hg (by omega) (by omega))
  replace g1 := g1.kept hg (g3.apart (by omega))
  replace g2 := g2.kept hg (g3.apart (by omega))
  replace g3 := g3.marked ho hg
  clear ho hg k1
  go_wp2
  go_ret
  exact ⟨rfl, g1, g2, g3, hO⟩

/-! ### opening a struct of three slices -/
section
open Go.ChangeShapes Go.WideShapes Go.ChangeAt Go.Joins
variable {H : Type} {enc : TypeId × Value → H} {P : Program}
theorem open_agg3 {w : World} {base : Nat} {spare : Nat → Bool} {held : Bool} {r : Reach} {b0 : Nat} {t : TypeId} {f0 f1 f2 : Field} {v : Value} {d : DataW H} {p : List MemPlace} (hs : P.underlying t = some (.struct #[f0, f1, f2])) (ho0 : f0.offset = 0) (ho1 : f1.offset = 1) (ho2 : f2.offset = 2)
    (hk0 : P.cellsOf f0.type = 1) (hk1 : P.cellsOf f1.type = 1) (hk2 : P.cellsOf f2.type = 1) (hC : P.cellsOf t = 3) (hv : Value.okWide P w r b0 t v) (h : DataW.Trod enc P w base spare held t v d p) :
    ∃ (v0 v1 v2 : Value) (y0 y1 y2 : DataW H × List MemPlace) (n : Nat), v = .agg #[v0, v1, v2] ∧ d = .agg [y0.1, y1.1, y2.1] ∧ p = y0.2 ++ (y1.2 ++ y2.2) ∧ DataW.trod enc P w base spare held n f0.type [v0] = some y0 ∧ DataW.trod enc P w base spare held n f1.type [v1] = some y1 ∧ DataW.trod enc P w base spare held n f2.type [v2] = some y2 := by
  obtain ⟨cs, rfl, hsz⟩ := okWide_struct hs hv
  obtain ⟨c0, c1, c2, rfl⟩ : ∃ c0 c1 c2, cs = #[c0, c1, c2] := by
    have h1 : cs.size = 3 := hsz.trans hC
    obtain ⟨l⟩ := cs
    match l, h1 with
    | [c0, c1, c2], _ => exact ⟨c0, c1, c2, rfl⟩
  obtain ⟨fuel, hf⟩ := h
  obtain ⟨xs, n, _, hx, hl, hlen, hg⟩ := DataW.trod_struct hs hf
  match xs, hlen with
  | [y0, y1, y2], _ =>
    have e0 := hg 0 f0 rfl
    have e1 := hg 1 f1 rfl
    have e2 := hg 2 f2 rfl
    simp only [Prod.mk.injEq] at hx
    refine ⟨c0, c1, c2, y0, y1, y2, n, rfl, by simpa using hx.1, by simpa using hx.2, ?_, ?_, ?_⟩
    · simpa [Value.cells, ho0, hk0] using e0
    · simpa [Value.cells, ho1, hk1] using e1
    · simpa [Value.cells, ho2, hk2] using e2
end

end Go.Proofs.Ytbhpflhopajbfaa
