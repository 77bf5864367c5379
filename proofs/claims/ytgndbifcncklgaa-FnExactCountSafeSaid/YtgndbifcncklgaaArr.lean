/-
  States of the program, as arrays: what is a state, a choice; the array of a list and the list of an array; steps; StepState of the program.
  Conditions: lists of at most 1048576 elements; where an array is made, numbers from 0 to 255.
-/
import Derived.Test.YtgndbifcncklgaaStS
namespace Go.Proofs.Ytgndbifcncklgaa
open Go.RowKit Go.Shelf
attribute [local go_sem] Oper.semAt_some

/-! ### arrays -/
/-- the cells of the array of a list: zeros behind its end -/
def cells8 (xs : List Int) : Array Value := #[.int .u8 (nth xs 0), .int .u8 (nth xs 1), .int .u8 (nth xs 2), .int .u8 (nth xs 3), .int .u8 (nth xs 4), .int .u8 (nth xs 5), .int .u8 (nth xs 6), .int .u8 (nth xs 7)]
def arrV (xs : List Int) : Value := .agg (cells8 xs)
/-- the block b is a variable that holds the array of xs -/
def Arr (W : World) (b : Nat) (xs : List Int) : Prop := W.heap[b]? = some (.cells (cells8 xs) 64 (0, 0))
theorem cells8_at {xs : List Int} {i : Nat} (h : i < 8) : (cells8 xs)[i]? = some (.int .u8 (nth xs i)) := by
  have : i = 0 ∨ i = 1 ∨ i = 2 ∨ i = 3 ∨ i = 4 ∨ i = 5 ∨ i = 6 ∨ i = 7 := by omega
  rcases this with h | h | h | h | h | h | h | h <;> subst h <;> rfl
theorem cells8_ext {xs ys : List Int} (h : ∀ i, i < 8 → nth xs i = nth ys i) : cells8 xs = cells8 ys := by
  unfold cells8
  rw [h 0 (by omega), h 1 (by omega), h 2 (by omega), h 3 (by omega), h 4 (by omega), h 5 (by omega), h 6 (by omega), h 7 (by omega)]
theorem cells8_inj {xs ys : List Int} (h : cells8 xs = cells8 ys) {i : Nat} (hi : i < 8) : nth xs i = nth ys i := by
  have h1 := cells8_at (xs := xs) hi
  have h2 := cells8_at (xs := ys) hi
  rw [h, h2] at h1
  simpa using h1.symm
theorem Arr.lt {W : World} {b : Nat} {xs : List Int} (h : Arr W b xs) : b < W.heap.size := (Array.getElem?_eq_some_iff.1 h).1
theorem Arr.cell {W : World} {b : Nat} {xs : List Int} (h : Arr W b xs) {i : Nat} (hi : i < 8) : W.cell? ⟨b, i, none⟩ = some (.int .u8 (nth xs i)) := by
  simp [World.cell?, show W.heap[b]? = _ from h, cells8_at hi]
theorem Arr.frozen {W : World} {b : Nat} {xs : List Int} (h : Arr W b xs) (i : Nat) : W.frozen? ⟨b, i, none⟩ = false := by simp [World.frozen?, show W.heap[b]? = _ from h]
theorem Arr.new (W : World) (xs : List Int) : Arr (W.alloc (.cells (cells8 xs) 64)) W.heap.size xs := World.alloc_heap_new W _
theorem Arr.kept {W W' : World} {row : Option Nat} {b : Nat} {xs : List Int} (h : Arr W b xs) (hg : W.grownBy W' row) (hne : some b ≠ row) : Arr W' b xs := (hg.block b h.lt hne).trans h
theorem Arr.alloc {W : World} {b : Nat} {xs : List Int} (h : Arr W b xs) (o : Obj) : Arr (W.alloc o) b xs := h.kept (World.grownBy_alloc W o none) (by simp)
theorem Arr.below {n : Nat} {W W' : World} {b : Nat} {xs : List Int} (h : Arr W b xs) (hb : Below n W W') (hn : b < n) : Arr W' b xs := (hb.block b hn).trans h
theorem Arr.later {W W' : World} {b : Nat} {xs : List Int} (h : Arr W b xs) (hb : Below W.heap.size W W') : Arr W' b xs := (hb.block b h.lt).trans h
theorem Arr.ext {W : World} {b : Nat} {xs ys : List Int} (h : Arr W b xs) (he : ∀ i, i < 8 → nth xs i = nth ys i) : Arr W b ys := by unfold Arr; rw [← cells8_ext he]; exact h
theorem cells8_set {xs ys : List Int} {i : Nat} {u : Int} (hy : ∀ j, j < 8 → nth ys j = if j = i then u else nth xs j) : (cells8 xs).setIfInBounds i (.int .u8 u) = cells8 ys := by
  refine Array.ext (by simp [cells8]) fun j h1 h2 => ?_
  have hj : j < 8 := by simpa [cells8] using h2
  have e1 := cells8_at (xs := xs) hj
  have e2 := cells8_at (xs := ys) hj
  rw [Array.getElem?_eq_getElem h2, hy j hj] at e2
  rw [Array.getElem?_eq_getElem (by simpa using h1)] at e1
  rw [Array.getElem_setIfInBounds]
  simp only [Option.some.injEq] at e1 e2
  rw [e2]
  by_cases h : i = j
  · subst h; rw [if_pos rfl, if_pos rfl]
  · rw [if_neg h, if_neg (fun e => h e.symm)]; exact e1
theorem Arr.set {W : World} {b : Nat} {xs ys : List Int} {i : Nat} {u : Int} (h : Arr W b xs) (hy : ∀ j, j < 8 → nth ys j = if j = i then u else nth xs j) : Arr (W.setCell ⟨b, i, none⟩ (.int .u8 u)) b ys := by
  obtain ⟨hlt, hk⟩ := Array.getElem?_eq_some_iff.1 h
  show (W.heap.modify b _)[b]? = _
  rw [Array.getElem?_eq_getElem (by rw [Array.size_modify]; exact hlt), Array.getElem_modify_self, hk]
  simp only [Option.isSome_none, Bool.false_eq_true, if_false]
  rw [cells8_set hy]
theorem Arr.other {W : World} {b b' i : Nat} {xs : List Int} (h : Arr W b xs) (hne : b ≠ b') (u : Value) : Arr (W.setCell ⟨b', i, none⟩ u) b xs := h.kept (grownBy_setCell2 W b' i u) (by simpa using hne)
theorem arr_own {β : Type} (b : Nat) (f : β → List Int) : Own (fun s W => Arr W b (f s)) := fun s X Y row hs hg hrow =>
  hs.kept hg (fun e' => by obtain ⟨o, ho, hc⟩ := hrow b e'.symm; rw [show X.heap[b]? = _ from hs] at ho; cases ho; cases hc)
theorem arr_shut {W : World} {b D : Nat} {xs : List Int} (h : Arr W b xs) (hK : W.heap[D]? = some (.deferred (some []))) : Arr (W.putObj D (.deferred none)) b xs :=
  (World.putObj_heap_other (by rintro rfl; rw [show W.heap[b]? = _ from h] at hK; cases hK)).trans h
def mix8 (xs ys : List Int) (k : Nat) : List Int := (List.range 8).map fun (i : Nat) => if i < k then nth ys i else nth xs i
theorem nth_mix8 {xs ys : List Int} {k j : Nat} (h : j < 8) : nth (mix8 xs ys k) j = if j < k then nth ys j else nth xs j := by simp [nth, mix8, h]
theorem Arr.mix {W : World} {b : Nat} {xs ys : List Int} {k : Nat} (h : Arr W b (mix8 xs ys k)) (_hk : k < 8) : Arr (W.setCell ⟨b, k, none⟩ (.int .u8 (nth ys k))) b (mix8 xs ys (k + 1)) :=
  h.set fun j hj => by
    rw [nth_mix8 hj, nth_mix8 hj]
    by_cases e : j = k
    · subst e; rw [if_pos rfl, if_pos (by omega)]
    · rw [if_neg e]
      by_cases e2 : j < k
      · rw [if_pos e2, if_pos (by omega)]
      · rw [if_neg e2, if_neg (by omega)]
/-- the world in which the array of ys has been stored into the variable b -/
def store8 (W : World) (b : Nat) (ys : List Int) : World := ((((((((W.setCell ⟨b, 0, none⟩ (.int .u8 (nth ys 0))).setCell ⟨b, 1, none⟩ (.int .u8 (nth ys 1))).setCell ⟨b, 2, none⟩ (.int .u8 (nth ys 2))).setCell ⟨b, 3, none⟩ (.int .u8 (nth ys 3))).setCell ⟨b, 4, none⟩ (.int .u8 (nth ys 4))).setCell ⟨b, 5, none⟩ (.int .u8 (nth ys 5))).setCell ⟨b, 6, none⟩ (.int .u8 (nth ys 6))).setCell ⟨b, 7, none⟩ (.int .u8 (nth ys 7)))
theorem Arr.stored8 {W : World} {b : Nat} {xs : List Int} (ys : List Int) (h : Arr W b xs) : Arr (store8 W b ys) b ys := by
  have h0 : Arr W b (mix8 xs ys 0) := h.ext fun i hi => by rw [nth_mix8 hi, if_neg (by omega)]
  have h1 := h0.mix (by omega)
  have h2 := h1.mix (by omega)
  have h3 := h2.mix (by omega)
  have h4 := h3.mix (by omega)
  have h5 := h4.mix (by omega)
  have h6 := h5.mix (by omega)
  have h7 := h6.mix (by omega)
  have h8 := h7.mix (by omega)
  unfold store8
  exact h8.ext fun i hi => by rw [nth_mix8 hi, if_pos hi]
theorem grownBy_set8 (W : World) (b : Nat) (ys : List Int) : W.grownBy (store8 W b ys) (some b) :=
  (((((((grownBy_setCell2 W b 0 _).trans (grownBy_setCell2 _ b 1 _)).trans (grownBy_setCell2 _ b 2 _)).trans (grownBy_setCell2 _ b 3 _)).trans (grownBy_setCell2 _ b 4 _)).trans (grownBy_setCell2 _ b 5 _)).trans (grownBy_setCell2 _ b 6 _)).trans (grownBy_setCell2 _ b 7 _)
theorem below_set8 {n : Nat} {w W : World} {b : Nat} (ys : List Int) (h : Below n w W) (hb : n ≤ b) (hn : n ≤ w.heap.size) : Below n w (store8 W b ys) := by
  have hg := grownBy_set8 W b ys
  exact ⟨hg.os.trans h.os, hg.tape.trans h.tape, hg.output.trans h.output, Nat.le_trans h.size hg.size, fun k hk => (hg.block k (Nat.lt_of_lt_of_le hk (Nat.le_trans hn h.size)) (fun e => by cases e; omega)).trans (h.block k hk)⟩
theorem def_set8 {W : World} {b D : Nat} {xs : List Int} (ys : List Int) (h : Arr W b xs) (hK : W.heap[D]? = some (.deferred (some []))) : (store8 W b ys).heap[D]? = some (.deferred (some [])) :=
  ((grownBy_set8 W b ys).block D (Array.getElem?_eq_some_iff.1 hK).1 (fun e => by cases e; rw [show W.heap[_]? = _ from h] at hK; cases hK)).trans hK

theorem nth_take_u8 {zs : List Int} {k : Nat} (hk : k < zs.length) (j : Nat) : nth (zs.take (k + 1)) j = if j = k then nth zs k else nth (zs.take k) j := by
  unfold nth
  by_cases h : j = k
  · subst h; rw [if_pos rfl, List.getElem?_take_of_lt (by omega)]
  · rw [if_neg h]
    by_cases hj : j < k
    · rw [List.getElem?_take_of_lt (by omega), List.getElem?_take_of_lt hj]
    · rw [List.getElem?_eq_none (by simp; omega), List.getElem?_eq_none (by simp; omega)]

set_option maxRecDepth 100000 in
set_option maxHeartbeats 8000000 in
theorem taskStateOf_c (c0 : Value) (zs : List Int) (w : World) (hI : Ints w.heap.size w c0 zs) (hl : zs.length ≤ 8) (hb : ∀ k, k < zs.length → 0 ≤ nth zs k ∧ nth zs k ≤ 255) :
    Calls Try.prog 127 #[c0] w fun e w' => e = .returned (arrV zs) ∧ Below w.heap.size w w' := by
  obtain ⟨a, cap, rfl⟩ := hI.shape
  have hw : ∀ k, k < zs.length → IntKind.u8.wrap (nth zs k) = nth zs k := fun k hk => by have := hb k hk; rw [IntKind.wrap_u8]; omega
  have Hw := Lib.hid hw
  clear hw hb
  refine (callsIn_wide (n := 9)).1 ?_
  refine callsIn_of_wp_marks Try.func127 rfl trivial ?_ rfl
  simp only [Try.ntmps127, List.size_toArray, List.length_cons, List.length_nil, Nat.reduceAdd, Nat.reduceSub, Array.replicate_succ, Array.replicate_zero, List.push_toArray, List.append_toArray, List.nil_append, List.cons_append]
  gi_wp2_with (first | (gi_at_call 87; refine (callsIn_wide.2 (numbered_c _ _ _ _)).mono ?_; rintro e w' ⟨rfl, rfl⟩) | (refine ⟨trivial, ?_⟩; gi_at_call 87; refine (callsIn_wide.2 (numbered_c _ _ _ _)).mono ?_; rintro e w' ⟨rfl, rfl⟩))
  obtain ⟨W0, hW0⟩ : ∃ W0, (((w.alloc (.cells (cells8 []) 64)).alloc (.cells (cells8 []) 64)).alloc (.cells #[.slice a zs.length cap] 24)) = W0 := ⟨_, rfl⟩
  have hB0 : Below w.heap.size w W0 := by rw [← hW0]; exact (((Below.refl _ w).alloc (Nat.le_refl _) _).alloc (by simp) _).alloc (by simp; omega) _
  have hs0 : w.heap.size + 3 ≤ W0.heap.size := by rw [← hW0]; simp
  have bA : Arr W0 (w.heap.size + 1) [] := by rw [← hW0]; simpa using (Arr.new (w.alloc (.cells (cells8 []) 64)) []).alloc (.cells #[.slice a zs.length cap] 24)
  have bR : Arr W0 w.heap.size [] := by rw [← hW0]; exact ((Arr.new w []).alloc _).alloc _
  have bN : Boxed W0 (w.heap.size + 1 + 1) 24 (.slice a zs.length cap) := by rw [← hW0]; repeat first | (refine boxed_at ?_; (simp; done)) | refine Boxed.alloc ?_ _
  have hW1 : (((w.alloc (.cells #[.int .u8 0, .int .u8 0, .int .u8 0, .int .u8 0, .int .u8 0, .int .u8 0, .int .u8 0, .int .u8 0] 64)).alloc (.cells #[.int .u8 0, .int .u8 0, .int .u8 0, .int .u8 0, .int .u8 0, .int .u8 0, .int .u8 0, .int .u8 0] 64)).alloc (.cells #[.slice a zs.length cap] 24)) = W0 := hW0
  rw [hW1]
  clear hW0 hW1
  refine range_outA rfl (by omega) rfl trivial (enters_of Try.func124 (by kernel_rfl) rfl) (numbered_at Fence.wide 8 trivial rfl (by omega) _ w.heap.size _ zs (by omega) W0 bN (by omega) (hI.below hB0)) (fun b hb => by omega) (fun _ => rfl)
    (fun k W => Arr W (w.heap.size + 1) (zs.take k) ∧ Arr W w.heap.size [] ∧ Below w.heap.size w W)
    (fun _ _ _ => False)
    (OwnFrom.and (Own.from (arr_own _ _) _) (OwnFrom.and (Own.from (arr_own _ _) _) (ownFrom_below (Nat.le_refl _) (by omega))))
    (fun _ _ _ _ _ hs _ _ => hs)
    ⟨bA, bR, hB0⟩ ?a1 ?assign ?body ?done ?stop
  case assign =>
    intro l k W K hk hK
    simp only [numAt]
    gi_wp2
    exact hK
  case body =>
    rintro l k W hl hr ⟨bA1, bR1, hB⟩ hlt hs
    have hnb : ¬ Band (fun b => b < w.heap.size) W0.heap.size (W0.heap.size + 2 + 0) (w.heap.size + 1) := not_band (by omega) (by omega)
    have cA := bA1.cell (i := k) (by omega)
    have fA := bA1.frozen k
    have he := Hw.out k hlt
    have hk8 : (k : Int) < 8 := by omega
    gi_wp2
    exact ⟨Kps.setCell _ _ _ _ hnb, bA1.set (fun j _ => nth_take_u8 hlt j), bR1.other (by omega) _, hB.setCell (p := ⟨w.heap.size + 1, k, none⟩) (by simp) _⟩
  case done =>
    rintro D W hD ⟨bA1, bR1, hB⟩ hK
    rw [List.take_length] at bA1
    have cA0 := bA1.cell (i := 0) (by omega)
    have cA1 := bA1.cell (i := 1) (by omega)
    have cA2 := bA1.cell (i := 2) (by omega)
    have cA3 := bA1.cell (i := 3) (by omega)
    have cA4 := bA1.cell (i := 4) (by omega)
    have cA5 := bA1.cell (i := 5) (by omega)
    have cA6 := bA1.cell (i := 6) (by omega)
    have cA7 := bA1.cell (i := 7) (by omega)
    have cR0 := bR1.cell (i := 0) (by omega)
    have cR1 := bR1.cell (i := 1) (by omega)
    have cR2 := bR1.cell (i := 2) (by omega)
    have cR3 := bR1.cell (i := 3) (by omega)
    have cR4 := bR1.cell (i := 4) (by omega)
    have cR5 := bR1.cell (i := 5) (by omega)
    have cR6 := bR1.cell (i := 6) (by omega)
    have cR7 := bR1.cell (i := 7) (by omega)
    have fR0 := bR1.frozen 0
    have fR1 := bR1.frozen 1
    have fR2 := bR1.frozen 2
    have fR3 := bR1.frozen 3
    have fR4 := bR1.frozen 4
    have fR5 := bR1.frozen 5
    have fR6 := bR1.frozen 6
    have fR7 := bR1.frozen 7
    gi_wp2
    obtain ⟨W1, hW1⟩ : ∃ W1, ((((((((W.setCell ⟨w.heap.size, 0, none⟩ (.int .u8 (nth zs 0))).setCell ⟨w.heap.size, 1, none⟩ (.int .u8 (nth zs 1))).setCell ⟨w.heap.size, 2, none⟩ (.int .u8 (nth zs 2))).setCell ⟨w.heap.size, 3, none⟩ (.int .u8 (nth zs 3))).setCell ⟨w.heap.size, 4, none⟩ (.int .u8 (nth zs 4))).setCell ⟨w.heap.size, 5, none⟩ (.int .u8 (nth zs 5))).setCell ⟨w.heap.size, 6, none⟩ (.int .u8 (nth zs 6))).setCell ⟨w.heap.size, 7, none⟩ (.int .u8 (nth zs 7))) = W1 := ⟨_, rfl⟩
    have hE : store8 W w.heap.size zs = W1 := hW1
    rw [hW1]
    clear hW1
    have bR2 : Arr W1 w.heap.size zs := by rw [← hE]; exact Arr.stored8 zs bR1
    have hB2 : Below w.heap.size w W1 := by rw [← hE]; exact below_set8 zs hB (Nat.le_refl _) (Nat.le_refl _)
    have hK2 : W1.heap[D]? = some (.deferred (some [])) := by rw [← hE]; exact def_set8 zs bR1 hK
    clear hE
    clear cA0 cA1 cA2 cA3 cA4 cA5 cA6 cA7 cR0 cR1 cR2 cR3 cR4 cR5 cR6 cR7 fR0 fR1 fR2 fR3 fR4 fR5 fR6 fR7
    have bR3 := arr_shut bR2 hK2
    have cR0 := bR3.cell (i := 0) (by omega)
    have cR1 := bR3.cell (i := 1) (by omega)
    have cR2 := bR3.cell (i := 2) (by omega)
    have cR3 := bR3.cell (i := 3) (by omega)
    have cR4 := bR3.cell (i := 4) (by omega)
    have cR5 := bR3.cell (i := 5) (by omega)
    have cR6 := bR3.cell (i := 6) (by omega)
    have cR7 := bR3.cell (i := 7) (by omega)
    refine retM1 hK2 ⟨arrV zs, by simp [results, Try.f127, go_sem, cR0, cR1, cR2, cR3, cR4, cR5, cR6, cR7]; rfl, rfl, below_shut hB2 (by omega)⟩
  case stop =>
    rintro D c k W hD hk h
    exact h.elim

end Go.Proofs.Ytgndbifcncklgaa
