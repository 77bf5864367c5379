/-
  Classes: lists of pairs, laid flat; a slice value that holds them; a row of the call's own that holds them; a row between two block numbers; a variable of two cells.
-/
import Derived.Test.YtbhpflhopajbfaaLaw
import Derived.Test.YtbhpflhopajbfaaChk
import Derived.Test.YtbhpflhopajbfaaClm
import Derived.Test.YtbhpflhopajbfaaBox
import Derived.Deep.Slices
import Derived.Laws.IdiomArrays
namespace Go.Proofs.Ytbhpflhopajbfaa
open Go.RowKit Go.Shelf Go.ChangeShapes Go.WideShapes Go.Deep

/-! ### lists of pairs -/
def flat : List (Int × Int) → List Int
  | [] => []
  | c :: cs => c.1 :: c.2 :: flat cs
theorem flat_length : ∀ cs : List (Int × Int), (flat cs).length = cs.length * 2
  | [] => rfl
  | c :: cs => by simp [flat, flat_length cs]; omega
theorem flat_append : ∀ cs ds : List (Int × Int), flat (cs ++ ds) = flat cs ++ flat ds
  | [], ds => rfl
  | c :: cs, ds => by simp [flat, flat_append cs ds]
theorem nth_flat0 : ∀ (cs : List (Int × Int)) (k : Nat), nth (flat cs) (k * 2) = rst cs k
  | [], k => by simp [flat, nth, rst]
  | c :: cs, 0 => by simp [flat, nth, rst]
  | c :: cs, k + 1 => by
    have := nth_flat0 cs k
    rw [show (k + 1) * 2 = k * 2 + 1 + 1 by omega]
    simpa [flat, nth, rst] using this
theorem nth_flat1 : ∀ (cs : List (Int × Int)) (k : Nat), nth (flat cs) (k * 2 + 1) = gp cs k
  | [], k => by simp [flat, nth, gp]
  | c :: cs, 0 => by simp [flat, nth, gp]
  | c :: cs, k + 1 => by
    have := nth_flat1 cs k
    rw [show (k + 1) * 2 + 1 = k * 2 + 1 + 1 + 1 by omega]
    simpa [flat, nth, gp] using this
theorem flat_inj : ∀ {cs ds : List (Int × Int)}, flat cs = flat ds → cs = ds
  | [], [], _ => rfl
  | [], d :: ds, h => by simp [flat] at h
  | c :: cs, [], h => by simp [flat] at h
  | c :: cs, d :: ds, h => by
    simp only [flat, List.cons.injEq] at h
    obtain ⟨h1, h2, h3⟩ := h
    rw [flat_inj h3, Prod.ext h1 h2]
theorem cls_ext {cs ds : List (Int × Int)} (hl : cs.length = ds.length) (h : ∀ k, k < cs.length → rst cs k = rst ds k ∧ gp cs k = gp ds k) : cs = ds := by
  refine List.ext_getElem hl fun k h1 h2 => ?_
  have := h k h1
  simp only [rst, gp, List.getElem?_eq_getElem h1, List.getElem?_eq_getElem h2, Option.getD_some] at this
  exact Prod.ext this.1 this.2
/-- numbers of the kind int64 -/
def C64 (cs : List (Int × Int)) : Prop := ∀ c ∈ cs, I64 c.1 ∧ I64 c.2
theorem C64.at_ {cs : List (Int × Int)} (h : C64 cs) {k : Nat} (hk : k < cs.length) : I64 (rst cs k) ∧ I64 (gp cs k) := by
  have := h _ (List.getElem_mem hk)
  simpa [rst, gp, List.getElem?_eq_getElem hk] using this

/-! ### slices of pairs -/
/-- THE SLICE VALUE sv HOLDS n PAIRS, in all the ints xs, in a block below n₀; or there are none. -/
def Prs (n₀ : Nat) (W : World) (sv : Value) (n : Nat) (xs : List Int) : Prop :=
  ∃ a cap, sv = .slice a n cap ∧ xs.length = n * 2 ∧ (n = 0 ∨ ∃ b off, a = some ⟨b, off, none⟩ ∧ b < n₀ ∧ ∀ j, j < n * 2 → W.cell? ⟨b, off + j, none⟩ = some (.int .i64 (nth xs j)))
/-- .. the classes cs -/
def Cls (n₀ : Nat) (W : World) (sv : Value) (cs : List (Int × Int)) : Prop := Prs n₀ W sv cs.length (flat cs)
section
variable {n₀ n₁ n : Nat} {A B W : World} {sv : Value} {xs : List Int} {cs : List (Int × Int)}
theorem Prs.shape (h : Prs n₀ W sv n xs) : ∃ a cap, sv = .slice a n cap := let ⟨a, c, e, _⟩ := h; ⟨a, c, e⟩
theorem Prs.len (h : Prs n₀ W sv n xs) : xs.length = n * 2 := let ⟨_, _, _, e, _⟩ := h; e
theorem Prs.at_ {a : Option Addr} {cap : Nat} (h : Prs n₀ W (.slice a n cap) n xs) {k : Nat} (hk : k < n) :
    ∃ b off, a = some ⟨b, off, none⟩ ∧ b < n₀ ∧ ∀ j, j < n * 2 → W.cell? ⟨b, off + j, none⟩ = some (.int .i64 (nth xs j)) := by
  obtain ⟨a', c, e, _, h⟩ := h
  cases e
  rcases h with rfl | h
  · omega
  · exact h
theorem Prs.below (hi : Prs n₀ A sv n xs) (h : Below n₀ A B) : Prs n₀ B sv n xs := by
  obtain ⟨a, c, e, hl, hz⟩ := hi
  refine ⟨a, c, e, hl, ?_⟩
  rcases hz with hz | ⟨b, off, ha, hb, hc⟩
  · exact .inl hz
  · exact .inr ⟨b, off, ha, hb, fun j hj => (h.cell (p := ⟨b, off + j, none⟩) hb).trans (hc j hj)⟩
theorem Prs.mono (hi : Prs n₀ A sv n xs) (h : n₀ ≤ n₁) : Prs n₁ A sv n xs := by
  obtain ⟨a, c, e, hl, hz⟩ := hi
  refine ⟨a, c, e, hl, ?_⟩
  rcases hz with hz | ⟨b, off, ha, hb, hc⟩
  · exact .inl hz
  · exact .inr ⟨b, off, ha, by omega, hc⟩
theorem Prs.later {w W : World} (hi : Prs w.heap.size w sv n xs) (h : Below w.heap.size w W) : Prs W.heap.size W sv n xs := (hi.below h).mono h.size
theorem Cls.shape (h : Cls n₀ W sv cs) : ∃ a cap, sv = .slice a cs.length cap := Prs.shape h
theorem Cls.at_ {a : Option Addr} {cap : Nat} (h : Cls n₀ W (.slice a cs.length cap) cs) {k : Nat} (hk : k < cs.length) :
    ∃ b off, a = some ⟨b, off, none⟩ ∧ b < n₀ ∧ ∀ j, j < cs.length → W.cell? ⟨b, off + j * 2, none⟩ = some (.int .i64 (rst cs j)) ∧ W.cell? ⟨b, off + j * 2 + 1, none⟩ = some (.int .i64 (gp cs j)) := by
  obtain ⟨b, off, ha, hb, hc⟩ := Prs.at_ h hk
  exact ⟨b, off, ha, hb, fun j hj => ⟨by rw [hc _ (by omega), nth_flat0], by rw [Nat.add_assoc, hc _ (by omega), nth_flat1]⟩⟩
theorem Cls.below (hi : Cls n₀ A sv cs) (h : Below n₀ A B) : Cls n₀ B sv cs := Prs.below hi h
theorem Cls.mono (hi : Cls n₀ A sv cs) (h : n₀ ≤ n₁) : Cls n₁ A sv cs := Prs.mono hi h
theorem Cls.later {w W : World} (hi : Cls w.heap.size w sv cs) (h : Below w.heap.size w W) : Cls W.heap.size W sv cs := Prs.later hi h
end

/-- THE SLICE VALUE v OWNS n PAIRS, in all the ints xs, in a block from B on. -/
def OwnC (B : Nat) (W : World) (v : Value) (n : Nat) (xs : List Int) : Prop := W.ownsRow B 106 2 v n (xs.map (.int .i64))
section
variable {B B' n : Nat} {W W' : World} {v : Value} {xs : List Int}
theorem OwnC.len (h : OwnC B W v n xs) : xs.length = n * 2 := by have := h.1; simpa using this
theorem OwnC.prs (h : OwnC B W v n xs) : Prs W.heap.size W v n xs := by
  have hl := h.len
  have h' : W.ownsRow B 106 2 v n (xs.map (.int .i64)) := h
  obtain ⟨_, h2⟩ := id h'
  rcases h2 with ⟨rfl, h0⟩ | ⟨g, cap, cur, rfl, hg, hh, hn, hm, hs, ht⟩
  · exact ⟨none, 0, by simp [h0], hl, .inl h0⟩
  · refine ⟨_, cap, rfl, hl, .inr ⟨g, 0, rfl, (Array.getElem?_eq_some_iff.1 hh).1, fun j hj => ?_⟩⟩
    rw [Nat.zero_add, World.ownsRow.cellAt h' j (by omega)]
    simp [getElem?_nth (show j < xs.length by omega)]
theorem OwnC.blk (h : OwnC B W v n xs) : ∀ k, v.ownBlock = some k → B ≤ k ∧ k < W.heap.size := World.ownsRow.lt h
theorem OwnC.of_block (h : OwnC B W v n xs) (hb : ∀ k, v.ownBlock = some k → W'.heap[k]? = W.heap[k]?) : OwnC B W' v n xs := by
  obtain ⟨h1, h2⟩ := h
  refine ⟨h1, ?_⟩
  rcases h2 with ⟨e, h0⟩ | ⟨g, cap, cur, e, hg, hh, r⟩
  · exact .inl ⟨e, h0⟩
  · exact .inr ⟨g, cap, cur, e, hg, (hb g (by simp [e, Value.ownBlock])).trans hh, r⟩
theorem OwnC.below (h : OwnC B W v n xs) (hb : Below W.heap.size W W') : OwnC B W' v n xs := h.of_block fun k hk => hb.block k (h.blk k hk).2
theorem OwnC.kept {row : Option Nat} (h : OwnC B W v n xs) (hg : W.grownBy W' row) (hne : v.ownBlock = none ∨ v.ownBlock ≠ row) : OwnC B W' v n xs := World.ownsRow.kept h hg hne
theorem OwnC.base (h : OwnC B W v n xs) (hB : B' ≤ B) : OwnC B' W v n xs := by
  obtain ⟨h1, h2⟩ := h
  refine ⟨h1, ?_⟩
  rcases h2 with h0 | ⟨g, cap, cur, e, hg, r⟩
  · exact .inl h0
  · exact .inr ⟨g, cap, cur, e, by omega, r⟩
theorem OwnC.frozen {g cap : Nat} (h : OwnC B W (.slice (some ⟨g, 0, none⟩) n cap) n xs) (j : Nat) : W.frozen? ⟨g, j, none⟩ = false := World.ownsRow.frozenAt h j
theorem OwnC.cellAt {g cap : Nat} (h : OwnC B W (.slice (some ⟨g, 0, none⟩) n cap) n xs) {j : Nat} (hj : j < n * 2) : W.cell? ⟨g, j, none⟩ = some (.int .i64 (nth xs j)) := by
  have hl := h.len
  rw [World.ownsRow.cellAt h j hj]
  simp [getElem?_nth (show j < xs.length by omega)]
theorem OwnC.stored {g cap : Nat} (h : OwnC B W (.slice (some ⟨g, 0, none⟩) n cap) n xs) (j : Nat) (u : Int) :
    OwnC B (W.setCell ⟨g, j, none⟩ (.int .i64 u)) (.slice (some ⟨g, 0, none⟩) n cap) n (xs.set j u) ∧ W.grownBy (W.setCell ⟨g, j, none⟩ (.int .i64 u)) (some g) := by
  obtain ⟨r1, r2⟩ := World.ownsRow.stored h j (.int .i64 u)
  refine ⟨?_, r2⟩
  unfold OwnC
  rw [List.map_set]
  exact r1
theorem OwnC.shape (h : OwnC B W v n xs) (h0 : 0 < n) : ∃ g cap, v = .slice (some ⟨g, 0, none⟩) n cap ∧ B ≤ g ∧ g < W.heap.size := by
  have hb := h.blk
  obtain ⟨_, h2⟩ := h
  rcases h2 with ⟨_, e⟩ | ⟨g, cap, cur, e, hg, hh, _⟩
  · omega
  · exact ⟨g, cap, e, hg, (hb g (by simp [e, Value.ownBlock])).2⟩
theorem OwnC.shut {D : Nat} (h : OwnC B W v n xs) (hK : W.heap[D]? = some (.deferred (some []))) : OwnC B (W.putObj D (.deferred none)) v n xs := ownsRow_putObj h _ hK rfl
end
/-- a row of no pairs -/
theorem ownC_nil (B : Nat) (W : World) : OwnC B W (.slice none 0 0) 0 [] := World.ownsRow_nil _ _ _ _
/-- A CALL HANDS BACK CLASSES IN A ROW OF ITS OWN (in mk); nothing that lay has turned. -/
def GivesC (w : World) (cs : List (Int × Int)) (mk : Value → Value) (e : Ending) (w' : World) : Prop := ∃ v, e = .returned (mk v) ∧ OwnC w.heap.size w' v cs.length (flat cs) ∧ Below w.heap.size w w'

/-- The slice value v owns n pairs, in a block from lo on and below hi. -/
structure SegC (lo hi : Nat) (W : World) (v : Value) (n : Nat) (xs : List Int) : Prop where
  own : OwnC lo W v n xs
  top : ∀ k, v.ownBlock = some k → k < hi
  le : hi ≤ W.heap.size
section
variable {lo hi n : Nat} {W W' : World} {v : Value} {xs : List Int}
theorem SegC.new (h : OwnC lo W v n xs) : SegC lo W.heap.size W v n xs := ⟨h, fun k hk => (h.blk k hk).2, Nat.le_refl _⟩
theorem SegC.below (h : SegC lo hi W v n xs) (hb : Below W.heap.size W W') : SegC lo hi W' v n xs := ⟨h.own.below hb, h.top, Nat.le_trans h.le hb.size⟩
theorem SegC.kept {u : Value} (h : SegC lo hi W v n xs) (hg : W.grownBy W' u.ownBlock) (hu : ∀ k, u.ownBlock = some k → hi ≤ k ∨ k < lo) : SegC lo hi W' v n xs := by
  refine ⟨h.own.of_block fun k hk => hg.block k (Nat.lt_of_lt_of_le (h.top k hk) h.le) (fun e => ?_), h.top, Nat.le_trans h.le hg.size⟩
  have h1 := h.top k hk
  have h2 := (h.own.blk k hk).1
  rcases hu k e.symm with h3 | h3 <;> omega
theorem SegC.prs (h : SegC lo hi W v n xs) : Prs W.heap.size W v n xs := h.own.prs
theorem SegC.cls {cs : List (Int × Int)} (h : SegC lo hi W v cs.length (flat cs)) : Cls W.heap.size W v cs := h.own.prs
theorem SegC.apart (h : SegC lo hi W v n xs) {lo' hi' : Nat} (hs : hi' ≤ lo ∨ hi ≤ lo') : ∀ k, v.ownBlock = some k → hi' ≤ k ∨ k < lo' := fun k hk => by
  have h1 := h.top k hk
  have h2 := (h.own.blk k hk).1
  omega
theorem SegC.marked {xs' : List Int} (h : SegC lo hi W v n xs) (ho : OwnC lo W' v n xs') (hg : W.grownBy W' v.ownBlock) : SegC lo hi W' v n xs' := ⟨ho, h.top, Nat.le_trans h.le hg.size⟩
theorem below_markedC {w : World} (hB : Below w.heap.size w W) (h : SegC lo hi W v n xs) (hg : W.grownBy W' v.ownBlock) (hlo : w.heap.size ≤ lo) : Below w.heap.size w W' :=
  ⟨hg.os.trans hB.os, hg.tape.trans hB.tape, hg.output.trans hB.output, Nat.le_trans hB.size hg.size, fun k hk =>
    (hg.block k (Nat.lt_of_lt_of_le hk hB.size) (fun e => by have := (h.own.blk k e.symm).1; omega)).trans (hB.block k hk)⟩
theorem boxed_markedC {b : Nat} {t : TypeId} {u : Value} (h : Boxed W b t u) (hs : SegC lo hi W v n xs) (hg : W.grownBy W' v.ownBlock) (hb : b < lo ∨ hi ≤ b) : Boxed W' b t u :=
  h.kept hg (fun e => by have h1 := hs.top b e.symm; have h2 := (hs.own.blk b e.symm).1; omega)
end

/-! ### what is a class -/
def clOk (c : Int × Int) : Bool := inB c.2 1 40 && inB c.1 0 (c.2 - 1)
/-- are these classes? -/
def clsOk (cs : List (Int × Int)) : Bool := cs.all clOk && inB cs.length 1 8
theorem clOk_at {cs : List (Int × Int)} {k : Nat} (h : k < cs.length) : clOk (rst cs k, gp cs k) = clOk cs[k] := by simp [rst, gp, List.getElem?_eq_getElem h]
theorem clsOk_no {cs : List (Int × Int)} {k : Nat} (hk : k < cs.length) (h : clOk (rst cs k, gp cs k) = false) : clsOk cs = false := by
  unfold clsOk
  rw [show cs.all clOk = false from by rw [List.all_eq_false]; exact ⟨_, List.getElem_mem hk, by rw [← clOk_at hk, h]; simp⟩]
  rfl
theorem clsOk_all {cs : List (Int × Int)} (h : ∀ k, k < cs.length → clOk (rst cs k, gp cs k) = true) : clsOk cs = inB cs.length 1 8 := by
  unfold clsOk
  rw [show cs.all clOk = true from by rw [List.all_eq_true]; intro c hc; obtain ⟨k, hk, rfl⟩ := List.getElem_of_mem hc; rw [← clOk_at hk]; exact h k hk]
  rfl
theorem clsOk_len {cs : List (Int × Int)} (h : clsOk cs = true) : 1 ≤ cs.length ∧ cs.length ≤ 8 := by
  unfold clsOk at h
  rw [Bool.and_eq_true, inB_true] at h
  omega
theorem clsOk_at {cs : List (Int × Int)} (h : clsOk cs = true) {k : Nat} (hk : k < cs.length) : 1 ≤ gp cs k ∧ gp cs k ≤ 40 ∧ 0 ≤ rst cs k ∧ rst cs k < gp cs k := by
  unfold clsOk at h
  rw [Bool.and_eq_true, List.all_eq_true] at h
  have := h.1 _ (List.getElem_mem hk)
  rw [← clOk_at hk] at this
  unfold clOk at this
  rw [Bool.and_eq_true, inB_true, inB_true] at this
  omega

/-! ### opening an argument -/
section
variable {H : Type} {enc : TypeId × Value → H} {P : Program}
theorem trod_array2 {w : World} {base : Nat} {spare : Nat → Bool} {held : Bool} {t e : TypeId} {fuel : Nat} {c0 c1 : Value} {x : DataW H × List MemPlace} (ht : P.underlying t = some (.array 2 e)) (hce : P.cellsOf e = 1)
    (h : DataW.trod enc P w base spare held fuel t [c0, c1] = some x) :
    ∃ y0 y1 n, x = (.agg [y0.1, y1.1], y0.2 ++ y1.2) ∧ DataW.trod enc P w base spare held n e [c0] = some y0 ∧ DataW.trod enc P w base spare held n e [c1] = some y1 := by
  cases fuel with
  | zero => simp [DataW.trod] at h
  | succ n =>
    unfold DataW.trod at h
    rw [ht] at h
    have r2 : List.range 2 = [0, 1] := rfl
    simp [r2, hce] at h
    obtain ⟨_, h⟩ := h
    cases h0 : DataW.trod enc P w base spare held n e [c0] with
    | none => simp [h0] at h
    | some y0 =>
      cases h1 : DataW.trod enc P w base spare held n e [c1] with
      | none => simp [h0, h1] at h
      | some y1 =>
        simp [h0, h1] at h
        exact ⟨y0, y1, n, h.symm, h0, h1⟩
/-- A slice of pairs of int64s that reads as data. -/
theorem cls_of_Trod {w : World} {spare : Nat → Bool} {held : Bool} {r : Reach} {b0 : Nat} {T : TypeId} {v : Value} {d : DataW H} {p : List MemPlace} {te ti : TypeId} (ht : P.underlying T = some (.slice te)) (he : P.underlying te = some (.array 2 ti))
    (hi : P.underlying ti = some (.int .i64)) (hc : P.cellsOf te = 2) (hci : P.cellsOf ti = 1) (hv : Value.okWide P w r b0 T v) (h : DataW.Trod enc P w 0 spare held T v d p) :
    ∃ cs : List (Int × Int), Cls w.heap.size w v cs ∧ C64 cs ∧ cs.length ≤ 9223372036854775807 := by
  obtain ⟨a, len, cap, rfl⟩ := okWide_slice ht hv
  obtain ⟨fuel, hf⟩ := h
  rcases open_slice ht hf with ⟨hcs, _⟩ | ⟨a, len, cap, m, n, D, Pl, hcs, _, hl, hm, hmm, _, hel⟩
  · simp only [Value.cells, List.cons.injEq, and_true, Value.slice.injEq] at hcs
    obtain ⟨rfl, rfl, rfl⟩ := hcs
    exact ⟨[], ⟨none, 0, rfl, rfl, .inl rfl⟩, by simp [C64], by simp⟩
  · simp only [Value.cells, List.cons.injEq, and_true, Value.slice.injEq] at hcs
    obtain ⟨rfl, rfl, rfl⟩ := hcs
    have hlm : len ≤ m := by rw [hmm]; split <;> omega
    have hx : ∀ i, i < len → ∃ q : Int × Int, w.cell? ((a.add (i * 2)).add 0) = some (.int .i64 q.1) ∧ w.cell? ((a.add (i * 2)).add 1) = some (.int .i64 q.2) ∧ I64 q.1 ∧ I64 q.2 := fun i hil => by
      obtain ⟨cs', h1, h2⟩ := hel i (by omega)
      rw [hc] at h1
      unfold World.cells? at h1
      rw [if_pos (Nat.zero_le _)] at h1
      have r2 : List.range 2 = [0, 1] := rfl
      rw [r2] at h1
      cases e0 : w.cell? ((a.add (i * 2)).add 0) with
      | none => simp [e0] at h1
      | some c0 =>
        cases e1 : w.cell? ((a.add (i * 2)).add 1) with
        | none => simp [e0, e1] at h1
        | some c1 =>
          simp [e0, e1] at h1
          subst h1
          obtain ⟨y0, y1, n', _, g0, g1⟩ := trod_array2 he hci h2
          obtain ⟨z0, q0, _, w0⟩ := DataW.trod_int hi g0
          obtain ⟨z1, q1, _, w1⟩ := DataW.trod_int hi g1
          simp only [List.cons.injEq, and_true] at q0 q1
          subst q0
          subst q1
          exact ⟨(z0, z1), rfl, rfl, i64_of_wf2 w0, i64_of_wf2 w1⟩
    obtain ⟨f, hf2⟩ := choose_lt hx
    have hlen : ((List.range len).map f).length = len := by simp
    have hat : ∀ i, i < len → rst ((List.range len).map f) i = (f i).1 ∧ gp ((List.range len).map f) i = (f i).2 := fun i h => by simp [rst, gp, h]
    refine ⟨(List.range len).map f, ?_, ?_, ?_⟩
    · refine ⟨some a, cap, by rw [hlen], flat_length _, ?_⟩
      by_cases h0 : len = 0
      · exact .inl (by rw [hlen]; exact h0)
      · obtain ⟨b, off, spot⟩ := a
        have hspot : spot = none := by simpa [Addr.add] using World.cell?_spot (hf2 0 (by omega)).1
        subst hspot
        have hbl : b < w.heap.size := by have := World.block_lt_of_cell? w _ (hf2 0 (by omega)).1; simpa [Addr.add] using this
        refine .inr ⟨b, off, rfl, hbl, fun j hj => ?_⟩
        rw [hlen] at hj
        obtain ⟨i, hi2⟩ : ∃ i, j = i * 2 ∨ j = i * 2 + 1 := ⟨j / 2, by omega⟩
        have hil : i < len := by omega
        obtain ⟨k0, k1, _, _⟩ := hf2 i hil
        rw [Go.WideShapes.add_plain, Go.WideShapes.add_plain] at k0 k1
        rcases hi2 with rfl | rfl
        · rw [nth_flat0, (hat i hil).1]; simpa using k0
        · rw [nth_flat1, (hat i hil).2, ← Nat.add_assoc]; exact k1
    · intro c hc'
      rw [List.mem_map] at hc'
      obtain ⟨i, hi', rfl⟩ := hc'
      have := hf2 i (by simpa using hi')
      exact this.2.2
    · rw [hlen]; unfold maxLen at hm; omega
end

end Go.Proofs.Ytbhpflhopajbfaa
