/-
  Lists of lists: a slice of slices that owns its rows, each in a block of its own; the laws' helpers for them.
  Conditions: at most 1048576 lists, of at most 1048576 elements each.
-/
import Derived.Test.YtlgjnceedjbakaaLaw
import Derived.Test.YtlgjnceedjbakaaWaitsS
import Derived.Test.YtlgjnceedjbakaaCls
namespace Go.Proofs.Ytlgjnceedjbakaa
open Go.RowKit Go.Shelf
attribute [local go_sem] Oper.semAt_some

/-- list k of a list of lists -/
def lst (xss : List (List Int)) (k : Nat) : List Int := xss[k]?.getD []
theorem lst_ext {xss yss : List (List Int)} (hl : xss.length = yss.length) (h : ∀ k, k < xss.length → lst xss k = lst yss k) : xss = yss := by
  refine List.ext_getElem hl fun k h1 h2 => ?_
  have := h k h1
  simpa [lst, List.getElem?_eq_getElem h1, List.getElem?_eq_getElem h2] using this
theorem lst_snoc_lt {xss : List (List Int)} {ys : List Int} {k : Nat} (h : k < xss.length) : lst (xss ++ [ys]) k = lst xss k := by
  unfold lst; rw [List.getElem?_append_left h]
theorem lst_snoc_eq {xss : List (List Int)} {ys : List Int} : lst (xss ++ [ys]) xss.length = ys := by unfold lst; simp

/-! ### reading -/
/-- THE SLICE VALUE sv HOLDS n SLICES, u 0, u 1 .., that hold the lists. -/
def LstsU (n₀ : Nat) (W : World) (sv : Value) (xss : List (List Int)) (u : Nat → Value) : Prop :=
  (∃ a cap, sv = .slice a xss.length cap ∧ (xss.length = 0 ∨ ∃ b off, a = some ⟨b, off, none⟩ ∧ b < n₀ ∧ ∀ j, j < xss.length → W.cell? ⟨b, off + j, none⟩ = some (u j))) ∧ ∀ k, k < xss.length → Ints n₀ W (u k) (lst xss k)
def Lsts (n₀ : Nat) (W : World) (sv : Value) (xss : List (List Int)) : Prop := ∃ u, LstsU n₀ W sv xss u
theorem LstsU.shape {n₀ : Nat} {W : World} {sv : Value} {xss : List (List Int)} {u : Nat → Value} (h : LstsU n₀ W sv xss u) : ∃ a cap, sv = .slice a xss.length cap := let ⟨⟨a, c, e, _⟩, _⟩ := h; ⟨a, c, e⟩
theorem LstsU.at_ {n₀ : Nat} {W : World} {a : Option Addr} {cap : Nat} {xss : List (List Int)} {u : Nat → Value} (h : LstsU n₀ W (.slice a xss.length cap) xss u) {k : Nat} (hk : k < xss.length) :
    ∃ b off, a = some ⟨b, off, none⟩ ∧ b < n₀ ∧ ∀ j, j < xss.length → W.cell? ⟨b, off + j, none⟩ = some (u j) := by
  obtain ⟨⟨a', c, e, h⟩, _⟩ := h
  cases e
  rcases h with h | h
  · omega
  · exact h
theorem LstsU.below {n₀ : Nat} {A B : World} {sv : Value} {xss : List (List Int)} {u : Nat → Value} (h : LstsU n₀ A sv xss u) (hb : Below n₀ A B) : LstsU n₀ B sv xss u := by
  obtain ⟨⟨a, c, e, h1⟩, h2⟩ := h
  refine ⟨⟨a, c, e, ?_⟩, fun k hk => (h2 k hk).below hb⟩
  rcases h1 with h1 | ⟨b, off, ha, hbb, hc⟩
  · exact .inl h1
  · exact .inr ⟨b, off, ha, hbb, fun j hj => (hb.cell (p := ⟨b, off + j, none⟩) hbb).trans (hc j hj)⟩

/-! ### owning -/
/-- the rows u 0, u 1 .. lie apart from one another and from v -/
structure Apart (n : Nat) (v : Value) (u : Nat → Value) : Prop where
  rows : ∀ i j, i < n → j < n → i ≠ j → ∀ b, (u i).ownBlock = some b → (u j).ownBlock ≠ some b
  list : ∀ i, i < n → ∀ b, (u i).ownBlock = some b → v.ownBlock ≠ some b
structure OwnU (lo : Nat) (W : World) (v : Value) (xss : List (List Int)) (u : Nat → Value) : Prop where
  list : W.ownsRow lo 37 1 v xss.length ((List.range xss.length).map u)
  rows : ∀ k, k < xss.length → OwnI lo W (u k) (lst xss k)
  apart : Apart xss.length v u
def OwnLL (lo : Nat) (W : World) (v : Value) (xss : List (List Int)) : Prop := ∃ u, OwnU lo W v xss u
theorem nthU {n : Nat} {u : Nat → Value} {j : Nat} (h : j < n) : ((List.range n).map u)[j]? = some (u j) := by simp [h]
theorem OwnU.lsts {lo : Nat} {W : World} {v : Value} {xss : List (List Int)} {u : Nat → Value} (h : OwnU lo W v xss u) : LstsU W.heap.size W v xss u := by
  have h' := h.list
  obtain ⟨_, h2⟩ := id h'
  refine ⟨?_, fun k hk => (h.rows k hk).ints⟩
  rcases h2 with ⟨rfl, h0⟩ | ⟨g, cap, cur, rfl, hg, hh, hn, hm, hs, ht⟩
  · exact ⟨none, 0, by simp [h0], .inl h0⟩
  · refine ⟨_, cap, rfl, .inr ⟨g, 0, rfl, (Array.getElem?_eq_some_iff.1 hh).1, fun j hj => ?_⟩⟩
    rw [Nat.zero_add, World.ownsRow.cellAt h' j (by omega)]
    simp [hj]
theorem OwnU.lblk {lo : Nat} {W : World} {v : Value} {xss : List (List Int)} {u : Nat → Value} (h : OwnU lo W v xss u) : ∀ k, v.ownBlock = some k → lo ≤ k ∧ k < W.heap.size := World.ownsRow.lt h.list
theorem ownsRow_of_block {lo : Nat} {W W' : World} {t : TypeId} {s n : Nat} {v : Value} {xs : List Value} (h : W.ownsRow lo t s v n xs) (hb : ∀ k, v.ownBlock = some k → W'.heap[k]? = W.heap[k]?) : W'.ownsRow lo t s v n xs := by
  obtain ⟨h1, h2⟩ := h
  refine ⟨h1, ?_⟩
  rcases h2 with ⟨e, h0⟩ | ⟨g, cap, cur, e, hg, hh, r⟩
  · exact .inl ⟨e, h0⟩
  · exact .inr ⟨g, cap, cur, e, hg, (hb g (by simp [e, Value.ownBlock])).trans hh, r⟩
theorem ownsRow_base {lo lo' : Nat} {W : World} {t : TypeId} {s n : Nat} {v : Value} {xs : List Value} (h : W.ownsRow lo t s v n xs) (hl : lo' ≤ lo) : W.ownsRow lo' t s v n xs := by
  obtain ⟨h1, h2⟩ := h
  refine ⟨h1, ?_⟩
  rcases h2 with h0 | ⟨g, cap, cur, e, hg, r⟩
  · exact .inl h0
  · exact .inr ⟨g, cap, cur, e, by omega, r⟩
/-- what is the list's or a row's block -/
def OfU (n : Nat) (v : Value) (u : Nat → Value) (b : Nat) : Prop := v.ownBlock = some b ∨ ∃ i, i < n ∧ (u i).ownBlock = some b
theorem OwnU.of_blocks {lo : Nat} {W W' : World} {v : Value} {xss : List (List Int)} {u : Nat → Value} (h : OwnU lo W v xss u) (hb : ∀ b, OfU xss.length v u b → W'.heap[b]? = W.heap[b]?) : OwnU lo W' v xss u :=
  ⟨ownsRow_of_block h.list fun k hk => hb k (.inl hk), fun k hk => (h.rows k hk).of_block fun b e => hb b (.inr ⟨k, hk, e⟩), h.apart⟩
theorem OwnU.blks {lo : Nat} {W : World} {v : Value} {xss : List (List Int)} {u : Nat → Value} (h : OwnU lo W v xss u) {b : Nat} (hb : OfU xss.length v u b) : lo ≤ b ∧ b < W.heap.size := by
  rcases hb with hb | ⟨i, hi, hb⟩
  · exact h.lblk b hb
  · exact (h.rows i hi).blk b hb
theorem OwnU.base {lo lo' : Nat} {W : World} {v : Value} {xss : List (List Int)} {u : Nat → Value} (h : OwnU lo W v xss u) (hl : lo' ≤ lo) : OwnU lo' W v xss u := ⟨ownsRow_base h.list hl, fun k hk => (h.rows k hk).base hl, h.apart⟩
theorem OwnLL.base {lo lo' : Nat} {W : World} {v : Value} {xss : List (List Int)} (h : OwnLL lo W v xss) (hl : lo' ≤ lo) : OwnLL lo' W v xss := let ⟨u, h⟩ := h; ⟨u, h.base hl⟩
theorem OwnLL.below {lo : Nat} {W W' : World} {v : Value} {xss : List (List Int)} (h : OwnLL lo W v xss) (hb : Below W.heap.size W W') : OwnLL lo W' v xss := let ⟨u, h⟩ := h; ⟨u, h.of_blocks fun _ hk => hb.block _ (h.blks hk).2⟩
theorem ownLL_nil (lo : Nat) (W : World) : OwnLL lo W (.slice none 0 0) [] := ⟨fun _ => .slice none 0 0, World.ownsRow_nil _ _ _ _, fun k hk => by simp at hk, ⟨fun i j hi => by simp at hi, fun i hi => by simp at hi⟩⟩
theorem OwnLL.shape {lo : Nat} {W : World} {v : Value} {xss : List (List Int)} (h : OwnLL lo W v xss) : ∃ a cap, v = .slice a xss.length cap := let ⟨_, h⟩ := h; h.lsts.shape
/-- A CALL HANDS BACK A LIST OF LISTS OF ITS OWN (in mk); nothing that lay has turned. -/
def GivesLL (w : World) (xss : List (List Int)) (mk : Value → Value) (e : Ending) (w' : World) : Prop := ∃ v, e = .returned (mk v) ∧ OwnLL w.heap.size w' v xss ∧ Below w.heap.size w w'
/-- a list more, in a row of its own -/
theorem OwnU.snoc {lo : Nat} {W W' : World} {v v' r : Value} {xss : List (List Int)} {u : Nat → Value} {ys : List Int} (h : OwnU lo W v xss u) (hr : OwnI lo W r ys) (hnr : ∀ b, r.ownBlock = some b → ¬ OfU xss.length v u b) (hg : W.grownBy W' v.ownBlock)
    (hl : W'.ownsRow lo 37 1 v' (xss.length + 1) ((List.range xss.length).map u ++ [r])) (hat : ∀ b, v'.ownBlock = some b → v.ownBlock = some b ∨ W.heap.size ≤ b) : OwnLL lo W' v' (xss ++ [ys]) := by
  have hk : ∀ i, i < xss.length → ∀ b, (u i).ownBlock = some b → W'.heap[b]? = W.heap[b]? := fun i hi b e => hg.block b ((h.rows i hi).blk b e).2 (fun e' => h.apart.list i hi b e e'.symm)
  have hkr : ∀ b, r.ownBlock = some b → W'.heap[b]? = W.heap[b]? := fun b e => hg.block b (hr.blk b e).2 (fun e' => hnr b e (.inl e'.symm))
  refine ⟨fun j => if j < xss.length then u j else r, ?_, fun k hk' => ?_, ⟨fun i j hi hj hne b e => ?_, fun i hi b e => ?_⟩⟩
  · have hmap : (List.range (xss ++ [ys]).length).map (fun j => if j < xss.length then u j else r) = (List.range xss.length).map u ++ [r] := by
      rw [List.length_append, List.length_singleton, List.range_succ, List.map_append]
      congr 1
      · exact List.map_congr_left fun j hj => if_pos (List.mem_range.1 hj)
      · simp
    rw [hmap, List.length_append]
    exact hl
  · by_cases e : k < xss.length
    · simp only [if_pos e]
      rw [lst_snoc_lt e]
      exact (h.rows k e).of_block (hk k e)
    · simp at hk'
      obtain rfl : k = xss.length := by omega
      simp only [Nat.lt_irrefl, if_false]
      rw [lst_snoc_eq]
      exact hr.of_block hkr
  · simp at hi hj
    by_cases e1 : i < xss.length
    · simp only [if_pos e1] at e
      by_cases e2 : j < xss.length
      · simp only [if_pos e2]; exact h.apart.rows i j e1 e2 hne b e
      · simp only [if_neg e2]; exact fun e' => hnr b e' (.inr ⟨i, e1, e⟩)
    · simp only [if_neg e1] at e
      by_cases e2 : j < xss.length
      · simp only [if_pos e2]; exact fun e' => hnr b e (.inr ⟨j, e2, e'⟩)
      · omega
  · simp at hi
    intro e'
    have hlt : b < W.heap.size := by
      by_cases e1 : i < xss.length
      · simp only [if_pos e1] at e; exact ((h.rows i e1).blk b e).2
      · simp only [if_neg e1] at e; exact (hr.blk b e).2
    rcases hat b e' with h1 | h1
    · by_cases e1 : i < xss.length
      · simp only [if_pos e1] at e; exact h.apart.list i e1 b e h1
      · simp only [if_neg e1] at e; exact hnr b e (.inl h1)
    · omega

/-! ### a list of lists between two block numbers -/
structure SegL (lo hi : Nat) (W : World) (v : Value) (xss : List (List Int)) : Prop where
  own : ∃ u, OwnU lo W v xss u ∧ ∀ b, OfU xss.length v u b → b < hi
  le : hi ≤ W.heap.size
theorem SegL.new {lo : Nat} {W : World} {v : Value} {xss : List (List Int)} (h : OwnLL lo W v xss) : SegL lo W.heap.size W v xss := let ⟨u, h⟩ := h; ⟨⟨u, h, fun _ hb => (h.blks hb).2⟩, Nat.le_refl _⟩
theorem SegL.chg {lo hi : Nat} {W W' : World} {v : Value} {xss : List (List Int)} (h : SegL lo hi W v xss) (hs : W.heap.size ≤ W'.heap.size) (hb : ∀ b, lo ≤ b → b < hi → W'.heap[b]? = W.heap[b]?) : SegL lo hi W' v xss := by
  obtain ⟨⟨u, h1, h2⟩, h3⟩ := h
  exact ⟨⟨u, h1.of_blocks fun b e => hb b (h1.blks e).1 (h2 b e), h2⟩, Nat.le_trans h3 hs⟩
theorem SegL.below {lo hi : Nat} {W W' : World} {v : Value} {xss : List (List Int)} (h : SegL lo hi W v xss) (hb : Below W.heap.size W W') : SegL lo hi W' v xss :=
  h.chg hb.size fun _ _ h2 => hb.block _ (Nat.lt_of_lt_of_le h2 h.le)
theorem SegL.kept {lo hi : Nat} {W W' : World} {v u : Value} {xss : List (List Int)} (h : SegL lo hi W v xss) (hg : W.grownBy W' u.ownBlock) (hu : ∀ k, u.ownBlock = some k → hi ≤ k ∨ k < lo) : SegL lo hi W' v xss :=
  h.chg hg.size fun b h1 h2 => hg.block b (Nat.lt_of_lt_of_le h2 h.le) fun e => by rcases hu b e.symm with h3 | h3 <;> omega
theorem SegL.lsts {lo hi : Nat} {W : World} {v : Value} {xss : List (List Int)} (h : SegL lo hi W v xss) : Lsts W.heap.size W v xss := let ⟨⟨u, h1, _⟩, _⟩ := h; ⟨u, h1.lsts⟩
/-- what the marks of a list of lists may turn -/
def InSeg (lo hi : Nat) (b : Nat) : Prop := lo ≤ b ∧ b < hi
theorem Seg.chg {lo hi lo' hi' : Nat} {W W' : World} {v : Value} {zs : List Int} (h : Seg lo hi W v zs) (hc : Chg (InSeg lo' hi') W W') (hd : hi ≤ lo' ∨ hi' ≤ lo) : Seg lo hi W' v zs :=
  ⟨h.own.of_block fun k hk => hc.same k (fun e => by have h1 := h.top k hk; have h2 := (h.own.blk k hk).1; have h3 := e.1; have h4 := e.2; omega) (Nat.lt_of_lt_of_le (h.top k hk) h.le), h.top, Nat.le_trans h.le hc.size⟩
theorem SegL.chgL {lo hi lo' hi' : Nat} {W W' : World} {v : Value} {xss : List (List Int)} (h : SegL lo hi W v xss) (hc : Chg (InSeg lo' hi') W W') (hd : hi ≤ lo' ∨ hi' ≤ lo) : SegL lo hi W' v xss :=
  h.chg hc.size fun b h1 h2 => hc.same b (fun e => by have h3 := e.1; have h4 := e.2; omega) (Nat.lt_of_lt_of_le h2 h.le)
theorem below_chgL {lo hi : Nat} {w W W' : World} (hB : Below w.heap.size w W) (hc : Chg (InSeg lo hi) W W') (hlo : w.heap.size ≤ lo) : Below w.heap.size w W' :=
  hc.below hB (fun k hk e => by have := e.1; omega) hB.size

/-! ### comparisons -/
set_option maxRecDepth 100000 in
set_option maxHeartbeats 4000000 in
theorem eqInt64SS_c (sv tv : Value) (xss : List (List Int)) (w : World) (hX : Lsts w.heap.size w sv xss) (hY : Lsts w.heap.size w tv xss) (hl : xss.length ≤ 1048576) (hl2 : ∀ k, k < xss.length → (lst xss k).length ≤ 1048576) :
    Calls Try.prog 22 #[sv, tv] w fun e w' => e = .returned (.bool true) ∧ Below w.heap.size w w' := by
  obtain ⟨u, hU⟩ := hX
  obtain ⟨x, hV⟩ := hY
  obtain ⟨a, cap, rfl⟩ := hU.shape
  obtain ⟨a2, cap2, rfl⟩ := hV.shape
  have hfw : Try.prog.follows Departure.mixedOrders = true := by kernel_rfl
  have HU := Lib.hid hU
  have HV := Lib.hid hV
  have Hl2 := Lib.hid hl2
  clear hU hV hl2
  go_enter Try.func22, Try.ntmps22
  go_wp2
  go_loopw [5] (fun i wr => ∃ k : Nat, k ≤ xss.length ∧ i = .int .i64 k ∧ Below w.heap.size w wr) (fun i _ => xss.length - (intOf i).toNat)
  case atStart => exact ⟨0, Nat.zero_le _, rfl, Below.refl _ _⟩
  case round =>
    obtain ⟨k, hk, rfl, hB⟩ := hrel
    by_cases hlt : k < xss.length
    · have hU1 := HU.out.below hB
      have hV1 := HV.out.below hB
      obtain ⟨b, off, rfl, hb, hc⟩ := hU1.at_ hlt
      obtain ⟨b2, off2, rfl, hb2, hc2⟩ := hV1.at_ hlt
      have c1 := hc k hlt
      have c2 := hc2 k hlt
      have hki : (k : Int) < (xss.length : Int) := by omega
      have i1 := (hU1.2 k hlt).mono hB.size
      have i2 := (hV1.2 k hlt).mono hB.size
      have hlk := Hl2.out k hlt
      obtain ⟨a3, c3, e3⟩ := i1.shape
      obtain ⟨a4, c4, e4⟩ := i2.shape
      rw [e3] at c1 i1
      rw [e4] at c2 i2
      clear hc hc2 hU1 hV1
      go_wp2_with fail
      refine wp_region_held_drew (S := fun w' => Below wr.heap.size wr w') hfw (Below.refl _ _).drew ?_
      intro hS0
      refine wpAnyH_take (i := 0) (v := ?v0) rfl (by kernel_rfl) (by kernel_rfl) (by kernel_rfl) (fun _ _ _ h => h) (.inl ⟨by rfl, ?y0⟩) hS0 ?_
      case y0 =>
        intro w' hS
        (have k1 := (hS.cell (p := ⟨b, off + k, none⟩) (Nat.lt_of_lt_of_le hb hB.size)).trans c1; have k2 := (hS.cell (p := ⟨b2, off2 + k, none⟩) (Nat.lt_of_lt_of_le hb2 hB.size)).trans c2; clear hS)
        go_simp
        try with_reducible rfl
      refine wpAnyH_take (i := 1) (v := ?v1) rfl (by kernel_rfl) (by kernel_rfl) (by kernel_rfl) (fun _ _ _ h => h) (.inl ⟨by rfl, ?y1⟩) hS0 ?_
      case y1 =>
        intro w' hS
        (have k1 := (hS.cell (p := ⟨b, off + k, none⟩) (Nat.lt_of_lt_of_le hb hB.size)).trans c1; have k2 := (hS.cell (p := ⟨b2, off2 + k, none⟩) (Nat.lt_of_lt_of_le hb2 hB.size)).trans c2; clear hS)
        go_simp
        try with_reducible rfl
      refine wpAnyH_take (i := 2) (v := ?v2) rfl (by kernel_rfl) (by kernel_rfl) (by kernel_rfl) (fun _ _ _ h => h) (.inl ⟨by rfl, ?y2⟩) hS0 ?_
      case y2 =>
        intro w' hS
        (have k1 := (hS.cell (p := ⟨b, off + k, none⟩) (Nat.lt_of_lt_of_le hb hB.size)).trans c1; have k2 := (hS.cell (p := ⟨b2, off2 + k, none⟩) (Nat.lt_of_lt_of_le hb2 hB.size)).trans c2; clear hS)
        go_simp
        try with_reducible rfl
      refine wpAnyH_take (i := 3) (v := ?v3) rfl (by kernel_rfl) (by kernel_rfl) (by kernel_rfl) (fun _ _ _ h => h) (.inl ⟨by rfl, ?y3⟩) hS0 ?_
      case y3 =>
        intro w' hS
        (have k1 := (hS.cell (p := ⟨b, off + k, none⟩) (Nat.lt_of_lt_of_le hb hB.size)).trans c1; have k2 := (hS.cell (p := ⟨b2, off2 + k, none⟩) (Nat.lt_of_lt_of_le hb2 hB.size)).trans c2; clear hS)
        go_simp
        try with_reducible rfl
      refine wpAnyH_take (i := 4) (v := ?v4) rfl (by kernel_rfl) (by kernel_rfl) (by kernel_rfl) (fun _ _ _ h => h) (.inl ⟨by rfl, ?y4⟩) hS0 ?_
      case y4 =>
        intro w' hS
        (have k1 := (hS.cell (p := ⟨b, off + k, none⟩) (Nat.lt_of_lt_of_le hb hB.size)).trans c1; have k2 := (hS.cell (p := ⟨b2, off2 + k, none⟩) (Nat.lt_of_lt_of_le hb2 hB.size)).trans c2; clear hS)
        go_simp
        try with_reducible rfl
      refine wpAnyH_take (i := 5) (v := ?v5) rfl (by kernel_rfl) (by kernel_rfl) (by kernel_rfl) (fun _ _ _ h => h) (.inl ⟨by rfl, ?y5⟩) hS0 ?_
      case y5 =>
        intro w' hS
        (have k1 := (hS.cell (p := ⟨b, off + k, none⟩) (Nat.lt_of_lt_of_le hb hB.size)).trans c1; have k2 := (hS.cell (p := ⟨b2, off2 + k, none⟩) (Nat.lt_of_lt_of_le hb2 hB.size)).trans c2; clear hS)
        go_simp
        try with_reducible rfl
      refine wpAnyH_take (i := 6) (v := ?v6) rfl (by kernel_rfl) (by kernel_rfl) (by kernel_rfl) (fun _ _ _ h => h) (.inl ⟨by rfl, ?y6⟩) hS0 ?_
      case y6 =>
        intro w' hS
        (have k1 := (hS.cell (p := ⟨b, off + k, none⟩) (Nat.lt_of_lt_of_le hb hB.size)).trans c1; have k2 := (hS.cell (p := ⟨b2, off2 + k, none⟩) (Nat.lt_of_lt_of_le hb2 hB.size)).trans c2; clear hS)
        go_simp
        try with_reducible rfl
      refine wpAnyH_take (i := 7) (v := ?v7) rfl (by kernel_rfl) (by kernel_rfl) (by kernel_rfl) (fun _ _ _ h => h) (.inl ⟨by rfl, ?y7⟩) hS0 ?_
      case y7 =>
        intro w' hS
        (have k1 := (hS.cell (p := ⟨b, off + k, none⟩) (Nat.lt_of_lt_of_le hb hB.size)).trans c1; have k2 := (hS.cell (p := ⟨b2, off2 + k, none⟩) (Nat.lt_of_lt_of_le hb2 hB.size)).trans c2; clear hS)
        go_simp
        try with_reducible rfl
      refine wpAnyH_ready (rs := [8]) (by kernel_rfl) (by simp) ?_
      refine AllReadyH.cons rfl (fun K' hK' => ?_) AllReadyH.nil
      rw [if_pos (by rfl)]
      go_simp
      refine (eqInt64S_d true _ _ _ _ _ (i1.later hS0) (i2.later hS0) (by omega) (by simp)).mono ?_
      rintro e w5 ⟨rfl, hb5⟩
      refine hK'.out _ _ (hS0.trans (hb5.mono hS0.size)) fun hS1 => ?_
      refine wpAnyH_take (i := 9) (v := (.bool false)) rfl (by kernel_rfl) (by kernel_rfl) (by kernel_rfl) (fun _ _ _ h => h) (.inl ⟨by first | kernel_rfl | rfl, ?ys99⟩) hS1 ?_
      case ys99 =>
        intro w' hS
        (clear hS)
        go_simp
        first | done | (simp; done) | (simp; omega) | omega | (simp [*]; done)
      refine wpAnyH_done (by kernel_rfl) ?_ _
      have hB2 := hB.trans (hS1.mono hB.size)
      clear hS0 hb5 hK'
      go_wp2
      go_roundw
      case rel => exact ⟨k + 1, by omega, by simp, hB2⟩
      case measure => simp [intOf]; omega
    · obtain rfl : k = xss.length := by omega
      go_wp2
      go_ret
      exact ⟨rfl, hB⟩

/-! ### marks -/
/-- how many elements the first lists have -/
def offs (xss : List (List Int)) : Nat → Nat
  | 0 => 0
  | i + 1 => offs xss i + (lst xss i).length
theorem offs_mono (xss : List (List Int)) {i j : Nat} (h : i ≤ j) : offs xss i ≤ offs xss j := by
  induction j with
  | zero => obtain rfl : i = 0 := by omega
            exact Nat.le_refl _
  | succ j ih =>
    by_cases e : i = j + 1
    · subst e; exact Nat.le_refl _
    · have := ih (by omega); simp only [offs]; omega
theorem offs_bd {xss : List (List Int)} {B i : Nat} (h : ∀ k, k < xss.length → (lst xss k).length ≤ B) (hi : i ≤ xss.length) : offs xss i ≤ i * B := by
  induction i with
  | zero => simp [offs]
  | succ i ih =>
    have h1 := h i (by omega)
    have h2 := ih (by omega)
    simp only [offs]
    rw [Nat.succ_mul]; omega
/-- the first i lists hold marks from k on -/
def upsLL (k : Int) (xss : List (List Int)) (i : Nat) : List (List Int) := (List.range xss.length).map fun j => if j < i then ups (k + offs xss j) (lst xss j).length else lst xss j
theorem upsLL_length (k : Int) (xss : List (List Int)) (i : Nat) : (upsLL k xss i).length = xss.length := by simp [upsLL]
theorem lst_upsLL (k : Int) {xss : List (List Int)} (i : Nat) {j : Nat} (h : j < xss.length) : lst (upsLL k xss i) j = if j < i then ups (k + offs xss j) (lst xss j).length else lst xss j := by simp [lst, upsLL, h]
theorem upsLL_zero (k : Int) (xss : List (List Int)) : upsLL k xss 0 = xss := lst_ext (upsLL_length _ _ _) fun j hj => by
  rw [upsLL_length] at hj
  rw [lst_upsLL _ _ hj, if_neg (by omega)]
theorem OwnU.mark {lo : Nat} {W W' : World} {v : Value} {xss yss : List (List Int)} {u : Nat → Value} {i : Nat} (h : OwnU lo W v xss u) (hi : i < xss.length) (hl : yss.length = xss.length) (hy : ∀ j, j < xss.length → j ≠ i → lst yss j = lst xss j)
    (ho : OwnI lo W' (u i) (lst yss i)) (hg : W.grownBy W' (u i).ownBlock) : OwnU lo W' v yss u := by
  refine ⟨?_, fun k hk => ?_, by rw [hl]; exact h.apart⟩
  · rw [hl]
    exact ownsRow_of_block h.list fun k hk => hg.block k (h.lblk k hk).2 fun e => h.apart.list i hi k e.symm hk
  · rw [hl] at hk
    by_cases e : k = i
    · subst e; exact ho
    · rw [hy k hk e]
      exact (h.rows k hk).of_block fun b hb => hg.block b ((h.rows k hk).blk b hb).2 fun e' => h.apart.rows k i hk hi e b hb e'.symm

set_option maxRecDepth 100000 in
set_option maxHeartbeats 4000000 in
theorem markInt64SS_c (lo hi : Nat) (v : Value) (xss : List (List Int)) (k : Int) (w : World) (h : SegL lo hi w v xss) (hl : xss.length ≤ 1048576) (hl2 : ∀ j, j < xss.length → (lst xss j).length ≤ 1048576) (hk0 : 0 ≤ k) (hk1 : k + offs xss xss.length ≤ 1099511627776) :
    Calls Try.prog 25 #[v, .int .i64 k] w fun e w' => e = .returned (.int .i64 (k + offs xss xss.length)) ∧ SegL lo hi w' v (upsLL k xss xss.length) ∧ Chg (InSeg lo hi) w w' := by
  obtain ⟨⟨u, hU, hT⟩, hle⟩ := h
  obtain ⟨a, cap, rfl⟩ := hU.lsts.shape
  have HT := Lib.hid hT
  have Hl2 := Lib.hid hl2
  have h0 : OwnU lo w (.slice a xss.length cap) (upsLL k xss 0) u := by rw [upsLL_zero]; exact hU
  clear hT hl2 hU
  go_enter Try.func25, Try.ntmps25
  go_wp2
  go_loopw [5, 1] (fun i q wr => ∃ j : Nat, j ≤ xss.length ∧ i = .int .i64 j ∧ q = .int .i64 (k + offs xss j) ∧ OwnU lo wr (.slice a xss.length cap) (upsLL k xss j) u ∧ Chg (InSeg lo hi) w wr) (fun i _ _ => xss.length - (intOf i).toNat)
  case atStart => exact ⟨0, Nat.zero_le _, rfl, by simp [offs], h0, Chg.refl _ _⟩
  case round =>
    obtain ⟨j, hj, rfl, rfl, hO, hc⟩ := hrel
    clear h0
    have hol := upsLL_length k xss j
    have hom := offs_mono xss hj
    by_cases hlt : j < xss.length
    · have hls := hO.lsts
      have hl0 := lst_upsLL k j hlt
      rw [if_neg (by omega)] at hl0
      obtain ⟨⟨a', c', e, h1⟩, h2⟩ := hls
      rw [hol] at h1 h2 e
      cases e
      rcases h1 with h1 | ⟨b, off, rfl, hb, hcl⟩
      · omega
      have c1 := hcl j hlt
      have hki : (j : Int) < (xss.length : Int) := by omega
      have hr := hO.rows j (by rw [hol]; exact hlt)
      rw [hl0] at hr
      obtain ⟨a3, c3, e3⟩ := hr.ints.shape
      have hlj := Hl2.out j hlt
      have hom2 := offs_mono xss (show j + 1 ≤ xss.length by omega)
      have hst : offs xss (j + 1) = offs xss j + (lst xss j).length := rfl
      have HO := Lib.hid hO
      have E3 := Lib.hid e3
      rw [e3] at c1 hr
      obtain ⟨q, hq⟩ : ∃ q, k + (offs xss j : Int) = q := ⟨_, rfl⟩
      have hqb : 0 ≤ q ∧ q ≤ 1099511627776 := by omega
      rw [hq]
      have Hq := Lib.hid hq
      clear hcl h2 hO e3 hl0 hol hq hom hom2
      go_wp2_with fail
      refine (markInt64S_c lo _ _ q _ hr (by omega) hqb.1 hqb.2).mono ?_
      rintro e w5 ⟨rfl, ho5, hg5⟩
      have hO2 : OwnU lo w5 (.slice (some ⟨b, off, none⟩) xss.length cap) (upsLL k xss (j + 1)) u := by
        refine HO.out.mark (i := j) (by rw [upsLL_length]; exact hlt) (by rw [upsLL_length, upsLL_length]) (fun i hi hne => ?_) ?_ ?_
        · rw [upsLL_length] at hi
          rw [lst_upsLL _ _ hi, lst_upsLL _ _ hi]
          by_cases e : i < j
          · rw [if_pos e, if_pos (by omega)]
          · rw [if_neg e, if_neg (by omega)]
        · rw [lst_upsLL _ _ hlt, if_pos (by omega), Hq.out, E3.out]; exact ho5
        · rw [E3.out]; exact hg5
      have hc2 : Chg (InSeg lo hi) w w5 := hc.trans (Chg.grown hg5 fun b e => ⟨(hr.blk b e).1, HT.out b (.inr ⟨j, hlt, by rw [E3.out]; exact e⟩)⟩)
      have hq2 : q + ((lst xss j).length : Int) = k + (offs xss (j + 1) : Int) := by rw [hst]; have := Hq.out; omega
      clear ho5 hg5 hst hr
      go_wp2
      go_roundw
      case rel => exact ⟨j + 1, by omega, by simp, by first | rfl | (congr 1; omega) | go_num, hO2, hc2⟩
      case measure => simp [intOf]; omega
    · obtain rfl : j = xss.length := by omega
      have hS : SegL lo hi wr (.slice a xss.length cap) (upsLL k xss xss.length) := ⟨⟨u, hO, fun b e => HT.out b (by rw [upsLL_length] at e; exact e)⟩, Nat.le_trans hle hc.size⟩
      clear hO
      go_wp2
      go_ret
      exact ⟨rfl, hS, hc⟩

set_option maxRecDepth 100000 in
set_option maxHeartbeats 4000000 in
theorem heldInt64SS_c (v : Value) (xss : List (List Int)) (k : Int) (w : World) (h : Lsts w.heap.size w v (upsLL k xss xss.length)) (hl : xss.length ≤ 1048576) (hl2 : ∀ j, j < xss.length → (lst xss j).length ≤ 1048576) (hk0 : 0 ≤ k) (hk1 : k + offs xss xss.length ≤ 1099511627776) :
    Calls Try.prog 26 #[v, .int .i64 k] w fun e w' => e = .returned (.int .i64 (k + offs xss xss.length)) ∧ w = w' := by
  obtain ⟨u, hU⟩ := h
  have hol := upsLL_length k xss xss.length
  obtain ⟨a, cap, rfl⟩ := hU.shape
  rw [hol]
  rw [hol] at hU
  have Hl2 := Lib.hid hl2
  have HU := Lib.hid hU
  clear hl2 hU hol
  go_enter Try.func26, Try.ntmps26
  go_wp2
  go_loop [5, 1] (fun i q => ∃ j : Nat, j ≤ xss.length ∧ i = .int .i64 j ∧ q = .int .i64 (k + offs xss j)) (fun i _ => xss.length - (intOf i).toNat)
  case atStart => exact ⟨0, Nat.zero_le _, rfl, by simp [offs]⟩
  case round =>
    obtain ⟨j, hj, rfl, rfl⟩ := hrel
    have hom := offs_mono xss hj
    by_cases hlt : j < xss.length
    · obtain ⟨⟨a', c', e, h1⟩, h2⟩ := HU.out
      rw [upsLL_length] at h1 h2 e
      cases e
      rcases h1 with h1 | ⟨b, off, rfl, hb, hcl⟩
      · omega
      have c1 := hcl j hlt
      have hr := h2 j hlt
      rw [lst_upsLL _ _ hlt, if_pos hlt] at hr
      obtain ⟨a3, c3, e3⟩ := hr.shape
      rw [ups_length] at e3
      have hki : (j : Int) < (xss.length : Int) := by omega
      have hlj := Hl2.out j hlt
      have hom2 := offs_mono xss (show j + 1 ≤ xss.length by omega)
      have hst : offs xss (j + 1) = offs xss j + (lst xss j).length := rfl
      rw [e3] at c1 hr
      obtain ⟨q, hq⟩ : ∃ q, k + (offs xss j : Int) = q := ⟨_, rfl⟩
      have hqb : 0 ≤ q ∧ q ≤ 1099511627776 := by omega
      rw [hq] at hr ⊢
      have Hq := Lib.hid hq
      clear hcl h2 e3 hq hom hom2
      go_wp2_with fail
      refine (heldInt64S_c _ _ q _ hr (by omega) hqb.1 hqb.2).mono ?_
      rintro e w5 ⟨rfl, rfl⟩
      have hq2 : q + ((lst xss j).length : Int) = k + (offs xss (j + 1) : Int) := by rw [hst]; have := Hq.out; omega
      have hq3 : 0 ≤ q + ((lst xss j).length : Int) := by omega
      clear hst hr
      go_wp2
      go_round
      case rel => exact ⟨j + 1, by omega, by simp, by first | rfl | (congr 1; omega) | go_num⟩
      case measure => simp [intOf]; omega
    · obtain rfl : j = xss.length := by omega
      go_wp2
      go_ret
      exact ⟨rfl, rfl⟩

end Go.Proofs.Ytlgjnceedjbakaa
