/-
  General words over this seat's translation: a slice value that holds int64s, in memory that lies below a block number; a slice of the call's own; how a call's result is said; what a function's body owes at its return; the iterator numbered, as a contract and as a law for its loops.
  Conditions: a slice that is ranged over takes at most 140737488351232 bytes.
-/
import Derived.RangeFuncNested
import Derived.RangeFuncBound
import Derived.RangeFuncCalls
import Derived.RangeFuncLeaves
import Derived.Shelf.Abstract
import Derived.Shelf.RegionOpen
import Derived.WalkKit
import Derived.OwnWalkIn
import Derived.TacticsInMore
import Derived.LoopNIn
import Derived.LoopIn
import Derived.BigQuiet
import Derived.Deep.QuietTactic
import Derived.Deep.RegionHeld3
import Derived.WalkSmall
import Derived.Outline
import Derived.Lib.Hide
import Derived.Test.YtbhpflhopajbfaaProg
namespace Go.Proofs.Ytbhpflhopajbfaa
open Go.RowKit Go.Shelf
attribute [local go_sem] Oper.semAt_some

/-! ### numbers -/
/-- element k of a list of numbers (0 past its end) -/
def nth (zs : List Int) (k : Nat) : Int := zs[k]?.getD 0
theorem nth_lt {zs : List Int} {k : Nat} (h : k < zs.length) : nth zs k = zs[k] := by simp [nth, h]
theorem nth_mem {zs : List Int} {k : Nat} (h : k < zs.length) : nth zs k ∈ zs := by rw [nth_lt h]; exact List.getElem_mem h
theorem getElem?_nth {zs : List Int} {k : Nat} (h : k < zs.length) : zs[k]? = some (nth zs k) := by rw [nth_lt h]; simp [h]
theorem ext_nth {xs ys : List Int} (hl : xs.length = ys.length) (h : ∀ k, k < xs.length → nth xs k = nth ys k) : xs = ys := by
  refine List.ext_getElem hl fun k h1 h2 => ?_
  have := h k h1
  rwa [nth_lt h1, nth_lt h2] at this
/-- a number of the kind int64 -/
def I64 (z : Int) : Prop := -9223372036854775808 ≤ z ∧ z ≤ 9223372036854775807
/-- a list of them -/
def I64s (zs : List Int) : Prop := ∀ z ∈ zs, I64 z
theorem I64s.nth {zs : List Int} (h : I64s zs) {k : Nat} (hk : k < zs.length) : I64 (nth zs k) := h _ (nth_mem hk)

/-! ### slices of int64s -/
/-- THE SLICE VALUE sv HOLDS THE ints zs, in a block below n₀; or there are none. -/
def Ints (n₀ : Nat) (W : World) (sv : Value) (zs : List Int) : Prop :=
  ∃ a cap, sv = .slice a zs.length cap ∧ (zs = [] ∨ ∃ b off, a = some ⟨b, off, none⟩ ∧ b < n₀ ∧ ∀ j, j < zs.length → W.cell? ⟨b, off + j, none⟩ = some (.int .i64 (nth zs j)))
theorem Ints.shape {n₀ : Nat} {W : World} {sv : Value} {zs : List Int} (h : Ints n₀ W sv zs) : ∃ a cap, sv = .slice a zs.length cap :=
  let ⟨a, c, e, _⟩ := h; ⟨a, c, e⟩
theorem Ints.at_ {n₀ : Nat} {W : World} {a : Option Addr} {len cap : Nat} {zs : List Int} (h : Ints n₀ W (.slice a len cap) zs) {k : Nat} (hk : k < zs.length) :
    ∃ b off, a = some ⟨b, off, none⟩ ∧ b < n₀ ∧ ∀ j, j < zs.length → W.cell? ⟨b, off + j, none⟩ = some (.int .i64 (nth zs j)) := by
  obtain ⟨a', c, e, h⟩ := h
  cases e
  rcases h with rfl | h
  · simp at hk
  · exact h
theorem Ints.below {n₀ : Nat} {A B : World} {sv : Value} {zs : List Int} (hi : Ints n₀ A sv zs) (h : Below n₀ A B) : Ints n₀ B sv zs := by
  obtain ⟨a, c, e, hz⟩ := hi
  refine ⟨a, c, e, ?_⟩
  rcases hz with hz | ⟨b, off, ha, hb, hc⟩
  · exact .inl hz
  · exact .inr ⟨b, off, ha, hb, fun j hj => (h.cell (p := ⟨b, off + j, none⟩) hb).trans (hc j hj)⟩
theorem Ints.mono {n₀ n₁ : Nat} {A : World} {sv : Value} {zs : List Int} (hi : Ints n₀ A sv zs) (h : n₀ ≤ n₁) : Ints n₁ A sv zs := by
  obtain ⟨a, c, e, hz⟩ := hi
  refine ⟨a, c, e, ?_⟩
  rcases hz with hz | ⟨b, off, ha, hb, hc⟩
  · exact .inl hz
  · exact .inr ⟨b, off, ha, by omega, hc⟩
/-- .. as the caller's later calls take it: from the world w on -/
theorem Ints.later {w W : World} {sv : Value} {zs : List Int} (hi : Ints w.heap.size w sv zs) (h : Below w.heap.size w W) : Ints W.heap.size W sv zs := (hi.below h).mono h.size

/-- THE SLICE VALUE v OWNS THE ints zs, in a block from B on. -/
def OwnI (B : Nat) (W : World) (v : Value) (zs : List Int) : Prop := W.ownsRow B 2 1 v zs.length (zs.map (.int .i64))
theorem OwnI.ints {B : Nat} {W : World} {v : Value} {zs : List Int} (h : OwnI B W v zs) : Ints W.heap.size W v zs := by
  have h' : W.ownsRow B 2 1 v zs.length (zs.map (.int .i64)) := h
  obtain ⟨_, h2⟩ := id h'
  rcases h2 with ⟨rfl, h0⟩ | ⟨g, cap, cur, rfl, hg, hh, hn, hm, hs, ht⟩
  · exact ⟨none, 0, by simp [h0], .inl (List.length_eq_zero_iff.1 h0)⟩
  · refine ⟨_, cap, rfl, .inr ⟨g, 0, rfl, (Array.getElem?_eq_some_iff.1 hh).1, fun j hj => ?_⟩⟩
    rw [Nat.zero_add, World.ownsRow.cellAt h' j (by omega)]
    simp [getElem?_nth hj]
theorem OwnI.blk {B : Nat} {W : World} {v : Value} {zs : List Int} (h : OwnI B W v zs) : ∀ k, v.ownBlock = some k → B ≤ k ∧ k < W.heap.size := World.ownsRow.lt h
theorem OwnI.of_block {B : Nat} {W W' : World} {v : Value} {zs : List Int} (h : OwnI B W v zs) (hb : ∀ k, v.ownBlock = some k → W'.heap[k]? = W.heap[k]?) : OwnI B W' v zs := by
  obtain ⟨h1, h2⟩ := h
  refine ⟨h1, ?_⟩
  rcases h2 with ⟨e, h0⟩ | ⟨g, cap, cur, e, hg, hh, r⟩
  · exact .inl ⟨e, h0⟩
  · exact .inr ⟨g, cap, cur, e, hg, (hb g (by simp [e, Value.ownBlock])).trans hh, r⟩
theorem OwnI.below {B : Nat} {W W' : World} {v : Value} {zs : List Int} (h : OwnI B W v zs) (hb : Below W.heap.size W W') : OwnI B W' v zs :=
  h.of_block fun k hk => hb.block k (h.blk k hk).2
theorem OwnI.kept {B : Nat} {W W' : World} {row : Option Nat} {v : Value} {zs : List Int} (h : OwnI B W v zs) (hg : W.grownBy W' row) (hne : v.ownBlock = none ∨ v.ownBlock ≠ row) : OwnI B W' v zs := World.ownsRow.kept h hg hne
theorem OwnI.base {B B' : Nat} {W : World} {v : Value} {zs : List Int} (h : OwnI B W v zs) (hB : B' ≤ B) : OwnI B' W v zs := by
  obtain ⟨h1, h2⟩ := h
  refine ⟨h1, ?_⟩
  rcases h2 with h0 | ⟨g, cap, cur, e, hg, r⟩
  · exact .inl h0
  · exact .inr ⟨g, cap, cur, e, by omega, r⟩
theorem OwnI.frozen {B g n cap : Nat} {W : World} {zs : List Int} (h : OwnI B W (.slice (some ⟨g, 0, none⟩) n cap) zs) (j : Nat) : W.frozen? ⟨g, j, none⟩ = false := by
  obtain ⟨_, h2⟩ := h
  rcases h2 with ⟨e, _⟩ | ⟨g', cap', cur, e, hg, hh, _⟩
  · simp at e
  · simp only [Value.slice.injEq, Option.some.injEq, Addr.mk.injEq, and_true] at e
    obtain ⟨rfl, _⟩ := e
    simp [World.frozen?, hh]
theorem OwnI.cellAt {B g n cap : Nat} {W : World} {zs : List Int} (h : OwnI B W (.slice (some ⟨g, 0, none⟩) n cap) zs) {j : Nat} (hj : j < zs.length) : W.cell? ⟨g, j, none⟩ = some (.int .i64 (nth zs j)) := by
  obtain ⟨a, c, e, h⟩ := h.ints
  rcases h with rfl | ⟨b, off, ha, hb, hc⟩
  · simp at hj
  · cases e; cases ha
    simpa using hc j hj
theorem OwnI.stored {B g n cap : Nat} {W : World} {zs : List Int} (h : OwnI B W (.slice (some ⟨g, 0, none⟩) n cap) zs) (j : Nat) (u : Int) :
    OwnI B (W.setCell ⟨g, j, none⟩ (.int .i64 u)) (.slice (some ⟨g, 0, none⟩) n cap) (zs.set j u) ∧ W.grownBy (W.setCell ⟨g, j, none⟩ (.int .i64 u)) (some g) := by
  have hl : zs.length = n := by obtain ⟨a, c, e, _⟩ := h.ints; simp at e; omega
  have h' : W.ownsRow B 2 1 (.slice (some ⟨g, 0, none⟩) n cap) n (zs.map (.int .i64)) := by rw [← hl]; rw [← hl] at h; exact h
  obtain ⟨r1, r2⟩ := World.ownsRow.stored h' j (.int .i64 u)
  refine ⟨?_, r2⟩
  unfold OwnI
  rw [List.length_set, List.map_set, hl]
  exact r1
/-- a slice with an element is written out -/
theorem OwnI.shape {B : Nat} {W : World} {v : Value} {zs : List Int} (h : OwnI B W v zs) (h0 : 0 < zs.length) : ∃ g cap, v = .slice (some ⟨g, 0, none⟩) zs.length cap ∧ B ≤ g ∧ g < W.heap.size := by
  have hb := h.blk
  obtain ⟨_, h2⟩ := h
  rcases h2 with ⟨_, e⟩ | ⟨g, cap, cur, e, hg, hh, _⟩
  · omega
  · exact ⟨g, cap, e, hg, (hb g (by simp [e, Value.ownBlock])).2⟩

/-- A CALL HANDS BACK A SLICE OF ITS OWN (in mk): the ints zs; and nothing that lay has turned. -/
def GivesI (w : World) (zs : List Int) (mk : Value → Value) (e : Ending) (w' : World) : Prop := ∃ v, e = .returned (mk v) ∧ OwnI w.heap.size w' v zs ∧ Below w.heap.size w w'

/-- 'make([]T, n)', n a variable, in a function that is walked inside a fence. -/
theorem makeIn_full {F : Fence} {n : Nat} {P : Program} (w : World) {ops : Array Oper} {rest : List Oper} {o : Oper} {a : Act} {Q : Exit → Act → World → Prop}
    (hg : o.guard = none) (l c : Operand) (t : TypeId) (hop : o.op = Op.makeSlice t l c)
    (base : Nat) (e : TypeId) (i : TypeInfo) (z : Value) (size : Nat) (h1 : P.underlying t = some (.slice e)) (h2 : P.info? e = some i) (h3 : i.zero = some z) (h4 : i.size = size)
    (kl kc : IntKind) (L C : Int) (m : Nat) (hl : a.eval l = .int kl L) (hc : a.eval c = .int kc C) (hL : L = (m : Int)) (hC : C = (m : Int)) (b2 : i.bytes * m ≤ 281474976710656) (b3 : m ≤ maxLen) (b4 : base ≤ w.heap.size)
    (hK : ∀ w', w'.ownsRow base e size (.slice (some ⟨w.heap.size, 0, none⟩) m m) m (madeCells z.cells (m * size)).toList → w.grownBy w' none → wpListIn F n P ops Q rest (a.put o.dst (.slice (some ⟨w.heap.size, 0, none⟩) m m)) w') :
    wpListIn F n P ops Q (o :: rest) a w := by
  refine wpListIn_plain hg fun K hK' => ?_
  obtain ⟨w', hrun, r1, r2⟩ := run_make_full (P := P) w base t e i z size h1 h2 h3 h4 kl kc m b2 b3 b4
  subst hL
  subst hC
  unfold Oper.wpIn
  refine ⟨by simp [Oper.about, hop], ?_⟩
  rw [Oper.semAt_plain F _ _ (by rw [hop]; intro c hc'; cases hc')]
  simp [execOp, hop, hl, hc, hrun, Result.andThen]
  exact hK' _ _ (hK w' r1 r2)

/-! ### a function's return, where its body holds a range over a function -/
theorem retM0 {F : Fence} {n : Nat} {P : Program} {fn : Func} {R : Ending → World → Prop} {tmps : Array Value} {W : World}
    (h : ∃ v, (results fn tmps).run P W = .ok v W ∧ R (.returned v) W) : bodyPostM F n P fn R .ret { tmps := tmps, defers := [] } W := h
theorem retM1 {F : Fence} {n : Nat} {P : Program} {fn : Func} {R : Ending → World → Prop} {tmps : Array Value} {W : World} {D : Nat} (hK : W.heap[D]? = some (.deferred (some [])))
    (h : ∃ v, (results fn tmps).run P (W.putObj D (.deferred none)) = .ok v (W.putObj D (.deferred none)) ∧ R (.returned v) (W.putObj D (.deferred none))) :
    bodyPostM F n P fn R .ret { tmps := tmps, defers := [{ target := .collected D, args := #[] }] } W := ⟨by simp, .inl ⟨_, _, rfl, run_takeDeferred hK, h⟩⟩
/-- behind the return the block for deferred calls is shut: what lay below lies as it lay -/
theorem below_shut {B : Nat} {w W : World} {D : Nat} (h : Below B w W) (hB : B ≤ D) : Below B w (W.putObj D (.deferred none)) :=
  h.trans ⟨rfl, rfl, rfl, by simp [World.putObj], fun k hk => World.putObj_heap_other (by omega)⟩
theorem boxed_shut {W : World} {B D : Nat} {t : TypeId} {v : Value} (h : Boxed W B t v) (hK : W.heap[D]? = some (.deferred (some []))) : Boxed (W.putObj D (.deferred none)) B t v :=
  (World.putObj_heap_other (by rintro rfl; rw [show W.heap[B]? = _ from h] at hK; cases hK)).trans h
theorem OwnI.shut {B : Nat} {W : World} {D : Nat} {v : Value} {zs : List Int} (h : OwnI B W v zs) (hK : W.heap[D]? = some (.deferred (some []))) : OwnI B (W.putObj D (.deferred none)) v zs :=
  ownsRow_putObj h _ hK rfl

theorem boxed_at {w : World} {b : Nat} {t : TypeId} {v : Value} (h : b = w.heap.size) : Boxed (w.alloc (.cells #[v] t)) b t v := by subst h; exact Boxed.new _ _ _

/-! ### the iterator numbered -/
/-- the first k numbers below n -/
def firsts (n k : Nat) : List (Fin n) := (List.finRange n).take k
theorem firsts_zero (n : Nat) : firsts n 0 = [] := rfl
theorem firsts_succ {n k : Nat} (h : k < n) : firsts n (k + 1) = firsts n k ++ [⟨k, h⟩] := by
  unfold firsts
  rw [List.take_succ_eq_append_getElem (by simpa using h)]
  simp
theorem firsts_length {n k : Nat} (h : k ≤ n) : (firsts n k).length = k := by simp [firsts, h]
theorem mem_firsts {n k : Nat} (x : Fin n) (hk : k ≤ n) : x ∈ firsts n k ↔ x.1 < k := by
  induction k with
  | zero => simp [firsts_zero]
  | succ k ih =>
    rw [firsts_succ (by omega), List.mem_append, ih (by omega), List.mem_singleton, Fin.ext_iff]
    simp only
    omega
/-- what numbered's rounds are handed: the place, and the number there -/
def numEnc (zs : List Int) (x : Fin zs.length) : Array Value := #[.int .i64 ((x.1 : Nat) : Int), .int .i64 (nth zs x.1)]

set_option maxRecDepth 100000 in
set_option maxHeartbeats 2000000 in
theorem numbered1_in (F : Fence) (n : Nat) (h8 : F.fn 151) (hro : F.round = none) (hn : 1 ≤ n) (l Bs n₀ : Nat) (sv : Value) (zs : List Int) (hreach : zs.length * 8 ≤ 140737488351232) (J Jx : List (Fin zs.length) → World → Prop)
    (hY : ∀ pre x W, J pre W → pre.length < zs.length → YieldAt F (n - 1) Try.prog l (numEnc zs x) W fun e W' =>
      (e = .returned (.bool true) ∧ J (pre ++ [x]) W' ∧ Below n₀ W W') ∨ (e = .returned (.bool false) ∧ Jx (pre ++ [x]) W'))
    (W : World) (hBs : W.cell? ⟨Bs, 0, none⟩ = some sv) (hI : Ints n₀ W sv zs) (h0 : J [] W) :
    CallsIn F n Try.prog 151 #[.func (.yield l) #[] #[], .pointer (some ⟨Bs, 0, none⟩)] W fun e W' => (∃ v, e = .returned v) ∧
      ((∃ ys, ys = firsts zs.length zs.length ∧ J ys W') ∨ (∃ pre, (∃ k, k ≤ zs.length ∧ pre = firsts zs.length k) ∧ Jx pre W')) := by
  obtain ⟨a, cap, rfl⟩ := hI.shape
  refine callsIn_of_wp Try.func151 rfl h8 ?_ hro
  simp only [Try.ntmps151, List.size_toArray, List.length_cons, List.length_nil, Nat.reduceAdd, Nat.reduceSub, Array.replicate_succ, Array.replicate_zero, List.push_toArray, List.append_toArray, List.nil_append, List.cons_append]
  gi_wp2
  gi_loopw [7] (fun i wr => ∃ k : Nat, k ≤ zs.length ∧ i = .int .i64 k ∧ J (firsts zs.length k) wr ∧ Below n₀ W wr)
    (fun i _ => zs.length - (intOf i).toNat)
  case atStart => exact ⟨0, Nat.zero_le _, rfl, h0, Below.refl _ _⟩
  case round =>
    obtain ⟨k, hk, rfl, hJs, hnx⟩ := hrel
    by_cases hlt : k < zs.length
    · obtain ⟨b, off, rfl, hb, hc⟩ := hI.at_ hlt
      have hcx : wr.cell? ⟨b, off + k, none⟩ = some (.int .i64 (nth zs k)) := (hnx.cell (p := ⟨b, off + k, none⟩) hb).trans (hc k hlt)
      obtain ⟨fn, tmps, assign, body, hy, hR⟩ := hY _ ⟨k, hlt⟩ wr hJs (by rw [firsts_length hk]; exact hlt)
      dsimp only [numEnc] at hy
      clear hc hI
      gi_wp2
      refine hR.mono ?_
      rintro e W3 (⟨rfl, hJ3, hk3⟩ | ⟨rfl, hJx3⟩)
      · gi_wp2
        go_roundw
        case rel => exact ⟨k + 1, by omega, by simp, by rw [firsts_succ hlt]; exact hJ3, hnx.trans hk3⟩
        case measure => simp [intOf]; omega
      · gi_wp2
        refine bodyPost_ret (results_none rfl _ _ _) rfl ?_
        exact ⟨⟨_, rfl⟩, .inr ⟨_, ⟨k + 1, by omega, (firsts_succ hlt).symm⟩, hJx3⟩⟩
    · obtain rfl : k = zs.length := by omega
      gi_wp2
      go_end0
      exact ⟨⟨_, rfl⟩, .inl ⟨_, rfl, hJs⟩⟩

theorem numbered_c (a : Option Addr) (len cap : Nat) (w : World) :
    Calls Try.prog 93 #[.slice a len cap] w fun e w' => e = .returned (.func (.func 151) #[] #[.pointer (some ⟨w.heap.size, 0, none⟩)]) ∧ w' = w.alloc (.cells #[.slice a len cap] 22) := by
  go_enter Try.func93, Try.ntmps93
  go_wp2
  go_ret
  exact ⟨rfl, rfl⟩

theorem numbered_stops (F : Fence) (n : Nat) (h8 : F.fn 151) (hro : F.round = none) (hn : 1 ≤ n) (Bs n₀ : Nat) (sv : Value) (zs : List Int) (hreach : zs.length * 8 ≤ 140737488351232) (w : World) (hBs : Bs < w.heap.size) (hn₀ : n₀ ≤ w.heap.size)
    (hc : w.cell? ⟨Bs, 0, none⟩ = some sv) (hI : Ints n₀ w sv zs) :
    SeqStopsK F n Try.prog 151 #[.pointer (some ⟨Bs, 0, none⟩)] (numEnc zs) (Below n₀) (fun ys => ys = firsts zs.length zs.length)
      (fun pre => ∃ k, k ≤ zs.length ∧ pre = firsts zs.length k) zs.length w := fun l J Jx W hW _ _ hY h0 =>
  numbered1_in F n h8 hro hn l Bs n₀ sv zs hreach J Jx hY W ((hW.cell (p := ⟨Bs, 0, none⟩) hBs).trans hc) (hI.below (hW.mono hn₀)) h0

/-- A LOOP OVER numbered's VALUE, outside every round. -/
theorem range_numbered {g : Operand} {p q : Tmp} {assign body : Code} {Q : Exit → Act → World → Prop} {a : Act} {w : World} {Bs n₀ : Nat} {sv : Value} {zs : List Int}
    (hg : a.eval g = .func (.func 151) #[] #[.pointer (some ⟨Bs, 0, none⟩)]) (hreach : zs.length * 8 ≤ 140737488351232) (hB : Boxed w Bs 22 sv) (hZ : Ints n₀ w sv zs) (hn : n₀ ≤ w.heap.size)
    (I : List (Fin zs.length) → World → Prop) (Ix : Code → List (Fin zs.length) → World → Prop) (hI : OwnFrom w.heap.size I) (hIx : ∀ c, OwnFrom w.heap.size (Ix c)) (h0 : I [] w) (a₁ : Fin zs.length → Act)
    (hassign : ∀ (l : Nat) (x : Fin zs.length) (W : World) (K : Act → World → Prop), K (a₁ x) W →
      assign.wpIn (Fence.wide.inRound l) 7 Try.prog (Exit.then K (fun _ _ _ => False)) { tmps := (a.tmps.setIfInBounds p (.int .i64 ((x.1 : Nat) : Int))).setIfInBounds q (.int .i64 (nth zs x.1)), defers := [] } W)
    (hbody : ∀ (l : Nat) (pre : List (Fin zs.length)) (x : Fin zs.length) (W : World), I pre W → pre.length < zs.length → body.wpIn (Fence.wide.inRound l) 7 Try.prog (ownPostG w.heap.size (Below n₀) I Ix (pre ++ [x]) W) (a₁ x) W)
    (hdone : ∀ (D : Nat) (W : World), w.heap.size ≤ D → I (firsts zs.length zs.length) W → W.heap[D]? = some (.deferred (some [])) → Q .normal { a with defers := { target := .collected D, args := #[] } :: a.defers } W)
    (hstop : ∀ (D : Nat) (c : Code) (k : Nat) (W : World), w.heap.size ≤ D → k ≤ zs.length → Ix c (firsts zs.length k) W → W.heap[D]? = some (.deferred (some [])) → c.wpIn Fence.wide 9 Try.prog Q { a with defers := { target := .collected D, args := #[] } :: a.defers } W) :
    (Code.rangeFunc g #[p, q] assign body).wpIn Fence.wide 9 Try.prog Q a w :=
  wpIn_rangeFunc_ownG rfl (by omega) hg trivial (enters_of Try.func151 (by kernel_rfl) rfl)
    (numbered_stops Fence.wide 8 trivial rfl (by omega) Bs n₀ sv zs hreach w hB.lt hn hB.cell hZ) belowK_t (belowK_b hn) (Below.refl _ _) (fun _ => rfl)
    I Ix hI hIx h0 a₁ (fun l x W K hK => by simpa [numEnc] using hassign l x W K hK) hbody
    (fun D ys W hD e hi hK => by subst e; exact hdone D W hD hi hK)
    (fun D c pre W hD hp hi hK => by obtain ⟨k, hk, rfl⟩ := hp; exact hstop D c k W hD hk hi hK)

end Go.Proofs.Ytbhpflhopajbfaa
