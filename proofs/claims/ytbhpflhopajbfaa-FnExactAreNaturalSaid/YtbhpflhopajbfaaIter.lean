/-
  A loop over an iterator that hands out a known list of arguments, one place after the other: what an iterator owes (SeqAt), the law for its loops outside every round and within a round; numbered and slotsOf as such iterators.
  Conditions: a slice that is ranged over takes at most 140737488351232 bytes.
-/
import Derived.Test.YtbhpflhopajbfaaBase
namespace Go.Proofs.Ytbhpflhopajbfaa
open Go.RowKit Go.Shelf
attribute [local go_sem] Oper.semAt_some

theorem retM1' {F : Fence} {n : Nat} {P : Program} {fn : Func} {R : Ending → World → Prop} {tmps : Array Value} {W : World} {D : Nat} (hK : W.heap[D]? = some (.deferred (some [])))
    (h : ∃ v, (results fn tmps).run P (W.putObj D (.deferred none)) = .ok v (W.putObj D (.deferred none)) ∧ R (.returned v) (W.putObj D (.deferred none))) :
    bodyPostM F n P fn R .normal { tmps := tmps, defers := [{ target := .collected D, args := #[] }] } W := ⟨by simp, .inl ⟨_, _, rfl, run_takeDeferred hK, h⟩⟩
/-- the blocks of S lie in B as they lay in A -/
structure Kps (S : Nat → Prop) (A B : World) : Prop where
  size : A.heap.size ≤ B.heap.size
  same : ∀ k, S k → k < A.heap.size → B.heap[k]? = A.heap[k]?
theorem Kps.refl (S : Nat → Prop) (A : World) : Kps S A A := ⟨Nat.le_refl _, fun _ _ _ => rfl⟩
theorem Kps.trans {S : Nat → Prop} {A B C : World} (h : Kps S A B) (k : Kps S B C) : Kps S A C := ⟨Nat.le_trans h.size k.size, fun i hi hl => (k.same i hi (Nat.lt_of_lt_of_le hl h.size)).trans (h.same i hi hl)⟩
theorem Kps.mono {S S' : Nat → Prop} {A B : World} (h : Kps S A B) (hs : ∀ k, S' k → S k) : Kps S' A B := ⟨h.size, fun i hi hl => h.same i (hs i hi) hl⟩
theorem Kps.below {S : Nat → Prop} {A B : World} (h : Below A.heap.size A B) : Kps S A B := ⟨h.size, fun i _ hl => h.block i hl⟩
theorem Kps.grown {S : Nat → Prop} {A B : World} {row : Option Nat} (h : A.grownBy B row) (hr : ∀ k, row = some k → ¬ S k) : Kps S A B := ⟨h.size, fun i hi hl => h.block i hl (fun e => hr i e.symm hi)⟩
theorem Kps.setCell {S : Nat → Prop} (A : World) (b j : Nat) (v : Value) (hb : ¬ S b) : Kps S A (A.setCell ⟨b, j, none⟩ v) := ⟨by simp [World.setCell], fun i hi _ => Below.heap_setCell _ _ _ i (fun e => hb (by rw [← show i = b from e]; exact hi))⟩
theorem Kps.alloc (S : Nat → Prop) (A : World) (o : Obj) : Kps S A (A.alloc o) := ⟨by simp, fun i _ hl => Below.heap_alloc _ _ _ hl⟩
theorem Kps.put {S : Nat → Prop} (A : World) (l : Nat) (o : Obj) (hl : ¬ S l) : Kps S A (A.putObj l o) := ⟨by simp [World.putObj], fun i hi _ => World.putObj_heap_other (by rintro rfl; exact hl hi)⟩
theorem Kps.some {S : Nat → Prop} {A B : World} (h : Kps S A B) {k : Nat} {o : Obj} (hk : S k) (ho : A.heap[k]? = some o) : B.heap[k]? = some o := (h.same k hk (Array.getElem?_eq_some_iff.1 ho).1).trans ho
theorem Kps.boxed {S : Nat → Prop} {A B : World} (h : Kps S A B) {k : Nat} {t : TypeId} {v : Value} (hk : S k) (ho : Boxed A k t v) : Boxed B k t v := h.some hk ho
theorem Ints.kps {S : Nat → Prop} {n₀ : Nat} {A B : World} {sv : Value} {zs : List Int} (hi : Ints n₀ A sv zs) (h : Kps S A B) (hS : ∀ k, k < n₀ → S k) : Ints n₀ B sv zs := by
  obtain ⟨a, c, e, hz⟩ := hi
  refine ⟨a, c, e, ?_⟩
  rcases hz with hz | ⟨b, off, ha, hb, hc⟩
  · exact .inl hz
  · refine .inr ⟨b, off, ha, hb, fun j hj => ?_⟩
    have h1 := hc j hj
    exact (World.cell?_of_block (w := A) (a := ⟨b, off + j, none⟩) (h.same b (hS b hb) (World.block_lt_of_cell? A _ h1))).trans h1

/-- THE CALL OF g WITH A yield RUNS ITS ROUNDS AT enc 0, enc 1, .. up to N, or to the first round that says no. It lays c blocks of its own ahead of the first one. A round must keep the blocks of Keep and those c. -/
def SeqAt (F : Fence) (n : Nat) (P : Program) (g : Nat) (lb : Array Value) (enc : Nat → Array Value) (Keep : Nat → Prop) (c N : Nat) (w : World) : Prop :=
  ∀ (l : Nat) (J Jx : Nat → World → Prop) (W : World), Below w.heap.size w W → OwnFrom W.heap.size J → OwnFrom W.heap.size Jx →
    (∀ k W1, J k W1 → k < N → W.heap.size + c ≤ W1.heap.size → YieldAt F (n - 1) P l (enc k) W1 fun e W' =>
      Kps (fun b => Keep b ∨ (W.heap.size ≤ b ∧ b < W.heap.size + c)) W1 W' ∧ ((e = .returned (.bool true) ∧ J (k + 1) W') ∨ (e = .returned (.bool false) ∧ Jx (k + 1) W'))) →
    J 0 W → CallsIn F n P g (#[.func (.yield l) #[] #[]] ++ lb) W fun e W' => (∃ v, e = .returned v) ∧ (J N W' ∨ ∃ k, k ≤ N ∧ Jx k W')

theorem SeqAt.inRound {F : Fence} {n : Nat} {P : Program} {g : Nat} {lb : Array Value} {enc : Nat → Array Value} {Keep : Nat → Prop} {c N : Nat} {w : World} (l : Nat) (h : SeqAt F n P g lb enc Keep c N w) : SeqAt (F.inRound l) n P g lb enc Keep c N w := h

/-- how a round's body may be left -/
def roundEnd (S : Nat → Prop) (I : Nat → World → Prop) (Ix : Code → Nat → World → Prop) (k : Nat) (W : World) : Exit → Act → World → Prop
  | .normal, _, W' => Kps S W W' ∧ I (k + 1) W'
  | .ret, _, W' => Kps S W W' ∧ Ix .ret (k + 1) W'
  | .exit id, _, W' => Kps S W W' ∧ Ix (.exit id) (k + 1) W'
  | .goto t, _, W' => Kps S W W' ∧ Ix (.goto t) (k + 1) W'
  | .panic _, _, _ => False
  | .outgrown, _, _ => False

/-- what a round must keep: the iterator's Keep, and the band of blocks from lo on that the loop and the iterator have laid -/
def Band (Keep : Nat → Prop) (lo hi : Nat) (b : Nat) : Prop := Keep b ∨ (lo ≤ b ∧ b < hi)

/-- a loop's record -/
def recOf (fn : FuncId) (tmps : Array Value) (ps : Array Tmp) (assign body : Code) (d : Nat) (st : LoopState) (pe : Option Code) : Loop :=
  { state := st, pending := pe, fn := fn, tmps := tmps, params := ps, assign := assign, body := body, defers := d }

theorem OwnFrom.up {β : Type} {B B' : Nat} {I : β → World → Prop} (h : OwnFrom B I) (hB : B ≤ B') : OwnFrom B' I :=
  fun s W W' row hs hg hr => h s W W' row hs hg (fun r e => ⟨Nat.le_trans hB (hr r e).1, (hr r e).2⟩)

section
variable {F : Fence} {n m : Nat} {P : Program}
theorem range_core {ps : Array Tmp} {assign body : Code} {Q : Exit → Act → World → Prop} {tmps : Array Value} {a' : Act} {w W1 : World} {l fn dd : Nat} {Ds : List Nat} (hfn : F.fn fn)
    {gf : Nat} {lb : Array Value} {enc : Nat → Array Value} {Keep : Nat → Prop} {c N : Nat} (hseq : SeqAt F m P gf lb enc Keep c N w) (hKeep : ∀ b, Keep b → b < w.heap.size) (hps : ∀ k, (enc k).size = ps.size)
    (hb1 : Below w.heap.size w W1) (hlw : w.heap.size ≤ l) (hlt : l < W1.heap.size) (hL1 : W1.heap[l]? = some (.loop (recOf fn tmps ps assign body dd .ready none)))
    (hD1 : ∀ D ∈ Ds, (w.heap.size ≤ D ∧ D < W1.heap.size ∧ D ≠ l) ∧ W1.heap[D]? = some (.deferred (some [])))
    (I : Nat → World → Prop) (Ix : Code → Nat → World → Prop) (hI : OwnFrom w.heap.size I) (hIx : ∀ c, OwnFrom w.heap.size (Ix c)) (hI1 : I 0 W1) (Ax : Nat → Act → World → Prop) (hAx : ∀ k a', OwnFrom w.heap.size (fun (_ : Unit) W => Ax k a' W))
    (hassign : ∀ (l : Nat) (k : Nat) (W : World) (K : Act → World → Prop), I k W → k < N → W1.heap.size + c ≤ W.heap.size → (∀ a' W', Kps (Band Keep w.heap.size (W1.heap.size + c)) W W' → I k W' → Ax k a' W' → K a' W') →
      assign.wpIn (F.inRound l) (m - 1) P (Exit.then K (fun _ _ _ => False)) { tmps := (ps.zip (enc k)).foldl (fun t (p, v) => t.setIfInBounds p v) tmps, defers := [] } W)
    (hbody : ∀ (l : Nat) (k : Nat) (a' : Act) (W : World), w.heap.size ≤ l → (∃ r, W.heap[l]? = some (.loop r)) → I k W → Ax k a' W → k < N → W1.heap.size + c ≤ W.heap.size → body.wpIn (F.inRound l) (m - 1) P (roundEnd (Band Keep w.heap.size (W1.heap.size + c)) I Ix k W) a' W)
    (hdone : ∀ (W : World), I N W → (∀ D ∈ Ds, W.heap[D]? = some (.deferred (some []))) → Q .normal a' W)
    (hstop : ∀ (c : Code) (k : Nat) (W : World), k ≤ N → Ix c k W → (∀ D ∈ Ds, W.heap[D]? = some (.deferred (some []))) → c.wpIn F n P Q a' W) :
    CallsIn F m P gf (#[.func (.yield l) #[] #[]] ++ lb) W1 (rangePost F n P l Q a') := by
  have hw1 := hb1.size
  have far : ∀ {A B : World} {row : Option Nat} {k : Nat} {o : Obj}, A.grownBy B row → (∀ r, row = some r → W1.heap.size ≤ r ∧ ∃ o : Obj, A.heap[r]? = some o ∧ o.isCells = false) → k < W1.heap.size → A.heap[k]? = some o → B.heap[k]? = some o :=
    fun hg hr hk ho => (hg.block _ (Array.getElem?_eq_some_iff.1 ho).1 (fun e => by have := (hr _ e.symm).1; omega)).trans ho
  have low : ∀ {A : World} {row : Option Nat}, (∀ r, row = some r → W1.heap.size ≤ r ∧ ∃ o : Obj, A.heap[r]? = some o ∧ o.isCells = false) → (∀ r, row = some r → w.heap.size ≤ r ∧ ∃ o : Obj, A.heap[r]? = some o ∧ o.isCells = false) :=
    fun hr r e => ⟨by have := (hr r e).1; omega, (hr r e).2⟩
  have hlK : ¬ (Keep l ∨ (W1.heap.size ≤ l ∧ l < W1.heap.size + c)) := fun h => by
    rcases h with h | h
    · have := hKeep l h; omega
    · omega
  have inB : ∀ {k : Nat}, w.heap.size ≤ k → k < W1.heap.size → Band Keep w.heap.size (W1.heap.size + c) k := fun h1 h2 => .inr ⟨h1, by omega⟩
  have sub : ∀ b, (Keep b ∨ (W1.heap.size ≤ b ∧ b < W1.heap.size + c)) → Band Keep w.heap.size (W1.heap.size + c) b := fun b h => h.imp id (fun h => ⟨by omega, h.2⟩)
  refine (hseq l
    (fun k W => I k W ∧ W.heap[l]? = some (.loop (recOf fn tmps ps assign body dd .ready none)) ∧ ∀ D ∈ Ds, W.heap[D]? = some (.deferred (some [])))
    (fun k W => ∃ c, Ix c k W ∧ W.heap[l]? = some (.loop (recOf fn tmps ps assign body dd .done (some c))) ∧ ∀ D ∈ Ds, W.heap[D]? = some (.deferred (some [])))
    W1 hb1
    (fun s A B row hs hg hr => ⟨hI s A B row hs.1 hg (low hr), far hg hr hlt hs.2.1, fun D hD => far hg hr (hD1 D hD).1.2.1 (hs.2.2 D hD)⟩)
    (fun s A B row hs hg hr => by
      obtain ⟨c, hc, hl, hk⟩ := hs
      exact ⟨c, hIx c s A B row hc hg (low hr), far hg hr hlt hl, fun D hD => far hg hr (hD1 D hD).1.2.1 (hk D hD)⟩)
    ?_ ⟨hI1, hL1, fun D hD => (hD1 D hD).2⟩).mono ?_
  · rintro k W ⟨hi, hl, hk⟩ hkN hsz
    have hy := run_yield (P := P) (args := enc k) hl (hps k)
    refine ⟨fn, _, assign, body, hy, roundIn_of_wpIn hfn (hassign l k W _ hi hkN hsz ?_)⟩
    intro a2 Wa hkf hia hax
    have hla := hkf.some (inB hlw hlt) hl
    have hlta : l < Wa.heap.size := (Array.getElem?_eq_some_iff.1 hla).1
    refine ⟨_, run_beginRound hla rfl, ?_⟩
    have hl2 : (Wa.putObj l (.loop { recOf fn tmps ps assign body dd .ready none with state := .busy })).heap[l]? = some (.loop { recOf fn tmps ps assign body dd .ready none with state := .busy }) := World.putObj_heap_same hlta
    have hka : ∀ D ∈ Ds, Wa.heap[D]? = some (.deferred (some [])) := fun D hD => hkf.some (inB (hD1 D hD).1.1 (hD1 D hD).1.2.1) (hk D hD)
    have hs2 : W1.heap.size + c ≤ (Wa.putObj l (.loop { recOf fn tmps ps assign body dd .ready none with state := .busy })).heap.size := by have := hkf.size; simp [World.putObj]; omega
    refine wpIn_mono (hbody l k a2 _ hlw ⟨_, hl2⟩ (hI.putObj _ hia hlw hla rfl) ((hAx k a2).putObj (s := ()) _ hax hlw hla rfl) hkN hs2) ?_
    have fin : ∀ (jump : Option Code) (W3 : World), Kps (Band Keep w.heap.size (W1.heap.size + c)) (Wa.putObj l (.loop { recOf fn tmps ps assign body dd .ready none with state := .busy })) W3 →
        (Instr.endRound l jump).run P W3 = .ok (.bool jump.isNone) (W3.putObj l (.loop (recOf fn tmps ps assign body dd (if jump.isNone then .ready else .done) jump))) ∧
        W3.heap[l]? = some (.loop { recOf fn tmps ps assign body dd .ready none with state := .busy }) ∧
        (W3.putObj l (.loop (recOf fn tmps ps assign body dd (if jump.isNone then .ready else .done) jump))).heap[l]? = some (.loop (recOf fn tmps ps assign body dd (if jump.isNone then .ready else .done) jump)) ∧
        (∀ D ∈ Ds, (W3.putObj l (.loop (recOf fn tmps ps assign body dd (if jump.isNone then .ready else .done) jump))).heap[D]? = some (.deferred (some []))) ∧
        Kps (fun b => Keep b ∨ (W1.heap.size ≤ b ∧ b < W1.heap.size + c)) W (W3.putObj l (.loop (recOf fn tmps ps assign body dd (if jump.isNone then .ready else .done) jump))) := fun jump W3 hk3 => by
      have hl3 := hk3.some (inB hlw hlt) hl2
      refine ⟨run_endRound (P := P) jump hl3, hl3, World.putObj_heap_same (Array.getElem?_eq_some_iff.1 hl3).1, fun D hD => ?_, ?_⟩
      · have h1 := (hD1 D hD).1
        exact (World.putObj_heap_other (by omega)).trans (hk3.some (inB h1.1 h1.2.1) ((World.putObj_heap_other (by omega)).trans (hka D hD)))
      · exact (hkf.mono sub).trans ((Kps.put _ _ _ hlK).trans ((hk3.mono sub).trans (Kps.put _ _ _ hlK)))
    rintro e a3 W3 hp
    cases e with
    | normal =>
      obtain ⟨hk3, hi3⟩ := hp
      obtain ⟨hr, hl3, hl4, hk4, hkk⟩ := fin none W3 hk3
      exact ⟨_, _, hr, hkk, .inl ⟨rfl, ⟨hI.putObj _ hi3 hlw hl3 rfl, hl4, hk4⟩⟩⟩
    | ret =>
      obtain ⟨hk3, hi3⟩ := hp
      obtain ⟨hr, hl3, hl4, hk4, hkk⟩ := fin (some .ret) W3 hk3
      exact ⟨_, _, hr, hkk, .inr ⟨rfl, ⟨.ret, (hIx _).putObj _ hi3 hlw hl3 rfl, hl4, hk4⟩⟩⟩
    | exit id =>
      obtain ⟨hk3, hi3⟩ := hp
      obtain ⟨hr, hl3, hl4, hk4, hkk⟩ := fin (some (.exit id)) W3 hk3
      exact ⟨_, _, hr, hkk, .inr ⟨rfl, ⟨.exit id, (hIx _).putObj _ hi3 hlw hl3 rfl, hl4, hk4⟩⟩⟩
    | goto t =>
      obtain ⟨hk3, hi3⟩ := hp
      obtain ⟨hr, hl3, hl4, hk4, hkk⟩ := fin (some (.goto t)) W3 hk3
      exact ⟨_, _, hr, hkk, .inr ⟨rfl, ⟨.goto t, (hIx _).putObj _ hi3 hlw hl3 rfl, hl4, hk4⟩⟩⟩
    | panic ch => exact hp.elim
    | outgrown => exact hp.elim
  · rintro e W2 ⟨⟨v, rfl⟩, (⟨hi, hl, hk⟩ | ⟨k, hkN, c, hi, hl, hk⟩)⟩
    · exact ⟨none, _, run_endLoop (P := P) hl (by simp [recOf]), hdone _ (hI.putObj _ hi hlw hl rfl) (fun D hD => (World.putObj_heap_other (by have := (hD1 D hD).1; omega)).trans (hk D hD))⟩
    · exact ⟨some c, _, run_endLoop (P := P) hl (by simp [recOf]), hstop c k _ hkN ((hIx c).putObj _ hi hlw hl rfl) (fun D hD => (World.putObj_heap_other (by have := (hD1 D hD).1; omega)).trans (hk D hD))⟩

/-- A LOOP OVER SUCH AN ITERATOR, outside every round. -/
theorem range_out {g : Operand} {ps : Array Tmp} {assign body : Code} {Q : Exit → Act → World → Prop} {a : Act} {w : World} (hro : F.round = none) (h1 : 1 ≤ n)
    {gf : Nat} {lb : Array Value} (hg : a.eval g = .func (.func gf) #[] lb) (hFg : F.fn gf) (eg : ∀ args w, (callFunc gf args).run P w = .ok (.enter gf args) w)
    {enc : Nat → Array Value} {Keep : Nat → Prop} {c N : Nat} (hseq : SeqAt F (n - 1) P gf lb enc Keep c N w) (hKeep : ∀ b, Keep b → b < w.heap.size) (hps : ∀ k, (enc k).size = ps.size)
    (I : Nat → World → Prop) (Ix : Code → Nat → World → Prop) (hI : OwnFrom w.heap.size I) (hIx : ∀ c, OwnFrom w.heap.size (Ix c)) (h0 : I 0 w) (Ax : Nat → Act → World → Prop) (hAx : ∀ k a', OwnFrom w.heap.size (fun (_ : Unit) W => Ax k a' W))
    (hassign : ∀ (l : Nat) (k : Nat) (W : World) (K : Act → World → Prop), I k W → k < N → w.heap.size + 2 + c ≤ W.heap.size → (∀ a' W', Kps (Band Keep w.heap.size (w.heap.size + 2 + c)) W W' → I k W' → Ax k a' W' → K a' W') →
      assign.wpIn (F.inRound l) (n - 1 - 1) P (Exit.then K (fun _ _ _ => False)) { tmps := (ps.zip (enc k)).foldl (fun t (p, v) => t.setIfInBounds p v) a.tmps, defers := [] } W)
    (hbody : ∀ (l : Nat) (k : Nat) (a' : Act) (W : World), w.heap.size ≤ l → (∃ r, W.heap[l]? = some (.loop r)) → I k W → Ax k a' W → k < N → w.heap.size + 2 + c ≤ W.heap.size → body.wpIn (F.inRound l) (n - 1 - 1) P (roundEnd (Band Keep w.heap.size (w.heap.size + 2 + c)) I Ix k W) a' W)
    (hdone : ∀ (D : Nat) (W : World), w.heap.size ≤ D ∧ D < w.heap.size + 2 → I N W → W.heap[D]? = some (.deferred (some [])) → Q .normal { a with defers := { target := .collected D, args := #[] } :: a.defers } W)
    (hstop : ∀ (D : Nat) (c : Code) (k : Nat) (W : World), w.heap.size ≤ D ∧ D < w.heap.size + 2 → k ≤ N → Ix c k W → W.heap[D]? = some (.deferred (some [])) → c.wpIn F n P Q { a with defers := { target := .collected D, args := #[] } :: a.defers } W) :
    (Code.rangeFunc g ps assign body).wpIn F n P Q a w := by
  refine wpIn_rangeFunc ?_
  intro fn hfn
  rw [hro]
  refine ⟨w.heap.size + 1, [{ target := .collected w.heap.size, args := #[] }], (w.alloc (.deferred (some []))).alloc (.loop (recOf fn a.tmps ps assign body w.heap.size .ready none)), { target := .fn (.func gf) lb, args := #[.func (.yield (w.heap.size + 1)) #[] #[]] },
    (w.alloc (.deferred (some []))).alloc (.loop (recOf fn a.tmps ps assign body w.heap.size .ready none)), gf,
    #[.func (.yield (w.heap.size + 1)) #[] #[]] ++ lb, (w.alloc (.deferred (some []))).alloc (.loop (recOf fn a.tmps ps assign body w.heap.size .ready none)), run_enterLoop_outer _ _ _ _ _, ?_, ?_, ?_, fun _ => h1, ?_⟩
  · simp only [resolve, hg]
    simp [go_sem]
  · intro f' hf'; simp [Target.leads] at hf'; subst hf'; exact hFg
  · simp [invoke, go_sem, eg]
  · refine range_core hfn hseq hKeep hps (dd := w.heap.size) (Ds := [w.heap.size]) ((((Below.refl _ w).alloc (Nat.le_refl _) _).alloc (by simp) _)) (by omega) (by simp) ?_ ?_ I Ix hI hIx (hI.alloc _ (hI.alloc _ h0)) Ax hAx (by simpa using hassign) (by simpa using hbody)
      (fun W hi hk => hdone _ W ⟨Nat.le_refl _, by omega⟩ hi (hk _ (by simp))) (fun c k W hkN hi hk => hstop _ c k W ⟨Nat.le_refl _, by omega⟩ hkN hi (hk _ (by simp)))
    · have := World.alloc_heap_new (w.alloc (.deferred (some []))) (.loop (recOf fn a.tmps ps assign body w.heap.size .ready none)); rwa [World.size_alloc] at this
    · intro D hD
      obtain rfl : D = w.heap.size := by simpa using hD
      refine ⟨⟨by omega, by simp; omega, by omega⟩, ?_⟩
      exact (Below.heap_alloc _ _ _ (by simp)).trans (World.alloc_heap_new w _)

/-- .. within a round of loop l₀. -/
theorem range_in {g : Operand} {ps : Array Tmp} {assign body : Code} {Q : Exit → Act → World → Prop} {a : Act} {w : World} {l₀ : Nat} {r₀ : Loop} (hro : F.round = some l₀) (hr₀ : w.heap[l₀]? = some (.loop r₀)) (h1 : 1 ≤ n)
    {gf : Nat} {lb : Array Value} (hg : a.eval g = .func (.func gf) #[] lb) (hFg : F.fn gf) (eg : ∀ args w, (callFunc gf args).run P w = .ok (.enter gf args) w)
    {enc : Nat → Array Value} {Keep : Nat → Prop} {c N : Nat} (hseq : SeqAt F (n - 1) P gf lb enc Keep c N w) (hKeep : ∀ b, Keep b → b < w.heap.size) (hps : ∀ k, (enc k).size = ps.size)
    (I : Nat → World → Prop) (Ix : Code → Nat → World → Prop) (hI : OwnFrom w.heap.size I) (hIx : ∀ c, OwnFrom w.heap.size (Ix c)) (h0 : I 0 w) (Ax : Nat → Act → World → Prop) (hAx : ∀ k a', OwnFrom w.heap.size (fun (_ : Unit) W => Ax k a' W))
    (hassign : ∀ (l : Nat) (k : Nat) (W : World) (K : Act → World → Prop), I k W → k < N → w.heap.size + 1 + c ≤ W.heap.size → (∀ a' W', Kps (Band Keep w.heap.size (w.heap.size + 1 + c)) W W' → I k W' → Ax k a' W' → K a' W') →
      assign.wpIn (F.inRound l) (n - 1 - 1) P (Exit.then K (fun _ _ _ => False)) { tmps := (ps.zip (enc k)).foldl (fun t (p, v) => t.setIfInBounds p v) a.tmps, defers := [] } W)
    (hbody : ∀ (l : Nat) (k : Nat) (a' : Act) (W : World), w.heap.size ≤ l → (∃ r, W.heap[l]? = some (.loop r)) → I k W → Ax k a' W → k < N → w.heap.size + 1 + c ≤ W.heap.size → body.wpIn (F.inRound l) (n - 1 - 1) P (roundEnd (Band Keep w.heap.size (w.heap.size + 1 + c)) I Ix k W) a' W)
    (hdone : ∀ (W : World), I N W → Q .normal a W)
    (hstop : ∀ (c : Code) (k : Nat) (W : World), k ≤ N → Ix c k W → c.wpIn F n P Q a W) :
    (Code.rangeFunc g ps assign body).wpIn F n P Q a w := by
  refine wpIn_rangeFunc ?_
  intro fn hfn
  rw [hro]
  refine ⟨w.heap.size, [], w.alloc (.loop (recOf fn a.tmps ps assign body r₀.defers .ready none)), { target := .fn (.func gf) lb, args := #[.func (.yield w.heap.size) #[] #[]] },
    w.alloc (.loop (recOf fn a.tmps ps assign body r₀.defers .ready none)), gf,
    #[.func (.yield w.heap.size) #[] #[]] ++ lb, w.alloc (.loop (recOf fn a.tmps ps assign body r₀.defers .ready none)), run_enterLoop_inner hr₀ _ _ _ _ _, ?_, ?_, ?_, fun _ => h1, ?_⟩
  · simp only [resolve, hg]
    simp [go_sem]
  · intro f' hf'; simp [Target.leads] at hf'; subst hf'; exact hFg
  · simp [invoke, go_sem, eg]
  · exact range_core hfn hseq hKeep hps (Ds := []) ((Below.refl _ w).alloc (Nat.le_refl _) _) (Nat.le_refl _) (by simp) (World.alloc_heap_new w _) (by simp) I Ix hI hIx (hI.alloc _ h0) Ax hAx (by simpa using hassign) (by simpa using hbody)
      (fun W hi _ => hdone W hi) (fun c k W hkN hi _ => hstop c k W hkN hi)
/-- .. where the assignments lay no block. -/
theorem range_outA {g : Operand} {ps : Array Tmp} {assign body : Code} {Q : Exit → Act → World → Prop} {a : Act} {w : World} (hro : F.round = none) (h1 : 1 ≤ n)
    {gf : Nat} {lb : Array Value} (hg : a.eval g = .func (.func gf) #[] lb) (hFg : F.fn gf) (eg : ∀ args w, (callFunc gf args).run P w = .ok (.enter gf args) w)
    {enc : Nat → Array Value} {Keep : Nat → Prop} {c N : Nat} (hseq : SeqAt F (n - 1) P gf lb enc Keep c N w) (hKeep : ∀ b, Keep b → b < w.heap.size) (hps : ∀ k, (enc k).size = ps.size)
    (I : Nat → World → Prop) (Ix : Code → Nat → World → Prop) (hI : OwnFrom w.heap.size I) (hIx : ∀ c, OwnFrom w.heap.size (Ix c)) (h0 : I 0 w) (a₁ : Nat → Act)
    (hassign : ∀ (l : Nat) (k : Nat) (W : World) (K : Act → World → Prop), k < N → K (a₁ k) W →
      assign.wpIn (F.inRound l) (n - 1 - 1) P (Exit.then K (fun _ _ _ => False)) { tmps := (ps.zip (enc k)).foldl (fun t (p, v) => t.setIfInBounds p v) a.tmps, defers := [] } W)
    (hbody : ∀ (l : Nat) (k : Nat) (W : World), w.heap.size ≤ l → (∃ r, W.heap[l]? = some (.loop r)) → I k W → k < N → w.heap.size + 2 + c ≤ W.heap.size → body.wpIn (F.inRound l) (n - 1 - 1) P (roundEnd (Band Keep w.heap.size (w.heap.size + 2 + c)) I Ix k W) (a₁ k) W)
    (hdone : ∀ (D : Nat) (W : World), w.heap.size ≤ D ∧ D < w.heap.size + 2 → I N W → W.heap[D]? = some (.deferred (some [])) → Q .normal { a with defers := { target := .collected D, args := #[] } :: a.defers } W)
    (hstop : ∀ (D : Nat) (c : Code) (k : Nat) (W : World), w.heap.size ≤ D ∧ D < w.heap.size + 2 → k ≤ N → Ix c k W → W.heap[D]? = some (.deferred (some [])) → c.wpIn F n P Q { a with defers := { target := .collected D, args := #[] } :: a.defers } W) :
    (Code.rangeFunc g ps assign body).wpIn F n P Q a w :=
  range_out hro h1 hg hFg eg hseq hKeep hps I Ix hI hIx h0 (fun k a' _ => a' = a₁ k) (fun _ _ _ _ _ _ hs _ _ => hs)
    (fun l k W K hi hk _ hK => hassign l k W K hk (hK _ _ (Kps.refl _ _) hi rfl)) (fun l k a' W hl hr hi e hk hs => by subst e; exact hbody l k W hl hr hi hk hs) hdone hstop

/-- .. where the assignments lay no block. -/
theorem range_inA {g : Operand} {ps : Array Tmp} {assign body : Code} {Q : Exit → Act → World → Prop} {a : Act} {w : World} {l₀ : Nat} {r₀ : Loop} (hro : F.round = some l₀) (hr₀ : w.heap[l₀]? = some (.loop r₀)) (h1 : 1 ≤ n)
    {gf : Nat} {lb : Array Value} (hg : a.eval g = .func (.func gf) #[] lb) (hFg : F.fn gf) (eg : ∀ args w, (callFunc gf args).run P w = .ok (.enter gf args) w)
    {enc : Nat → Array Value} {Keep : Nat → Prop} {c N : Nat} (hseq : SeqAt F (n - 1) P gf lb enc Keep c N w) (hKeep : ∀ b, Keep b → b < w.heap.size) (hps : ∀ k, (enc k).size = ps.size)
    (I : Nat → World → Prop) (Ix : Code → Nat → World → Prop) (hI : OwnFrom w.heap.size I) (hIx : ∀ c, OwnFrom w.heap.size (Ix c)) (h0 : I 0 w) (a₁ : Nat → Act)
    (hassign : ∀ (l : Nat) (k : Nat) (W : World) (K : Act → World → Prop), k < N → K (a₁ k) W →
      assign.wpIn (F.inRound l) (n - 1 - 1) P (Exit.then K (fun _ _ _ => False)) { tmps := (ps.zip (enc k)).foldl (fun t (p, v) => t.setIfInBounds p v) a.tmps, defers := [] } W)
    (hbody : ∀ (l : Nat) (k : Nat) (W : World), w.heap.size ≤ l → (∃ r, W.heap[l]? = some (.loop r)) → I k W → k < N → w.heap.size + 1 + c ≤ W.heap.size → body.wpIn (F.inRound l) (n - 1 - 1) P (roundEnd (Band Keep w.heap.size (w.heap.size + 1 + c)) I Ix k W) (a₁ k) W)
    (hdone : ∀ (W : World), I N W → Q .normal a W)
    (hstop : ∀ (c : Code) (k : Nat) (W : World), k ≤ N → Ix c k W → c.wpIn F n P Q a W) :
    (Code.rangeFunc g ps assign body).wpIn F n P Q a w :=
  range_in hro hr₀ h1 hg hFg eg hseq hKeep hps I Ix hI hIx h0 (fun k a' _ => a' = a₁ k) (fun _ _ _ _ _ _ hs _ _ => hs)
    (fun l k W K hi hk _ hK => hassign l k W K hk (hK _ _ (Kps.refl _ _) hi rfl)) (fun l k a' W hl hr hi e hk hs => by subst e; exact hbody l k W hl hr hi hk hs) hdone hstop

end

/-! ### numbered -/
def numAt (zs : List Int) (k : Nat) : Array Value := #[.int .i64 (k : Int), .int .i64 (nth zs k)]

set_option maxRecDepth 100000 in
set_option maxHeartbeats 2000000 in
theorem numbered_atK (F : Fence) (n : Nat) (h8 : F.fn 151) (hro : F.round = none) (hn : 1 ≤ n) (Bs : Nat) (Keep : Nat → Prop) (sv : Value) (zs : List Int) (hreach : zs.length * 8 ≤ 140737488351232) (w : World) (hBs : Boxed w Bs 22 sv) (hI0 : ∀ W, Kps Keep w W → Ints W.heap.size W sv zs) :
    SeqAt F n Try.prog 151 #[.pointer (some ⟨Bs, 0, none⟩)] (numAt zs) Keep 0 zs.length w := fun l J Jx W hW hJ hJx hY h0 => by
  have hI : ∀ W', Kps Keep W W' → Ints W'.heap.size W' sv zs := fun W' h => hI0 W' ((Kps.below hW).trans h)
  have hc0 : W.cell? ⟨Bs, 0, none⟩ = some sv := (hW.cell (p := ⟨Bs, 0, none⟩) hBs.lt).trans hBs.cell
  clear hI0 hBs
  obtain ⟨a, cap, rfl⟩ := (hI W (Kps.refl _ _)).shape
  refine callsIn_of_wp Try.func151 rfl h8 ?_ hro
  simp only [Try.ntmps151, List.size_toArray, List.length_cons, List.length_nil, Nat.reduceAdd, Nat.reduceSub, Array.replicate_succ, Array.replicate_zero, List.push_toArray, List.append_toArray, List.nil_append, List.cons_append]
  gi_wp2
  gi_loopw [7] (fun i wr => ∃ k : Nat, k ≤ zs.length ∧ i = .int .i64 k ∧ J k wr ∧ Kps Keep W wr)
    (fun i _ => zs.length - (intOf i).toNat)
  case atStart => exact ⟨0, Nat.zero_le _, rfl, h0, Kps.refl _ _⟩
  case round =>
    obtain ⟨k, hk, rfl, hJs, hnx⟩ := hrel
    by_cases hlt : k < zs.length
    · obtain ⟨b, off, rfl, hb, hc⟩ := (hI wr hnx).at_ hlt
      have hcx : wr.cell? ⟨b, off + k, none⟩ = some (.int .i64 (nth zs k)) := hc k hlt
      obtain ⟨fn, tmps, assign, body, hy, hR⟩ := hY k wr hJs hlt (by have := hnx.size; omega)
      dsimp only [numAt] at hy
      clear hc hI
      gi_wp2
      refine hR.mono ?_
      rintro e W3 ⟨hk3, (⟨rfl, hJ3⟩ | ⟨rfl, hJx3⟩)⟩
      · gi_wp2
        go_roundw
        case rel => exact ⟨k + 1, by omega, by simp, hJ3, hnx.trans (hk3.mono fun _ h => .inl h)⟩
        case measure => simp [intOf]; omega
      · gi_wp2
        refine bodyPost_ret (results_none rfl _ _ _) rfl ?_
        exact ⟨⟨_, rfl⟩, .inr ⟨k + 1, by omega, hJx3⟩⟩
    · obtain rfl : k = zs.length := by omega
      gi_wp2
      go_end0
      exact ⟨⟨_, rfl⟩, .inl hJs⟩

theorem numbered_at (F : Fence) (n : Nat) (h8 : F.fn 151) (hro : F.round = none) (hn : 1 ≤ n) (Bs n₀ : Nat) (sv : Value) (zs : List Int) (hreach : zs.length * 8 ≤ 140737488351232) (w : World) (hBs : Boxed w Bs 22 sv) (hn₀ : n₀ ≤ w.heap.size) (hI0 : Ints n₀ w sv zs) :
    SeqAt F n Try.prog 151 #[.pointer (some ⟨Bs, 0, none⟩)] (numAt zs) (fun b => b < n₀) 0 zs.length w :=
  numbered_atK F n h8 hro hn Bs _ sv zs hreach w hBs fun _ h => (hI0.kps h (fun _ hk => hk)).mono (Nat.le_trans hn₀ h.size)
/-- over a row that the function owns -/
theorem OwnI.kps {B : Nat} {A W : World} {v : Value} {zs : List Int} (h : OwnI B A v zs) {S : Nat → Prop} (hk : Kps S A W) (hS : ∀ k, v.ownBlock = some k → S k) : OwnI B W v zs :=
  h.of_block fun k e => hk.same k (hS k e) (h.blk k e).2
theorem numbered_own (F : Fence) (n : Nat) (h8 : F.fn 151) (hro : F.round = none) (hn : 1 ≤ n) (Bs B : Nat) (sv : Value) (zs : List Int) (hreach : zs.length * 8 ≤ 140737488351232) (w : World) (hBs : Boxed w Bs 22 sv) (ho : OwnI B w sv zs) :
    SeqAt F n Try.prog 151 #[.pointer (some ⟨Bs, 0, none⟩)] (numAt zs) (fun b => sv.ownBlock = some b) 0 zs.length w :=
  numbered_atK F n h8 hro hn Bs _ sv zs hreach w hBs fun _ h => (ho.kps h (fun _ hk => hk)).ints

end Go.Proofs.Ytbhpflhopajbfaa
