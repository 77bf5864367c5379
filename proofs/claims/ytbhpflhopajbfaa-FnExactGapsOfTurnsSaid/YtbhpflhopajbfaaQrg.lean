/-
  A loop over an iterator that has a queue: the queue's box b, and a row that changes from round to round. What the iterator owes (SeqQ), and the law for its loop.
  Conditions: none.
-/
import Derived.Test.YtbhpflhopajbfaaQgs
namespace Go.Proofs.Ytbhpflhopajbfaa
open Go.RowKit Go.Shelf
attribute [local go_sem] Oper.semAt_some

/-- what the caller's rounds must keep: Keep, the queue's box, the queue's row -/
def KeepQ (Keep : Nat → Prop) (b : Nat) (v : Value) (j : Nat) : Prop := Keep j ∨ j = b ∨ v.ownBlock = some j
/-- THE CALL OF gf WITH A yield RUNS ITS ROUNDS AT enc 0, enc 1, .. up to N, and moves the queue ahead of each; at its end R holds of the queue. -/
def SeqQ (F : Fence) (n : Nat) (P : Program) (gf : Nat) (lb : Array Value) (enc : Nat → Array Value) (Keep : Nat → Prop) (B b N : Nat) (R : List Pend → Prop) (w : World) : Prop :=
  ∀ (l : Nat) (J Jx : Nat → World → Prop) (W : World), Below w.heap.size w W →
    (∀ k A X v v' qs qs', J k A → Que B b A v qs → Que B b X v' qs' → QMv b v v' A X → J k X) →
    (∀ k W1 v qs, J k W1 → Que B b W1 v qs → k < N → W.heap.size ≤ W1.heap.size → YieldAt F (n - 1) P l (enc k) W1 fun e W' =>
      Kps (KeepQ Keep b v) W1 W' ∧ ((e = .returned (.bool true) ∧ J (k + 1) W') ∨ (e = .returned (.bool false) ∧ Jx (k + 1) W'))) →
    J 0 W → CallsIn F n P gf (#[.func (.yield l) #[] #[]] ++ lb) W fun e W' => (∃ v, e = .returned v) ∧ ((J N W' ∧ ∃ v qs, Que B b W' v qs ∧ R qs) ∨ ∃ k, k ≤ N ∧ Jx k W')

theorem que_own {β : Type} {B b : Nat} {R : List Pend → Prop} {C : Nat} : OwnFrom C (fun (_ : β) W => ∃ v qs, Que B b W v qs ∧ R qs) := fun _ _ _ _ ⟨v, qs, h, hR⟩ hg hr => ⟨v, qs, h.records hg fun r e => (hr r e).2, hR⟩
theorem Que.sameV {B b : Nat} {W : World} {v v' : Value} {qs qs' : List Pend} (h : Que B b W v qs) (h' : Que B b W v' qs') : v = v' := by
  have h1 := h.box.c0
  rw [h'.box.c0] at h1
  injection h1 with h1
  exact h1.symm
/-- a record is not the queue's row -/
theorem Que.noRec {B b k : Nat} {W : World} {v : Value} {qs : List Pend} {o : Obj} (h : Que B b W v qs) (ho : W.heap[k]? = some o) (hc : o.isCells = false) : k ≠ b ∧ v.ownBlock ≠ some k := by
  refine ⟨fun e => ?_, fun e => ?_⟩
  · subst e
    rw [show W.heap[k]? = _ from h.box] at ho
    cases ho; cases hc
  · obtain ⟨o2, ho2, hc2⟩ := h.own.isCells e
    rw [ho] at ho2
    cases ho2
    rw [hc] at hc2
    cases hc2
/-- a variable of another type is not the queue's row -/
theorem Que.noBox {B b k : Nat} {W : World} {v : Value} {qs : List Pend} {cs : Array Value} {T : TypeId} (h : Que B b W v qs) (ho : W.heap[k]? = some (.cells cs T (0, 0))) (hT : T ≠ 177) : v.ownBlock ≠ some k := by
  intro e
  obtain ⟨_, h2⟩ := h.own
  rcases h2 with ⟨e2, _⟩ | ⟨g', cap', cur, e2, _, hh, _⟩
  · subst e2; cases e
  · subst e2
    have : g' = k := by simpa [Value.ownBlock] using e
    subst this
    rw [hh] at ho
    cases ho
    exact hT rfl
/-- .. and moves of the queue leave it -/
theorem Que.boxKept {B b k : Nat} {A X : World} {v v' : Value} {qs : List Pend} {cs : Array Value} {T : TypeId} (h : Que B b A v qs) (hm : QMv b v v' A X) (ho : A.heap[k]? = some (.cells cs T (0, 0))) (hb : k ≠ b) (hT : T ≠ 177) : X.heap[k]? = some (.cells cs T (0, 0)) :=
  (hm.same k (Array.getElem?_eq_some_iff.1 ho).1 hb (h.noBox ho hT)).trans ho
theorem Que.recKept {B b k : Nat} {A X : World} {v v' : Value} {qs : List Pend} {o : Obj} (h : Que B b A v qs) (hm : QMv b v v' A X) (ho : A.heap[k]? = some o) (hc : o.isCells = false) : X.heap[k]? = some o :=
  (hm.same k (Array.getElem?_eq_some_iff.1 ho).1 (h.noRec ho hc).1 (h.noRec ho hc).2).trans ho

section
variable {F : Fence} {n m : Nat} {P : Program}
theorem range_outQ {g : Operand} {ps : Array Tmp} {assign body : Code} {Q : Exit → Act → World → Prop} {a : Act} {w : World} (hro : F.round = none) (h1 : 1 ≤ n)
    {gf : Nat} {lb : Array Value} (hg : a.eval g = .func (.func gf) #[] lb) (hFg : F.fn gf) (eg : ∀ args w, (callFunc gf args).run P w = .ok (.enter gf args) w)
    {enc : Nat → Array Value} {Keep : Nat → Prop} {B b N : Nat} {R : List Pend → Prop} (hseq : SeqQ F (n - 1) P gf lb enc Keep B b N R w) (hKeep : ∀ j, Keep j → j < w.heap.size) (hps : ∀ k, (enc k).size = ps.size)
    (I : Nat → World → Prop) (hI : OwnFrom w.heap.size I)
    (hImv : ∀ k A X v v' qs qs', I k A → Que B b A v qs → Que B b X v' qs' → QMv b v v' A X → I k X) (h0 : I 0 w) (a₁ : Nat → Act)
    (hassign : ∀ (l : Nat) (k : Nat) (W : World) (K : Act → World → Prop), k < N → K (a₁ k) W →
      assign.wpIn (F.inRound l) (n - 1 - 1) P (Exit.then K (fun _ _ _ => False)) { tmps := (ps.zip (enc k)).foldl (fun t (p, v) => t.setIfInBounds p v) a.tmps, defers := [] } W)
    (hbody : ∀ (l : Nat) (k : Nat) (W : World) (v : Value) (qs : List Pend), I k W → Que B b W v qs → k < N → w.heap.size + 2 ≤ W.heap.size → body.wpIn (F.inRound l) (n - 1 - 1) P (roundEnd (fun j => Band Keep w.heap.size (w.heap.size + 2) j ∨ j = b ∨ v.ownBlock = some j) I (fun _ _ _ => False) k W) (a₁ k) W)
    (hdone : ∀ (D : Nat) (W : World) (v : Value) (qs : List Pend), w.heap.size ≤ D ∧ D < w.heap.size + 2 → I N W → Que B b W v qs → R qs → W.heap[D]? = some (.deferred (some [])) → Q .normal { a with defers := { target := .collected D, args := #[] } :: a.defers } W) :
    (Code.rangeFunc g ps assign body).wpIn F n P Q a w := by
  refine wpIn_rangeFunc ?_
  intro fn hfn
  rw [hro]
  refine ⟨w.heap.size + 1, [{ target := .collected w.heap.size, args := #[] }], (w.alloc (.deferred (some []))).alloc (.loop (recOf fn a.tmps ps assign body w.heap.size .ready none)), { target := .fn (.func gf) lb, args := #[.func (.yield (w.heap.size + 1)) #[] #[]] },
    (w.alloc (.deferred (some []))).alloc (.loop (recOf fn a.tmps ps assign body w.heap.size .ready none)), gf,
    #[.func (.yield (w.heap.size + 1)) #[] #[]] ++ lb, (w.alloc (.deferred (some []))).alloc (.loop (recOf fn a.tmps ps assign body w.heap.size .ready none)), run_enterLoop_outer _ _ _ _ _, ?_, ?_, ?_, fun _ => h1, ?_⟩
  · simp only [resolve, hg]
    simp [go_sem]
  · intro f' hf'; simp [Target.leads] at hf'; subst hf'; exact hFg
  · simp [invoke, go_sem, eg]
  obtain ⟨W1, hW1⟩ : ∃ W1, (w.alloc (.deferred (some []))).alloc (.loop (recOf fn a.tmps ps assign body w.heap.size .ready none)) = W1 := ⟨_, rfl⟩
  have hb1 : Below w.heap.size w W1 := by rw [← hW1]; exact ((Below.refl _ w).alloc (Nat.le_refl _) _).alloc (by simp) _
  have hsz : W1.heap.size = w.heap.size + 2 := by rw [← hW1]; simp
  have hL1 : W1.heap[w.heap.size + 1]? = some (.loop (recOf fn a.tmps ps assign body w.heap.size .ready none)) := by
    rw [← hW1]
    have := World.alloc_heap_new (w.alloc (.deferred (some []))) (.loop (recOf fn a.tmps ps assign body w.heap.size .ready none)); rwa [World.size_alloc] at this
  have hD1 : W1.heap[w.heap.size]? = some (.deferred (some [])) := by
    rw [← hW1]
    exact (Below.heap_alloc _ _ _ (by simp)).trans (World.alloc_heap_new w _)
  have hI1 : I 0 W1 := by rw [← hW1]; exact hI.alloc _ (hI.alloc _ h0)
  rw [hW1]
  clear hW1
  obtain ⟨l, hl⟩ : ∃ l, w.heap.size + 1 = l := ⟨_, rfl⟩
  obtain ⟨D, hD⟩ : ∃ D, w.heap.size = D := ⟨_, rfl⟩
  rw [hl] at hL1 ⊢
  rw [hD] at hD1 hL1
  have hlD : D ≠ l := by omega
  refine (hseq l
    (fun k W => I k W ∧ W.heap[l]? = some (.loop (recOf fn a.tmps ps assign body D .ready none)) ∧ W.heap[D]? = some (.deferred (some [])))
    (fun _ _ => False) W1 hb1 ?_ ?_ ⟨hI1, hL1, hD1⟩).mono ?_
  · rintro k A X v v' qs qs' ⟨hi, h2, h3⟩ hqA hqX hm
    exact ⟨hImv k A X v v' qs qs' hi hqA hqX hm, hqA.recKept hm h2 rfl, hqA.recKept hm h3 rfl⟩
  · rintro k W v qs ⟨hi, hlr, hdr⟩ hqW hkN hsW
    have hy := run_yield (P := P) (args := enc k) hlr (hps k)
    refine ⟨fn, _, assign, body, hy, roundIn_of_wpIn hfn (hassign l k W _ hkN ?_)⟩
    have hlt : l < W.heap.size := (Array.getElem?_eq_some_iff.1 hlr).1
    refine ⟨_, run_beginRound hlr rfl, ?_⟩
    have hl2 : (W.putObj l (.loop { recOf fn a.tmps ps assign body D .ready none with state := .busy })).heap[l]? = some (.loop { recOf fn a.tmps ps assign body D .ready none with state := .busy }) := World.putObj_heap_same hlt
    have hlw : w.heap.size ≤ l := by omega
    have hi2 := hI.putObj (.loop { recOf fn a.tmps ps assign body D .ready none with state := .busy }) hi hlw hlr rfl
    have hq2 : Que B b (W.putObj l (.loop { recOf fn a.tmps ps assign body D .ready none with state := .busy })) v qs := by
      obtain ⟨hne1, hne2⟩ := hqW.noRec hlr rfl
      exact ⟨(World.putObj_heap_other (Ne.symm hne1)).trans hqW.box, hqW.own.of_block fun j hj => World.putObj_heap_other (fun e => hne2 (e ▸ hj))⟩
    refine wpIn_mono (hbody l k _ v qs hi2 hq2 hkN (by show _ ≤ (W.putObj _ _).heap.size; simp [World.putObj]; omega)) ?_
    rintro e a3 W3 hp
    cases e with
    | normal =>
      obtain ⟨hk3, hi3⟩ := hp
      have hl3 := hk3.some (k := l) (.inl (.inr (by omega))) hl2
      have hd3 := hk3.some (k := D) (.inl (.inr (by omega))) ((World.putObj_heap_other hlD).trans hdr)
      refine ⟨_, _, run_endRound (P := P) none hl3, ?_, .inl ⟨rfl, hI.putObj _ hi3 hlw hl3 rfl, World.putObj_heap_same (Array.getElem?_eq_some_iff.1 hl3).1, (World.putObj_heap_other hlD).trans hd3⟩⟩
      have hnl : ¬ KeepQ Keep b v l := fun h => by
        obtain ⟨hne1, hne2⟩ := hqW.noRec hlr rfl
        rcases h with h | h | h
        · have := hKeep l h; omega
        · exact hne1 h
        · exact hne2 h
      have sub : ∀ j, KeepQ Keep b v j → (Band Keep w.heap.size (w.heap.size + 2) j ∨ j = b ∨ v.ownBlock = some j) := fun j h => by
        rcases h with h | h
        · exact .inl (.inl h)
        · exact .inr h
      exact (Kps.put _ _ _ hnl).trans ((hk3.mono sub).trans (Kps.put _ _ _ hnl))
    | ret => exact hp.2.elim
    | exit id => exact hp.2.elim
    | goto t => exact hp.2.elim
    | panic ch => exact hp.elim
    | outgrown => exact hp.elim
  · rintro e W2 ⟨⟨v, rfl⟩, (⟨⟨hi, hlr, hdr⟩, vq, qs, hq, hR⟩ | ⟨k, _, hx⟩)⟩
    · have hlw : w.heap.size ≤ l := by omega
      obtain ⟨hne1, hne2⟩ := hq.noRec hlr rfl
      subst hD
      refine ⟨none, _, run_endLoop (P := P) hlr (by simp [recOf]), ?_⟩
      exact hdone _ _ vq qs (by omega) (hI.putObj _ hi hlw hlr rfl) ⟨(World.putObj_heap_other (Ne.symm hne1)).trans hq.box, hq.own.of_block fun j hj => World.putObj_heap_other (fun e => hne2 (e ▸ hj))⟩ hR ((World.putObj_heap_other hlD).trans hdr)
    · exact hx.elim
end

end Go.Proofs.Ytbhpflhopajbfaa
