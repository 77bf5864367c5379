/-
  A loop over an iterator whose rounds may panic: the round, the statement, the iterator numbered.
  Conditions: a slice that is ranged over takes at most 140737488351232 bytes.
-/
import Derived.Test.YtahleajedgehlaaIter
namespace Go.Proofs.Ytahleajedgehlaa
open Go.RowKit Go.Shelf
attribute [local go_sem] Oper.semAt_some

section
variable {F : Fence} {n : Nat} {P : Program}
/-- what is asked at a round's end, where it may panic, too -/
def roundPostP (P : Program) (l : Nat) (R : Ending → World → Prop) : Exit → Act → World → Prop
  | .panic chain, a, w => a.defers = [] ∧ R (.panicked chain) w
  | e, a, w => roundPost P l R e a w

theorem roundIn_of_wpIn_p {l : Nat} {f : FuncId} {tmps : Array Value} {assign body : Code} {w : World} {R : Ending → World → Prop} (hF : F.fn f) (hfn : ∃ fn, P.funcs[f]? = some fn)
    (h : assign.wpIn (F.inRound l) n P (Exit.then (fun a₁ w₁ => ∃ w₂, (Instr.beginRound l).run P w₁ = .ok () w₂ ∧ body.wpIn (F.inRound l) n P (roundPostP P l R) a₁ w₂) (fun _ _ _ => False))
      { tmps := tmps, defers := [] } w) :
    RoundIn F n P l f tmps assign body w R := by
  refine ⟨hF, fun c cs hr => ?_⟩
  let b : Frame := { (default : Frame) with fn := f, kind := .normal, roundOf := some l }
  have hb0 : Frame.round l f tmps assign body .normal = b.atR { tmps := tmps, defers := [] } [.code assign, .beginRound, .code body] := by
    simp [Frame.round, Frame.atR, b]
  have hr' : (F.inRound l).room ((c :: cs).length + 1 + n) := hr
  have hF' : (F.inRound l).fn b.fn := hF
  obtain ⟨e, a₁, w₁, hq, harr⟩ := h b [.beginRound, .code body] (c :: cs) rfl hF' hr'
  rw [← hb0] at harr
  cases e with
  | normal =>
    obtain ⟨w₂, hbr, hbody⟩ := hq
    have s1 : StepsIn (Machine.fenced P (F.inRound l)) P (lone (b.atR a₁ [.beginRound, .code body]) (c :: cs) w₁) (lone (b.atR a₁ [.code body]) (c :: cs) w₂) :=
      .one (fenced_calm (fr := b.atR a₁ [.beginRound, .code body]) hF' hr' rfl) (stepR_beginRound rfl hbr)
    obtain ⟨e₂, a₂, w₃, hq₂, harr₂⟩ := hbody b [] (c :: cs) rfl hF' hr'
    cases e₂ with
    | normal =>
      obtain ⟨v, w₄, hend, hR⟩ := hq₂
      exact ⟨.returned v, w₄, hR, (StepsIn.trans harr s1).trans (StepsIn.trans harr₂ (.one (fenced_calm (fr := b.atR a₂ []) hF' hr' rfl) (stepR_round_end rfl rfl hend)))⟩
    | ret =>
      obtain ⟨v, w₄, hend, hR⟩ := hq₂
      obtain ⟨k₁, hs⟩ := harr₂.2 rfl
      exact ⟨.returned v, w₄, hR, (StepsIn.trans harr s1).trans (StepsIn.trans hs (.one (fenced_calm (fr := b.atR a₂ (.code .ret :: k₁)) hF' hr' rfl) (stepR_round_ret rfl rfl hend)))⟩
    | exit id =>
      obtain ⟨v, w₄, hend, hR⟩ := hq₂
      obtain ⟨k₁, hk, hs⟩ := harr₂.2 rfl rfl
      exact ⟨.returned v, w₄, hR, (StepsIn.trans harr s1).trans (StepsIn.trans hs (.one (fenced_calm (fr := b.atR a₂ (.code (.exit id) :: k₁)) hF' hr' rfl) (stepR_round_exit rfl rfl hk hend)))⟩
    | goto t =>
      obtain ⟨v, w₄, hend, hR⟩ := hq₂
      obtain ⟨k₁, hk, hs⟩ := harr₂.2 rfl rfl
      exact ⟨.returned v, w₄, hR, (StepsIn.trans harr s1).trans (StepsIn.trans hs (.one (fenced_calm (fr := b.atR a₂ (.code (.goto t) :: k₁)) hF' hr' rfl) (stepR_round_goto rfl rfl hk hend)))⟩
    | panic chain =>
      obtain ⟨hd, hR⟩ := hq₂
      obtain ⟨todo, hs⟩ := harr₂
      have hleave : ({ b.atR a₂ todo with mode := .panicking chain } : Frame).leaving P w₃ (.panicked chain) := ⟨rfl, hd, hfn⟩
      exact ⟨.panicked chain, w₃, hR, (StepsIn.trans harr s1).trans (StepsIn.trans hs (.one (fenced_leaving (F := F.inRound l) hF' hr' hleave) (step_leave_panicked hleave)))⟩
    | outgrown => exact hq₂.elim
  | exit id => exact hq.elim
  | goto t => exact hq.elim
  | ret => exact hq.elim
  | panic chain => exact hq.elim
  | outgrown => exact hq.elim
end

/-- .. of an iterator whose rounds may panic: it passes the panic on. -/
def SeqAtP (F : Fence) (n : Nat) (P : Program) (g : Nat) (lb : Array Value) (enc : Nat → Array Value) (Keep : Nat → Prop) (c N : Nat) (w : World) : Prop :=
  ∀ (l : Nat) (J Jx : Nat → World → Prop) (Jp : List PanicEntry → World → Prop) (W : World), Below w.heap.size w W → OwnFrom W.heap.size J → OwnFrom W.heap.size Jx →
    (∀ k W1, J k W1 → k < N → W.heap.size + c ≤ W1.heap.size → YieldAt F (n - 1) P l (enc k) W1 fun e W' =>
      (Kps (fun b => Keep b ∨ (W.heap.size ≤ b ∧ b < W.heap.size + c)) W1 W' ∧ ((e = .returned (.bool true) ∧ J (k + 1) W') ∨ (e = .returned (.bool false) ∧ Jx (k + 1) W'))) ∨ (∃ chain, e = .panicked chain ∧ Jp chain W')) →
    J 0 W → CallsIn F n P g (#[.func (.yield l) #[] #[]] ++ lb) W fun e W' => ((∃ v, e = .returned v) ∧ (J N W' ∨ ∃ k, k ≤ N ∧ Jx k W')) ∨ (∃ chain, e = .panicked chain ∧ Jp chain W')
/-- how a round's body may be left, where it may panic, too -/
def roundEndP (S : Nat → Prop) (I : Nat → World → Prop) (Ix : Code → Nat → World → Prop) (Ip : List PanicEntry → World → Prop) (k : Nat) (W : World) : Exit → Act → World → Prop
  | .panic chain, a, W' => a.defers = [] ∧ Kps S W W' ∧ Ip chain W'
  | e, a, W' => roundEnd S I Ix k W e a W'

/-- 'wpIn' at the frames of one function -/
def wpAt (F : Fence) (n : Nat) (P : Program) (f : FuncId) (c : Code) (Q : Exit → Act → World → Prop) (a : Act) (w : World) : Prop :=
  ∀ (b : Frame) (k : List Item) (cs : List Frame), b.roundOf = F.round → b.fn = f → F.fn b.fn → F.room (cs.length + 1 + n) →
    ∃ e a' w', Q e a' w' ∧ ArrivesIn (Machine.fenced P F) P (lone (b.atR a (.code c :: k)) cs w) b k cs e a' w'

section
variable {F : Fence} {n : Nat} {P : Program} {f : FuncId} {Q : Exit → Act → World → Prop} {a : Act} {w : World}
theorem wpAt_of_wpIn {c : Code} (h : c.wpIn F n P Q a w) : wpAt F n P f c Q a w := fun b k cs hro _ hb hr => h b k cs hro hb hr
theorem wpAt_seq {x y : Code} (h : wpAt F n P f x (Exit.then (wpAt F n P f y Q) Q) a w) : wpAt F n P f (Code.seq x y) Q a w := by
  intro b k cs hro hbf hb hr
  have h0 : (lone (b.atR a (.code (.seq x y) :: k)) cs w).fenced P F := fenced_calm hb hr rfl
  obtain ⟨e, a₁, w₁, hq, harr⟩ := h b (.code y :: k) cs hro hbf hb hr
  cases e with
  | normal =>
    obtain ⟨e₂, a₂, w₂, hq₂, harr₂⟩ := hq b k cs hro hbf hb hr
    exact ⟨e₂, a₂, w₂, hq₂, .of_steps (.head h0 stepR_seq harr) harr₂⟩
  | exit id => exact ⟨_, a₁, w₁, hq, .of_steps (.one h0 stepR_seq) (.pass (x := .code y) rfl (fun _ _ => .inl (by simp)) harr)⟩
  | goto l => exact ⟨_, a₁, w₁, hq, .of_steps (.one h0 stepR_seq) (.pass (x := .code y) rfl (fun _ _ => .inl (by simp)) harr)⟩
  | ret => exact ⟨_, a₁, w₁, hq, .of_steps (.one h0 stepR_seq) (.pass (x := .code y) rfl (fun _ _ => .inl (by simp)) harr)⟩
  | panic ch => exact ⟨_, a₁, w₁, hq, .of_steps (.one h0 stepR_seq) (.pass (x := .code y) rfl (fun _ _ => .inl (by simp)) harr)⟩
  | outgrown => exact ⟨_, a₁, w₁, hq, .of_steps (.one h0 stepR_seq) (.pass (x := .code y) rfl (fun _ _ => .inl (by simp)) harr)⟩
theorem callsIn_of_wpAt_marks {f : FuncId} {fn : Func} {c : Code} {args : Array Value} {w : World} {R : Ending → World → Prop}
    (hf : P.funcs[f]? = some fn) (hb : fn.body = some c) (hF : F.fn f)
    (h : wpAt F n P f c (bodyPostM F n P fn R) { tmps := args ++ Array.replicate (fn.ntmps - args.size) undef, defers := [] } w) (hro : F.round = none := by rfl) : CallsIn F n P f args w R := by
  refine ⟨hF, fun cs hr => ?_⟩
  let b : Frame := { (default : Frame) with fn := f, kind := .normal, roundOf := none }
  have henter : Frame.enter P f args .normal =
      b.atR { tmps := args ++ Array.replicate (fn.ntmps - args.size) undef, defers := [] } [.code c] := by
    simp [Frame.enter, Frame.atR, hf, hb, b]
  obtain ⟨e, a', w', hq, harr⟩ := h b [] cs hro.symm rfl hF hr
  rw [← henter] at harr
  cases e with
  | normal =>
    obtain ⟨e', w'', fr', hR, hs, hfn, hl⟩ := leaves_stepsInM a'.defers .returning w' { b.atR a' [] with mode := .returning } cs rfl rfl rfl hf rfl hF hr hq
    exact ⟨e', w'', fr', hR, ComesIn.of_steps (StepsIn.trans harr (.one (fenced_calm (fr := b.atR a' []) hF hr rfl) (stepR_end rfl))) hs, hfn, hl⟩
  | ret =>
    obtain ⟨todo, hs₀⟩ := harr.1 rfl
    obtain ⟨e', w'', fr', hR, hs, hfn, hl⟩ := leaves_stepsInM a'.defers .returning w' { b.atR a' todo with mode := .returning } cs rfl rfl rfl hf rfl hF hr hq
    exact ⟨e', w'', fr', hR, ComesIn.of_steps hs₀ hs, hfn, hl⟩
  | panic chain =>
    obtain ⟨todo, hs₀⟩ := harr
    obtain ⟨e', w'', fr', hR, hs, hfn, hl⟩ := leaves_stepsInM a'.defers (.panicking chain) w' { b.atR a' todo with mode := .panicking chain } cs rfl rfl rfl hf rfl hF hr hq
    exact ⟨e', w'', fr', hR, ComesIn.of_steps hs₀ hs, hfn, hl⟩
  | exit id => exact hq.elim
  | goto l => exact hq.elim
  | outgrown => exact ⟨.outgrown, w', b, hq, harr.resolve_left (by simp [b]), rfl, trivial⟩
end

section
variable {F : Fence} {n : Nat} {P : Program}
theorem wpAt_rangeFunc {fnn : FuncId} {g : Operand} {ps : Array Tmp} {assign body : Code} {Q : Exit → Act → World → Prop} {a : Act} {w : World}
    (h : F.fn fnn → ∃ (l : Nat) (mark : List Deferred) (w₁ : World) (d : Deferred) (w₁' : World) (f : FuncId) (args : Array Value) (w₂ : World),
      (Instr.enterLoop fnn a.tmps ps assign body F.round).run P w = .ok (l, mark) w₁ ∧
      (resolve a.eval (rangeCall g l) 0).run P w₁ = .ok d w₁' ∧
      (∀ f', Target.leads P w₁' d.target d.args = some f' → F.fn f') ∧
      (invoke d.target d.args).run P w₁' = .ok (.enter f args) w₂ ∧
      (F.depth.isSome = true → 1 ≤ n) ∧
      CallsIn F (n - 1) P f args w₂ (rangePost F n P l Q { a with defers := mark ++ a.defers })) :
    wpAt F n P fnn (Code.rangeFunc g ps assign body) Q a w := by
  intro b k cs hro hbf hb hr
  subst hbf
  obtain ⟨l, mark, w₁, d, w₁', f, args, w₂, he, hres, hlead, hinv, hn, hF, hcall⟩ := h hb
  rw [← hro] at he
  have h0 : (lone (b.atR a (.code (.rangeFunc g ps assign body) :: k)) cs w).fenced P F := by
    refine fenced_lone (.inl hb) (fun f' hf' => hlead f' ?_) (Fence.room_le hr (by omega))
    have hev := Frame.eval_atR b a (.code (.rangeFunc g ps assign body) :: k)
    simp only [Frame.atR] at hev
    simp only [Frame.about, Frame.atR, he, hev, hres] at hf'
    exact hf'
  have henter := stepR_rangeFunc (P := P) (b := b) (a := a) (k := k) (cs := cs) (w := w) he hres hinv
  have hroom : F.room ((b.atR { a with defers := mark ++ a.defers } (.inRangeFunc l :: k) :: cs).length + 1 + (n - 1)) := Fence.room_enter hr hn
  obtain ⟨e, w₃, fr, hR, hsteps, hfn, hleave⟩ := hcall (b.atR { a with defers := mark ++ a.defers } (.inRangeFunc l :: k) :: cs) hroom
  cases e with
  | outgrown =>
    obtain ⟨a₀, w₀, hq⟩ := hR
    exact ⟨.outgrown, a₀, w₀, hq, .inr (Outgrown.of_steps (.one henter) hsteps)⟩
  | returned v =>
    have hl : (lone fr (b.atR { a with defers := mark ++ a.defers } (.inRangeFunc l :: k) :: cs) w₃).fenced P F := fenced_leaving (hfn ▸ hF) hroom hleave
    obtain ⟨jump, w₄, hend, hj⟩ := hR
    have sback : StepsIn (Machine.fenced P F) P (lone (b.atR a (.code (.rangeFunc g ps assign body) :: k)) cs w) (lone (b.atR { a with defers := mark ++ a.defers } ((jump.map Item.code).toList ++ k)) cs w₄) := by
      refine .head h0 henter (StepsIn.trans hsteps (.head hl ?_ (.one (fenced_calm (fr := b.atR { a with defers := mark ++ a.defers } (.endRangeFunc l :: k)) hb hr rfl) (stepR_endRangeFunc hend))))
      rw [← finish_atR_inRangeFunc l v]; exact step_leave_returned hleave
    cases jump with
    | none => exact ⟨.normal, _, w₄, hj, sback⟩
    | some c =>
      obtain ⟨e', a'', w₅, hq, harr⟩ := hj b k cs hro hb hr
      exact ⟨e', a'', w₅, hq, .of_steps sback harr⟩
  | panicked chain =>
    have hl : (lone fr (b.atR { a with defers := mark ++ a.defers } (.inRangeFunc l :: k) :: cs) w₃).fenced P F := fenced_leaving (hfn ▸ hF) hroom hleave
    refine ⟨.panic chain, _, w₃, hR, .inRangeFunc l :: k, .head h0 henter (StepsIn.trans hsteps (.one hl ?_))⟩
    rw [← Frame.raise_atR]; exact step_leave_panicked hleave
end

section
variable {F : Fence} {n m : Nat} {P : Program}
theorem range_coreP {ps : Array Tmp} {assign body : Code} {Q : Exit → Act → World → Prop} {tmps : Array Value} {a' : Act} {w W1 : World} {l fn dd : Nat} {Ds : List Nat} (hfn : F.fn fn) (hfe : ∃ r, P.funcs[fn]? = some r)
    {gf : Nat} {lb : Array Value} {enc : Nat → Array Value} {Keep : Nat → Prop} {c N : Nat} (hseq : SeqAtP F m P gf lb enc Keep c N w) (hKeep : ∀ b, Keep b → b < w.heap.size) (hps : ∀ k, (enc k).size = ps.size)
    (hb1 : Below w.heap.size w W1) (hlw : w.heap.size ≤ l) (hlt : l < W1.heap.size) (hL1 : W1.heap[l]? = some (.loop (recOf fn tmps ps assign body dd .ready none)))
    (hD1 : ∀ D ∈ Ds, (w.heap.size ≤ D ∧ D < W1.heap.size ∧ D ≠ l) ∧ W1.heap[D]? = some (.deferred (some [])))
    (I : Nat → World → Prop) (Ix : Code → Nat → World → Prop) (hI : OwnFrom w.heap.size I) (Ip : List PanicEntry → World → Prop) (hIx : ∀ c, OwnFrom w.heap.size (Ix c)) (hI1 : I 0 W1) (Ax : Nat → Act → World → Prop) (hAx : ∀ k a', OwnFrom w.heap.size (fun (_ : Unit) W => Ax k a' W))
    (hassign : ∀ (l : Nat) (k : Nat) (W : World) (K : Act → World → Prop), I k W → k < N → W1.heap.size + c ≤ W.heap.size → (∀ a' W', Kps (Band Keep w.heap.size (W1.heap.size + c)) W W' → I k W' → Ax k a' W' → K a' W') →
      assign.wpIn (F.inRound l) (m - 1) P (Exit.then K (fun _ _ _ => False)) { tmps := (ps.zip (enc k)).foldl (fun t (p, v) => t.setIfInBounds p v) tmps, defers := [] } W)
    (hbody : ∀ (l : Nat) (k : Nat) (a' : Act) (W : World), w.heap.size ≤ l → (∃ r, W.heap[l]? = some (.loop r)) → I k W → Ax k a' W → k < N → W1.heap.size + c ≤ W.heap.size → body.wpIn (F.inRound l) (m - 1) P (roundEndP (Band Keep w.heap.size (W1.heap.size + c)) I Ix Ip k W) a' W)
    (hdone : ∀ (W : World), I N W → (∀ D ∈ Ds, W.heap[D]? = some (.deferred (some []))) → Q .normal a' W)
    (hpan : ∀ (chain : List PanicEntry) (W : World), Ip chain W → (∀ D ∈ Ds, W.heap[D]? = some (.deferred (some []))) → Q (.panic chain) a' W)
    (hstop : ∀ (c : Code) (k : Nat) (W : World), k ≤ N → Ix c k W → (∀ D ∈ Ds, W.heap[D]? = some (.deferred (some []))) → c.wpIn F n P Q a' W) :
    CallsIn F m P gf (#[.func (.yield l) #[] #[]] ++ lb) W1 (rangePost F n P l Q a') := by
  have hw1 := hb1.size
  have far : ∀ {A B : World} {row : Option Nat} {k : Nat} {o : Obj}, A.grownBy B row → (∀ r, row = some r → W1.heap.size ≤ r ∧ ∃ o : Obj, A.heap[r]? = some o ∧ o.isCells = false) → k < W1.heap.size → A.heap[k]? = some o → B.heap[k]? = some o :=
    fun hg hr hk ho => (hg.block _ (Array.getElem?_eq_some_iff.1 ho).1 (fun e => by have := (hr _ e.symm).1; omega)).trans ho
  have low : ∀ {A : World} {row : Option Nat}, (∀ r, row = some r → W1.heap.size ≤ r ∧ ∃ o : Obj, A.heap[r]? = some o ∧ o.isCells = false) → (∀ r, row = some r → w.heap.size ≤ r ∧ ∃ o : Obj, A.heap[r]? = some o ∧ o.isCells = false) :=
    fun hr r e => ⟨by have := (hr r e).1; omega, (hr r e).2⟩
  have hlK : ¬ (Keep l ∨ (W1.heap.size ≤ l ∧ l < W1.heap.size + c)) := fun h => by
    rcases h with h | h
    · have := hKeep l h; omega
    · omega
  have inB : ∀ {k : Nat}, w.heap.size ≤ k → k < W1.heap.size → Band Keep w.heap.size (W1.heap.size + c) k := fun h1 h2 => .inr ⟨h1, by omega⟩
  have sub : ∀ b, (Keep b ∨ (W1.heap.size ≤ b ∧ b < W1.heap.size + c)) → Band Keep w.heap.size (W1.heap.size + c) b := fun b h => h.imp id (fun h => ⟨by omega, h.2⟩)
  refine (hseq l
    (fun k W => I k W ∧ W.heap[l]? = some (.loop (recOf fn tmps ps assign body dd .ready none)) ∧ ∀ D ∈ Ds, W.heap[D]? = some (.deferred (some [])))
    (fun k W => ∃ c, Ix c k W ∧ W.heap[l]? = some (.loop (recOf fn tmps ps assign body dd .done (some c))) ∧ ∀ D ∈ Ds, W.heap[D]? = some (.deferred (some [])))
    (fun chain W => Ip chain W ∧ ∀ D ∈ Ds, W.heap[D]? = some (.deferred (some [])))
    W1 hb1
    (fun s A B row hs hg hr => ⟨hI s A B row hs.1 hg (low hr), far hg hr hlt hs.2.1, fun D hD => far hg hr (hD1 D hD).1.2.1 (hs.2.2 D hD)⟩)
    (fun s A B row hs hg hr => by
      obtain ⟨c, hc, hl, hk⟩ := hs
      exact ⟨c, hIx c s A B row hc hg (low hr), far hg hr hlt hl, fun D hD => far hg hr (hD1 D hD).1.2.1 (hk D hD)⟩)
    ?_ ⟨hI1, hL1, fun D hD => (hD1 D hD).2⟩).mono ?_
  · rintro k W ⟨hi, hl, hk⟩ hkN hsz
    have hy := run_yield (P := P) (args := enc k) hl (hps k)
    refine ⟨fn, _, assign, body, hy, roundIn_of_wpIn_p hfn hfe (hassign l k W _ hi hkN hsz ?_)⟩
    intro a2 Wa hkf hia hax
    have hla := hkf.some (inB hlw hlt) hl
    have hlta : l < Wa.heap.size := (Array.getElem?_eq_some_iff.1 hla).1
    refine ⟨_, run_beginRound hla rfl, ?_⟩
    have hl2 : (Wa.putObj l (.loop { recOf fn tmps ps assign body dd .ready none with state := .busy })).heap[l]? = some (.loop { recOf fn tmps ps assign body dd .ready none with state := .busy }) := World.putObj_heap_same hlta
    have hka : ∀ D ∈ Ds, Wa.heap[D]? = some (.deferred (some [])) := fun D hD => hkf.some (inB (hD1 D hD).1.1 (hD1 D hD).1.2.1) (hk D hD)
    have hs2 : W1.heap.size + c ≤ (Wa.putObj l (.loop { recOf fn tmps ps assign body dd .ready none with state := .busy })).heap.size := by have := hkf.size; simp [World.putObj]; omega
    refine wpIn_mono (hbody l k a2 _ hlw ⟨_, hl2⟩ (hI.putObj _ hia hlw hla rfl) ((hAx k a2).putObj (s := ()) _ hax hlw hla rfl) hkN hs2) ?_
    have fin : ∀ (jump : Option Code) (W3 : World), Kps (Band Keep w.heap.size (W1.heap.size + c)) (Wa.putObj l (.loop { recOf fn tmps ps assign body dd .ready none with state := .busy })) W3 →
        (Instr.endRound l jump).run P W3 = .ok (.bool jump.isNone) (W3.putObj l (.loop (recOf fn tmps ps assign body dd (if jump.isNone then .ready else .done) jump))) ∧
        W3.heap[l]? = some (.loop { recOf fn tmps ps assign body dd .ready none with state := .busy }) ∧
        (W3.putObj l (.loop (recOf fn tmps ps assign body dd (if jump.isNone then .ready else .done) jump))).heap[l]? = some (.loop (recOf fn tmps ps assign body dd (if jump.isNone then .ready else .done) jump)) ∧
        (∀ D ∈ Ds, (W3.putObj l (.loop (recOf fn tmps ps assign body dd (if jump.isNone then .ready else .done) jump))).heap[D]? = some (.deferred (some []))) ∧
        Kps (fun b => Keep b ∨ (W1.heap.size ≤ b ∧ b < W1.heap.size + c)) W (W3.putObj l (.loop (recOf fn tmps ps assign body dd (if jump.isNone then .ready else .done) jump))) := fun jump W3 hk3 => by
      have hl3 := hk3.some (inB hlw hlt) hl2
      refine ⟨run_endRound (P := P) jump hl3, hl3, World.putObj_heap_same (Array.getElem?_eq_some_iff.1 hl3).1, fun D hD => ?_, ?_⟩
      · have h1 := (hD1 D hD).1
        exact (World.putObj_heap_other (by omega)).trans (hk3.some (inB h1.1 h1.2.1) ((World.putObj_heap_other (by omega)).trans (hka D hD)))
      · exact (hkf.mono sub).trans ((Kps.put _ _ _ hlK).trans ((hk3.mono sub).trans (Kps.put _ _ _ hlK)))
    rintro e a3 W3 hp
    cases e with
    | normal =>
      obtain ⟨hk3, hi3⟩ := hp
      obtain ⟨hr, hl3, hl4, hk4, hkk⟩ := fin none W3 hk3
      exact ⟨_, _, hr, .inl ⟨hkk, .inl ⟨rfl, ⟨hI.putObj _ hi3 hlw hl3 rfl, hl4, hk4⟩⟩⟩⟩
    | ret =>
      obtain ⟨hk3, hi3⟩ := hp
      obtain ⟨hr, hl3, hl4, hk4, hkk⟩ := fin (some .ret) W3 hk3
      exact ⟨_, _, hr, .inl ⟨hkk, .inr ⟨rfl, ⟨.ret, (hIx _).putObj _ hi3 hlw hl3 rfl, hl4, hk4⟩⟩⟩⟩
    | exit id =>
      obtain ⟨hk3, hi3⟩ := hp
      obtain ⟨hr, hl3, hl4, hk4, hkk⟩ := fin (some (.exit id)) W3 hk3
      exact ⟨_, _, hr, .inl ⟨hkk, .inr ⟨rfl, ⟨.exit id, (hIx _).putObj _ hi3 hlw hl3 rfl, hl4, hk4⟩⟩⟩⟩
    | goto t =>
      obtain ⟨hk3, hi3⟩ := hp
      obtain ⟨hr, hl3, hl4, hk4, hkk⟩ := fin (some (.goto t)) W3 hk3
      exact ⟨_, _, hr, .inl ⟨hkk, .inr ⟨rfl, ⟨.goto t, (hIx _).putObj _ hi3 hlw hl3 rfl, hl4, hk4⟩⟩⟩⟩
    | panic ch =>
      obtain ⟨hd3, hk3, hi3⟩ := hp
      refine ⟨hd3, .inr ⟨ch, rfl, hi3, fun D hD => ?_⟩⟩
      have h1 := (hD1 D hD).1
      exact hk3.some (inB h1.1 h1.2.1) ((World.putObj_heap_other (by omega)).trans (hka D hD))
    | outgrown => exact hp.elim
  · rintro e W2 (⟨⟨v, rfl⟩, (⟨hi, hl, hk⟩ | ⟨k, hkN, c, hi, hl, hk⟩)⟩ | ⟨chain, rfl, hi, hk⟩)
    · exact ⟨none, _, run_endLoop (P := P) hl (by simp [recOf]), hdone _ (hI.putObj _ hi hlw hl rfl) (fun D hD => (World.putObj_heap_other (by have := (hD1 D hD).1; omega)).trans (hk D hD))⟩
    · exact ⟨some c, _, run_endLoop (P := P) hl (by simp [recOf]), hstop c k _ hkN ((hIx c).putObj _ hi hlw hl rfl) (fun D hD => (World.putObj_heap_other (by have := (hD1 D hD).1; omega)).trans (hk D hD))⟩
    · exact hpan chain W2 hi hk

theorem range_outP {g : Operand} {ps : Array Tmp} {assign body : Code} {Q : Exit → Act → World → Prop} {a : Act} {w : World} (hro : F.round = none) (h1 : 1 ≤ n)
    {gf : Nat} {lb : Array Value} (hg : a.eval g = .func (.func gf) #[] lb) (hFg : F.fn gf) (fnn : FuncId) (hfe : ∃ r, P.funcs[fnn]? = some r) (eg : ∀ args w, (callFunc gf args).run P w = .ok (.enter gf args) w)
    {enc : Nat → Array Value} {Keep : Nat → Prop} {c N : Nat} (hseq : SeqAtP F (n - 1) P gf lb enc Keep c N w) (hKeep : ∀ b, Keep b → b < w.heap.size) (hps : ∀ k, (enc k).size = ps.size)
    (I : Nat → World → Prop) (Ix : Code → Nat → World → Prop) (hI : OwnFrom w.heap.size I) (Ip : List PanicEntry → World → Prop) (hIx : ∀ c, OwnFrom w.heap.size (Ix c)) (h0 : I 0 w) (Ax : Nat → Act → World → Prop) (hAx : ∀ k a', OwnFrom w.heap.size (fun (_ : Unit) W => Ax k a' W))
    (hassign : ∀ (l : Nat) (k : Nat) (W : World) (K : Act → World → Prop), I k W → k < N → w.heap.size + 2 + c ≤ W.heap.size → (∀ a' W', Kps (Band Keep w.heap.size (w.heap.size + 2 + c)) W W' → I k W' → Ax k a' W' → K a' W') →
      assign.wpIn (F.inRound l) (n - 1 - 1) P (Exit.then K (fun _ _ _ => False)) { tmps := (ps.zip (enc k)).foldl (fun t (p, v) => t.setIfInBounds p v) a.tmps, defers := [] } W)
    (hbody : ∀ (l : Nat) (k : Nat) (a' : Act) (W : World), w.heap.size ≤ l → (∃ r, W.heap[l]? = some (.loop r)) → I k W → Ax k a' W → k < N → w.heap.size + 2 + c ≤ W.heap.size → body.wpIn (F.inRound l) (n - 1 - 1) P (roundEndP (Band Keep w.heap.size (w.heap.size + 2 + c)) I Ix Ip k W) a' W)
    (hdone : ∀ (D : Nat) (W : World), w.heap.size ≤ D ∧ D < w.heap.size + 2 → I N W → W.heap[D]? = some (.deferred (some [])) → Q .normal { a with defers := { target := .collected D, args := #[] } :: a.defers } W)
    (hpan : ∀ (D : Nat) (chain : List PanicEntry) (W : World), w.heap.size ≤ D ∧ D < w.heap.size + 2 → Ip chain W → W.heap[D]? = some (.deferred (some [])) → Q (.panic chain) { a with defers := { target := .collected D, args := #[] } :: a.defers } W)
    (hstop : ∀ (D : Nat) (c : Code) (k : Nat) (W : World), w.heap.size ≤ D ∧ D < w.heap.size + 2 → k ≤ N → Ix c k W → W.heap[D]? = some (.deferred (some [])) → c.wpIn F n P Q { a with defers := { target := .collected D, args := #[] } :: a.defers } W) :
    wpAt F n P fnn (Code.rangeFunc g ps assign body) Q a w := by
  refine wpAt_rangeFunc ?_
  intro hfn
  rw [hro]
  refine ⟨w.heap.size + 1, [{ target := .collected w.heap.size, args := #[] }], (w.alloc (.deferred (some []))).alloc (.loop (recOf fnn a.tmps ps assign body w.heap.size .ready none)), { target := .fn (.func gf) lb, args := #[.func (.yield (w.heap.size + 1)) #[] #[]] },
    (w.alloc (.deferred (some []))).alloc (.loop (recOf fnn a.tmps ps assign body w.heap.size .ready none)), gf,
    #[.func (.yield (w.heap.size + 1)) #[] #[]] ++ lb, (w.alloc (.deferred (some []))).alloc (.loop (recOf fnn a.tmps ps assign body w.heap.size .ready none)), run_enterLoop_outer _ _ _ _ _, ?_, ?_, ?_, fun _ => h1, ?_⟩
  · simp only [resolve, hg]
    simp [go_sem]
  · intro f' hf'; simp [Target.leads] at hf'; subst hf'; exact hFg
  · simp [invoke, go_sem, eg]
  · refine range_coreP hfn hfe hseq hKeep hps (dd := w.heap.size) (Ds := [w.heap.size]) ((((Below.refl _ w).alloc (Nat.le_refl _) _).alloc (by simp) _)) (by omega) (by simp) ?_ ?_ I Ix hI Ip hIx (hI.alloc _ (hI.alloc _ h0)) Ax hAx (by simpa using hassign) (by simpa using hbody)
      (fun W hi hk => hdone _ W ⟨Nat.le_refl _, by omega⟩ hi (hk _ (by simp))) (fun chain W hi hk => hpan _ chain W ⟨Nat.le_refl _, by omega⟩ hi (hk _ (by simp))) (fun c k W hkN hi hk => hstop _ c k W ⟨Nat.le_refl _, by omega⟩ hkN hi (hk _ (by simp)))
    · have := World.alloc_heap_new (w.alloc (.deferred (some []))) (.loop (recOf fnn a.tmps ps assign body w.heap.size .ready none)); rwa [World.size_alloc] at this
    · intro D hD
      obtain rfl : D = w.heap.size := by simpa using hD
      refine ⟨⟨by omega, by simp; omega, by omega⟩, ?_⟩
      exact (Below.heap_alloc _ _ _ (by simp)).trans (World.alloc_heap_new w _)
end

set_option maxRecDepth 100000 in
set_option maxHeartbeats 2000000 in
theorem numbered_atP (F : Fence) (n : Nat) (h8 : F.fn 40) (hro : F.round = none) (hn : 1 ≤ n) (Bs : Nat) (Keep : Nat → Prop) (sv : Value) (zs : List Int) (hreach : zs.length * 8 ≤ 140737488351232) (w : World) (hBs : Boxed w Bs 22 sv) (hI0 : ∀ W, Kps Keep w W → Ints W.heap.size W sv zs) :
    SeqAtP F n Try.prog 40 #[.pointer (some ⟨Bs, 0, none⟩)] (numAt zs) Keep 0 zs.length w := fun l J Jx Jp W hW hJ hJx hY h0 => by
  have hI : ∀ W', Kps Keep W W' → Ints W'.heap.size W' sv zs := fun W' h => hI0 W' ((Kps.below hW).trans h)
  have hc0 : W.cell? ⟨Bs, 0, none⟩ = some sv := (hW.cell (p := ⟨Bs, 0, none⟩) hBs.lt).trans hBs.cell
  clear hI0 hBs
  obtain ⟨a, cap, rfl⟩ := (hI W (Kps.refl _ _)).shape
  refine callsIn_of_wp Try.func40 rfl h8 ?_ hro
  simp only [Try.ntmps40, List.size_toArray, List.length_cons, List.length_nil, Nat.reduceAdd, Nat.reduceSub, Array.replicate_succ, Array.replicate_zero, List.push_toArray, List.append_toArray, List.nil_append, List.cons_append]
  gi_wp2
  gi_loopw [7] (fun i wr => ∃ k : Nat, k ≤ zs.length ∧ i = .int .i64 k ∧ J k wr ∧ Kps Keep W wr)
    (fun i _ => zs.length - (intOf i).toNat)
  case atStart => exact ⟨0, Nat.zero_le _, rfl, h0, Kps.refl _ _⟩
  case round =>
    obtain ⟨k, hk, rfl, hJs, hnx⟩ := hrel
    by_cases hlt : k < zs.length
    · obtain ⟨b, off, rfl, hb, hc⟩ := (hI wr hnx).at_ hlt
      have hcx : wr.cell? ⟨b, off + k, none⟩ = some (.int .i64 (nth zs k)) := hc k hlt
      obtain ⟨fn, tmps, assign, body, hy, hR⟩ := hY k wr hJs hlt (by have := hnx.size; omega)
      dsimp only [numAt] at hy
      clear hc hI
      gi_wp2
      refine hR.mono ?_
      rintro e W3 (⟨hk3, (⟨rfl, hJ3⟩ | ⟨rfl, hJx3⟩)⟩ | ⟨chain, rfl, hJp3⟩)
      · gi_wp2
        go_roundw
        case rel => exact ⟨k + 1, by omega, by simp, hJ3, hnx.trans (hk3.mono fun _ h => .inl h)⟩
        case measure => simp [intOf]; omega
      · gi_wp2
        refine bodyPost_ret (results_none rfl _ _ _) rfl ?_
        exact .inl ⟨⟨_, rfl⟩, .inr ⟨k + 1, by omega, hJx3⟩⟩
      · gi_wp2
        exact ⟨rfl, .inr ⟨_, rfl, hJp3⟩⟩
    · obtain rfl : k = zs.length := by omega
      gi_wp2
      go_end0
      exact .inl ⟨⟨_, rfl⟩, .inl hJs⟩

end Go.Proofs.Ytahleajedgehlaa
