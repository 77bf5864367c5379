/-
  The map by arrays in which lasting states are kept: keys, what the map knows, look-ups and stores; a loop over an iterator, step by step.
  Conditions: numbers from 0 to 255.
-/
import Derived.Maps.OwnIn
import Derived.Maps.OwnSet
import Derived.DeepKeys4
import Derived.WideKeyPair
import Derived.Test.YtnhdfpmjebfjmaaRow
import Derived.Test.YtnhdfpmjebfjmaaStepJ
namespace Go.Proofs.Ytnhdfpmjebfjmaa
open Go.RowKit Go.Shelf Go.Maps
attribute [local go_sem] Oper.semAt_some

/-! ### the steps of a loop over an iterator -/
section
variable {F : Fence} {n : Nat} {P : Program}
/-- the loop is entered, outside every round -/
theorem range_enter {g : Operand} {ps : Array Tmp} {assign body : Code} {Q : Exit → Act → World → Prop} {a : Act} {w : World} (hro : F.round = none) (h1 : 1 ≤ n)
    {gf : Nat} {lb : Array Value} (hg : a.eval g = .func (.func gf) #[] lb) (hFg : F.fn gf) (eg : ∀ args w, (callFunc gf args).run P w = .ok (.enter gf args) w)
    (h : ∀ fn, F.fn fn → CallsIn F (n - 1) P gf (#[.func (.yield (w.heap.size + 1)) #[] #[]] ++ lb) ((w.alloc (.deferred (some []))).alloc (.loop (recOf fn a.tmps ps assign body w.heap.size .ready none)))
      (rangePost F n P (w.heap.size + 1) Q { a with defers := { target := .collected w.heap.size, args := #[] } :: a.defers })) :
    (Code.rangeFunc g ps assign body).wpIn F n P Q a w := by
  refine wpIn_rangeFunc ?_
  intro fn hfn
  rw [hro]
  refine ⟨w.heap.size + 1, [{ target := .collected w.heap.size, args := #[] }], (w.alloc (.deferred (some []))).alloc (.loop (recOf fn a.tmps ps assign body w.heap.size .ready none)), { target := .fn (.func gf) lb, args := #[.func (.yield (w.heap.size + 1)) #[] #[]] },
    (w.alloc (.deferred (some []))).alloc (.loop (recOf fn a.tmps ps assign body w.heap.size .ready none)), gf,
    #[.func (.yield (w.heap.size + 1)) #[] #[]] ++ lb, (w.alloc (.deferred (some []))).alloc (.loop (recOf fn a.tmps ps assign body w.heap.size .ready none)), run_enterLoop_outer _ _ _ _ _, ?_, ?_, ?_, fun _ => h1, ?_⟩
  · simp only [resolve, hg]
    simp [go_sem]
  · intro f' hf'; simp [Target.leads] at hf'; subst hf'; exact hFg
  · simp [invoke, go_sem, eg]
  · have h2 := h fn hfn
    simpa only [List.cons_append, List.nil_append] using h2
/-- how a round ends: the record was busy; what is owed with the record as the round leaves it -/
def roundR (l : Nat) (fn : FuncId) (tmps : Array Value) (ps : Array Tmp) (assign body : Code) (dd : Nat) (R : Ending → World → Prop) : Exit → Act → World → Prop
  | .normal, _, W => W.heap[l]? = some (.loop { recOf fn tmps ps assign body dd .ready none with state := .busy }) ∧ R (.returned (.bool true)) (W.putObj l (.loop (recOf fn tmps ps assign body dd .ready none)))
  | .ret, _, W => W.heap[l]? = some (.loop { recOf fn tmps ps assign body dd .ready none with state := .busy }) ∧ R (.returned (.bool false)) (W.putObj l (.loop (recOf fn tmps ps assign body dd .done (some .ret))))
  | .exit id, _, W => W.heap[l]? = some (.loop { recOf fn tmps ps assign body dd .ready none with state := .busy }) ∧ R (.returned (.bool false)) (W.putObj l (.loop (recOf fn tmps ps assign body dd .done (some (.exit id)))))
  | .goto t, _, W => W.heap[l]? = some (.loop { recOf fn tmps ps assign body dd .ready none with state := .busy }) ∧ R (.returned (.bool false)) (W.putObj l (.loop (recOf fn tmps ps assign body dd .done (some (.goto t)))))
  | .panic _, _, _ => False
  | .outgrown, _, _ => False
/-- one round -/
theorem yield_round {l : Nat} {fn : FuncId} {tmps : Array Value} {ps : Array Tmp} {assign body : Code} {dd : Nat} {args : Array Value} {W : World} {R : Ending → World → Prop} (hfn : F.fn fn)
    (hl : W.heap[l]? = some (.loop (recOf fn tmps ps assign body dd .ready none))) (hps : args.size = ps.size) (a₁ : Act)
    (hassign : ∀ K : Act → World → Prop, K a₁ W → assign.wpIn (F.inRound l) n P (Exit.then K (fun _ _ _ => False)) { tmps := (ps.zip args).foldl (fun t (p, v) => t.setIfInBounds p v) tmps, defers := [] } W)
    (hbody : body.wpIn (F.inRound l) n P (roundR l fn tmps ps assign body dd R) a₁ (W.putObj l (.loop { recOf fn tmps ps assign body dd .ready none with state := .busy }))) :
    YieldAt F n P l args W R := by
  have hy := run_yield (P := P) (args := args) hl hps
  refine ⟨fn, _, assign, body, hy, roundIn_of_wpIn hfn (hassign _ ⟨_, run_beginRound hl rfl, wpIn_mono hbody ?_⟩)⟩
  rintro e a3 W3 hp
  cases e with
  | normal => exact ⟨_, _, run_endRound (P := P) none hp.1, hp.2⟩
  | ret => exact ⟨_, _, run_endRound (P := P) (some .ret) hp.1, hp.2⟩
  | exit id => exact ⟨_, _, run_endRound (P := P) (some (.exit id)) hp.1, hp.2⟩
  | goto t => exact ⟨_, _, run_endRound (P := P) (some (.goto t)) hp.1, hp.2⟩
  | panic ch => exact hp.elim
  | outgrown => exact hp.elim
/-- behind the loop: no round left it -/
theorem range_done {l fn dd : Nat} {tmps : Array Value} {ps : Array Tmp} {assign body : Code} {Q : Exit → Act → World → Prop} {a : Act} {v : Value} {W : World}
    (hl : W.heap[l]? = some (.loop (recOf fn tmps ps assign body dd .ready none))) (h : Q .normal a (W.putObj l (.loop (recOf fn tmps ps assign body dd .exhausted none)))) : rangePost F n P l Q a (.returned v) W :=
  ⟨none, _, run_endLoop (P := P) hl (by simp [recOf]), h⟩
/-- .. a round left it -/
theorem range_jump {l fn dd : Nat} {tmps : Array Value} {ps : Array Tmp} {assign body c : Code} {Q : Exit → Act → World → Prop} {a : Act} {v : Value} {W : World}
    (hl : W.heap[l]? = some (.loop (recOf fn tmps ps assign body dd .done (some c)))) (h : c.wpIn F n P Q a (W.putObj l (.loop (recOf fn tmps ps assign body dd .exhausted (some c))))) : rangePost F n P l Q a (.returned v) W :=
  ⟨some c, _, run_endLoop (P := P) hl (by simp [recOf]), h⟩
end

end Go.Proofs.Ytnhdfpmjebfjmaa
