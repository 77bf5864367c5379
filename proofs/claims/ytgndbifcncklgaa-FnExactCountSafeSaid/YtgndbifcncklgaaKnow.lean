/-
  The map by arrays in which lasting states are kept: keys, what the map knows, look-ups and stores; a loop over an iterator, step by step.
  Conditions: numbers from 0 to 255.
-/
import Derived.Maps.OwnIn
import Derived.Maps.OwnSet
import Derived.DeepKeys4
import Derived.WideKeyPair
import Derived.Test.YtgndbifcncklgaaRow
import Derived.Test.YtgndbifcncklgaaStepJ
namespace Go.Proofs.Ytgndbifcncklgaa
open Go.RowKit Go.Shelf Go.Maps
attribute [local go_sem] Oper.semAt_some

theorem arrKey8 : WideMaps.ArrKey Try.prog 64 5 8 := ⟨Try.underlying64, by kernel_rfl, by kernel_rfl, by kernel_rfl⟩
theorem law8 : Keyed Try.prog 64 := Keyed.of_law (deep_law_laid (m := 100) laidT (by omega) (of_decide_eq_true (by kernel_rfl)) (by kernel_rfl) (by kernel_rfl))
/-- the lits of an array -/
def lits8 (xs : List Int) : List Lit := [.int .u8 (nth xs 0), .int .u8 (nth xs 1), .int .u8 (nth xs 2), .int .u8 (nth xs 3), .int .u8 (nth xs 4), .int .u8 (nth xs 5), .int .u8 (nth xs 6), .int .u8 (nth xs 7)]
def klit (xs : List Int) : Lit := .string (keyBytes (lits8 xs))
/-- bytes -/
def Byt (xs : List Int) : Prop := ∀ i, i < 8 → 0 ≤ nth xs i ∧ nth xs i ≤ 255
theorem wf_byte {x : Int} (h : 0 ≤ x ∧ x ≤ 255) : (Lit.int .u8 x).wf = true := by simp [Lit.wf, IntKind.min, IntKind.max, IntKind.signed, IntKind.bits]; omega
theorem keyOf8 {xs : List Int} (h : Byt xs) : keyOf Try.prog 64 (arrV xs) = some (klit xs) := by
  have hsz : ∃ m, Try.prog.types.size = m + 1 := ⟨Try.prog.types.size - 1, by have : 0 < Try.prog.types.size := (by kernel_rfl : decide (0 < Try.prog.types.size) = true) |> of_decide_eq_true; omega⟩
  have hkt := arrKey8.keyType hsz
  have w0 := wf_byte (h 0 (by omega)); have w1 := wf_byte (h 1 (by omega)); have w2 := wf_byte (h 2 (by omega)); have w3 := wf_byte (h 3 (by omega))
  have w4 := wf_byte (h 4 (by omega)); have w5 := wf_byte (h 5 (by omega)); have w6 := wf_byte (h 6 (by omega)); have w7 := wf_byte (h 7 (by omega))
  obtain ⟨m, hm⟩ := hsz
  unfold keyOf arrV cells8 klit lits8
  simp only [arrKey8.hu]
  rw [if_pos (by simp [hkt, Value.formed, arrKey8.hu, arrKey8.size]), hm]
  unfold Program.keyLits
  simp only [arrKey8.hu, Value.cells]
  rw [if_pos (by rw [arrKey8.size]; rfl), show List.range 8 = [0, 1, 2, 3, 4, 5, 6, 7] from rfl]
  simp only [List.mapM_cons, List.mapM_nil]
  simp [arrKey8.one, Program.keyLits, Try.underlying5, w0, w1, w2, w3, w4, w5, w6, w7]
theorem klit_inj {xs ys : List Int} (hx : Byt xs) (hy : Byt ys) (h : klit xs = klit ys) : ∀ i, i < 8 → nth xs i = nth ys i := by
  have h1 := keyOf8 hx
  have h2 := keyOf8 hy
  rw [h] at h1
  have := law8.inj h1 h2
  unfold arrV at this
  exact fun i hi => cells8_inj (by simpa using this) hi
theorem byt_st {gs st : List Int} (ht : tasksOk gs = true) (hs : IsSt gs st) : Byt st := fun i _ => by
  by_cases h : i < gs.length
  · have h1 := hs.2 i h
    have h2 := tasksOk_nth ht h
    omega
  · have : nth st i = 0 := by unfold nth; rw [List.getElem?_eq_none (by rw [hs.1]; omega)]; rfl
    omega
theorem klit_st {gs xs ys : List Int} (ht : tasksOk gs = true) (hx : IsSt gs xs) (hy : IsSt gs ys) (h : klit xs = klit ys) : xs = ys := by
  have h8 := (tasksOk_len ht).2
  refine ext_nth (by rw [hx.1, hy.1]) fun i hi => klit_inj (byt_st ht hx) (byt_st ht hy) h i ?_
  rw [hx.1] at hi; omega

/-! ### what the map knows -/
/-- the map in the block m reads as D; and D tells K of the states of gs -/
def Tells (gs : List Int) (D : DataW Unit) (K : Known) : Prop :=
  (∀ x, ¬ IsSt gs x → K x = none) ∧ ∀ x, IsSt gs x → (K x = none ∧ Maps.has D (klit x) = false) ∨ ∃ b, K x = some b ∧ Maps.has D (klit x) = true ∧ ∀ z, D.atKey (klit x) z = .lit (.bool b)
def KMap (W : World) (gs : List Int) (m B : Nat) (K : Known) : Prop :=
  ∃ n D, W.ownsMap Try.prog 64 (plainElem Try.prog 4) m n D ∧ n + 2 * unk gs K ≤ B ∧ Tells gs D K
theorem KMap.lt {W : World} {gs : List Int} {m B : Nat} {K : Known} (h : KMap W gs m B K) : m < W.heap.size := by obtain ⟨n, D, h, _⟩ := h; exact h.lt
theorem KMap.kept {W W' : World} {row : Option Nat} {gs : List Int} {m B : Nat} {K : Known} (h : KMap W gs m B K) (hg : W.grownBy W' row) (hne : some m ≠ row) : KMap W' gs m B K := by
  obtain ⟨n, D, h, r⟩ := h; exact ⟨n, D, h.kept hg hne, r⟩
theorem KMap.below {n : Nat} {W W' : World} {gs : List Int} {m B : Nat} {K : Known} (h : KMap W gs m B K) (hb : Below n W W') (hn : m < n) : KMap W' gs m B K := by
  obtain ⟨k, D, ⟨es, clock, h1, h2⟩, r⟩ := h
  exact ⟨k, D, ⟨es, clock, (hb.block m hn).trans h1, h2⟩, r⟩
theorem KMap.new {W : World} {gs : List Int} {m : Nat} (h : W.heap[m]? = some (.map #[] 0)) : KMap W gs m (2 * unk gs (fun _ => none)) (fun _ => none) := by
  have h0 := World.ownsMap_made (H := Unit) W Try.prog 64 (plainElem Try.prog 4)
  obtain ⟨es, clock, h1, h2⟩ := h0
  have h3 := World.alloc_heap_new W (.map #[] 0)
  rw [h3] at h1
  obtain ⟨rfl, rfl⟩ : #[] = es ∧ 0 = clock := by simpa using h1
  exact ⟨0, .map [], ⟨_, _, h, h2⟩, by omega, fun _ _ => rfl, fun x _ => .inl ⟨rfl, by simp [Maps.has]⟩⟩
theorem tells_put {gs : List Int} {D : DataW Unit} {K : Known} (ht : tasksOk gs = true) (hD : Maps.IsMap D) (h : Tells gs D K) {st : List Int} (hs : IsSt gs st) (r : Bool) : Tells gs (D.put (klit st) (.lit (.bool r))) (kput K st r) := by
  have hkl : WideAt.IsKeyLit (klit st) := law8.key (keyOf8 (byt_st ht hs))
  refine ⟨fun x hx => ?_, fun x hx => ?_⟩
  · rw [kput_other (by rintro rfl; exact hx hs)]; exact h.1 x hx
  · by_cases e : x = st
    · subst e
      exact .inr ⟨r, kput_same _ _ _, Maps.has_put_same hD hkl _, fun z => Maps.atKey_put_same hD hkl _ _⟩
    · have hne : klit x ≠ klit st := fun e2 => e (klit_st ht hx hs e2)
      rw [kput_other e, Maps.has_put_other hne]
      rcases h.2 x hx with h1 | ⟨b, h1, h2, h3⟩
      · exact .inl h1
      · exact .inr ⟨b, h1, h2, fun z => by rw [Maps.atKey_put_other hne]; exact h3 z⟩
theorem unk_same {gs : List Int} {K : Known} {st : List Int} {r : Bool} (h : K st ≠ none) : unk gs (kput K st r) = unk gs K := by
  unfold unk
  congr 1
  funext x
  by_cases e : x = st
  · subst e; rw [kput_same]; simp [h]
  · rw [kput_other e]

/-! ### the steps of a loop over an iterator -/
section
variable {F : Fence} {n : Nat} {P : Program}
/-- the loop is entered, outside every round -/
theorem range_enter {g : Operand} {ps : Array Tmp} {assign body : Code} {Q : Exit → Act → World → Prop} {a : Act} {w : World} (hro : F.round = none) (h1 : 1 ≤ n)
    {gf : Nat} {lb : Array Value} (hg : a.eval g = .func (.func gf) #[] lb) (hFg : F.fn gf) (eg : ∀ args w, (callFunc gf args).run P w = .ok (.enter gf args) w)
    (h : ∀ fn, F.fn fn → CallsIn F (n - 1) P gf (#[.func (.yield (w.heap.size + 1)) #[] #[]] ++ lb) ((w.alloc (.deferred (some []))).alloc (.loop (recOf fn a.tmps ps assign body w.heap.size .ready none)))
      (rangePost F n P (w.heap.size + 1) Q { a with defers := { target := .collected w.heap.size, args := #[] } :: a.defers })) :
    (Code.rangeFunc g ps assign body).wpIn F n P Q a w := by
  refine wpIn_rangeFunc ?_
  intro fn hfn
  rw [hro]
  refine ⟨w.heap.size + 1, [{ target := .collected w.heap.size, args := #[] }], (w.alloc (.deferred (some []))).alloc (.loop (recOf fn a.tmps ps assign body w.heap.size .ready none)), { target := .fn (.func gf) lb, args := #[.func (.yield (w.heap.size + 1)) #[] #[]] },
    (w.alloc (.deferred (some []))).alloc (.loop (recOf fn a.tmps ps assign body w.heap.size .ready none)), gf,
    #[.func (.yield (w.heap.size + 1)) #[] #[]] ++ lb, (w.alloc (.deferred (some []))).alloc (.loop (recOf fn a.tmps ps assign body w.heap.size .ready none)), run_enterLoop_outer _ _ _ _ _, ?_, ?_, ?_, fun _ => h1, ?_⟩
  · simp only [resolve, hg]
    simp [go_sem]
  · intro f' hf'; simp [Target.leads] at hf'; subst hf'; exact hFg
  · simp [invoke, go_sem, eg]
  · have h2 := h fn hfn
    simpa only [List.cons_append, List.nil_append] using h2
/-- how a round ends: the record was busy; what is owed with the record as the round leaves it -/
def roundR (l : Nat) (fn : FuncId) (tmps : Array Value) (ps : Array Tmp) (assign body : Code) (dd : Nat) (R : Ending → World → Prop) : Exit → Act → World → Prop
  | .normal, _, W => W.heap[l]? = some (.loop { recOf fn tmps ps assign body dd .ready none with state := .busy }) ∧ R (.returned (.bool true)) (W.putObj l (.loop (recOf fn tmps ps assign body dd .ready none)))
  | .ret, _, W => W.heap[l]? = some (.loop { recOf fn tmps ps assign body dd .ready none with state := .busy }) ∧ R (.returned (.bool false)) (W.putObj l (.loop (recOf fn tmps ps assign body dd .done (some .ret))))
  | .exit id, _, W => W.heap[l]? = some (.loop { recOf fn tmps ps assign body dd .ready none with state := .busy }) ∧ R (.returned (.bool false)) (W.putObj l (.loop (recOf fn tmps ps assign body dd .done (some (.exit id)))))
  | .goto t, _, W => W.heap[l]? = some (.loop { recOf fn tmps ps assign body dd .ready none with state := .busy }) ∧ R (.returned (.bool false)) (W.putObj l (.loop (recOf fn tmps ps assign body dd .done (some (.goto t)))))
  | .panic _, _, _ => False
  | .outgrown, _, _ => False
/-- one round -/
theorem yield_round {l : Nat} {fn : FuncId} {tmps : Array Value} {ps : Array Tmp} {assign body : Code} {dd : Nat} {args : Array Value} {W : World} {R : Ending → World → Prop} (hfn : F.fn fn)
    (hl : W.heap[l]? = some (.loop (recOf fn tmps ps assign body dd .ready none))) (hps : args.size = ps.size) (a₁ : Act)
    (hassign : ∀ K : Act → World → Prop, K a₁ W → assign.wpIn (F.inRound l) n P (Exit.then K (fun _ _ _ => False)) { tmps := (ps.zip args).foldl (fun t (p, v) => t.setIfInBounds p v) tmps, defers := [] } W)
    (hbody : body.wpIn (F.inRound l) n P (roundR l fn tmps ps assign body dd R) a₁ (W.putObj l (.loop { recOf fn tmps ps assign body dd .ready none with state := .busy }))) :
    YieldAt F n P l args W R := by
  have hy := run_yield (P := P) (args := args) hl hps
  refine ⟨fn, _, assign, body, hy, roundIn_of_wpIn hfn (hassign _ ⟨_, run_beginRound hl rfl, wpIn_mono hbody ?_⟩)⟩
  rintro e a3 W3 hp
  cases e with
  | normal => exact ⟨_, _, run_endRound (P := P) none hp.1, hp.2⟩
  | ret => exact ⟨_, _, run_endRound (P := P) (some .ret) hp.1, hp.2⟩
  | exit id => exact ⟨_, _, run_endRound (P := P) (some (.exit id)) hp.1, hp.2⟩
  | goto t => exact ⟨_, _, run_endRound (P := P) (some (.goto t)) hp.1, hp.2⟩
  | panic ch => exact hp.elim
  | outgrown => exact hp.elim
/-- behind the loop: no round left it -/
theorem range_done {l fn dd : Nat} {tmps : Array Value} {ps : Array Tmp} {assign body : Code} {Q : Exit → Act → World → Prop} {a : Act} {v : Value} {W : World}
    (hl : W.heap[l]? = some (.loop (recOf fn tmps ps assign body dd .ready none))) (h : Q .normal a (W.putObj l (.loop (recOf fn tmps ps assign body dd .exhausted none)))) : rangePost F n P l Q a (.returned v) W :=
  ⟨none, _, run_endLoop (P := P) hl (by simp [recOf]), h⟩
/-- .. a round left it -/
theorem range_jump {l fn dd : Nat} {tmps : Array Value} {ps : Array Tmp} {assign body c : Code} {Q : Exit → Act → World → Prop} {a : Act} {v : Value} {W : World}
    (hl : W.heap[l]? = some (.loop (recOf fn tmps ps assign body dd .done (some c)))) (h : c.wpIn F n P Q a (W.putObj l (.loop (recOf fn tmps ps assign body dd .exhausted (some c))))) : rangePost F n P l Q a (.returned v) W :=
  ⟨some c, _, run_endLoop (P := P) hl (by simp [recOf]), h⟩
end

end Go.Proofs.Ytgndbifcncklgaa
