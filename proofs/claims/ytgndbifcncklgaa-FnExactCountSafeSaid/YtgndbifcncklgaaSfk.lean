/-
  The search for safe states by a walk with a stack: what its machine knows; a scope with several labels that are jumped to. Mathematics.
-/
import Derived.ScopeJumps
import Derived.Test.YtgndbifcncklgaaSfm
namespace Go.Proofs.Ytgndbifcncklgaa
open Go.RowKit Go.Shelf

/-! ### jumps to several labels -/
section
open Go
/-- As Q; by a goto: J of the label. -/
def jumpN (J : Nat → Act → World → Prop) (Q : Exit → Act → World → Prop) : Exit → Act → World → Prop
  | .goto l, a, w => J l a w
  | e, a, w => Q e a w
variable {P : Program} {a : Act} {w : World} {Q : Exit → Act → World → Prop}
theorem wp_scope_jumpsN {c : Code} (J : Nat → Nat → Act → World → Prop)
    (first : c.wp P (jumpN (fun l a w => ∃ n, J l n a w) Q) a w)
    (pass : ∀ l n a w, J l n a w → ∃ rest, findLabel c l = some rest ∧ rest.wp P (jumpN (fun l' a' w' => ∃ n', n' < n ∧ J l' n' a' w') Q) a w) : (Code.scope c).wp P Q a w := by
  intro b k cs
  have key : ∀ n l a w, J l n a w → ∃ rest, findLabel c l = some rest ∧ ∃ e a' w', Q e a' w' ∧ Arrives P (lone (b.at a (.code rest :: .inScope c :: k)) cs w) b k cs e a' w' := by
    intro n
    induction n using Nat.strongRecOn with
    | _ n ih =>
      intro l a w hJ
      obtain ⟨rest, hf, hp⟩ := pass l n a w hJ
      refine ⟨rest, hf, ?_⟩
      obtain ⟨e, a₁, w₁, hq, harr⟩ := hp b (.inScope c :: k) cs
      cases e with
      | normal => exact ⟨.normal, a₁, w₁, hq, Steps.trans harr (.one step_inScope)⟩
      | exit id => exact ⟨.exit id, a₁, w₁, hq, fun k' hk => harr k' (by simp [exitTo, hk])⟩
      | goto l' =>
        obtain ⟨n', hlt, hJ'⟩ := hq
        obtain ⟨rest', hf', e₂, a₂, w₂, hq₂, harr₂⟩ := ih n' hlt l' a₁ w₁ hJ'
        have hg : gotoIn l' (.inScope c :: k) = some (.code rest' :: .inScope c :: k) := by simp [gotoIn, hf']
        exact ⟨e₂, a₂, w₂, hq₂, .of_steps (harr _ hg) harr₂⟩
      | ret => exact ⟨_, a₁, w₁, hq, harr⟩
      | panic ch => exact ⟨_, a₁, w₁, hq, harr⟩
      | outgrown => exact ⟨_, a₁, w₁, hq, harr⟩
  obtain ⟨e, a₁, w₁, hq, harr⟩ := first b (.inScope c :: k) cs
  cases e with
  | normal => exact ⟨.normal, a₁, w₁, hq, .head step_scope (Steps.trans harr (.one step_inScope))⟩
  | exit id => exact ⟨.exit id, a₁, w₁, hq, fun k' hk => .head step_scope (harr k' (by simp [exitTo, hk]))⟩
  | goto l' =>
    obtain ⟨n', hJ'⟩ := hq
    obtain ⟨rest', hf', e₂, a₂, w₂, hq₂, harr₂⟩ := key n' l' a₁ w₁ hJ'
    have hg : gotoIn l' (.inScope c :: k) = some (.code rest' :: .inScope c :: k) := by simp [gotoIn, hf']
    exact ⟨e₂, a₂, w₂, hq₂, .of_steps (.head step_scope (harr _ hg)) harr₂⟩
  | ret => exact ⟨_, a₁, w₁, hq, .of_steps (.one step_scope) harr⟩
  | panic ch => exact ⟨_, a₁, w₁, hq, .of_steps (.one step_scope) harr⟩
  | outgrown => exact ⟨_, a₁, w₁, hq, .of_steps (.one step_scope) harr⟩
end

/-! ### what is known -/
abbrev KnW := Wst → Option Bool
def kputW (K : KnW) (x : Wst) (b : Bool) : KnW := fun y => if y = x then some b else K y
theorem kputW_same (K : KnW) (x : Wst) (b : Bool) : kputW K x b x = some b := by simp [kputW]
theorem kputW_other {K : KnW} {x y : Wst} {b : Bool} (h : y ≠ x) : kputW K x b y = K y := by simp [kputW, h]
structure KGoodW (zs : List Int) (r : Nat) (K : KnW) : Prop where
  f : ∀ y, K y = some false → ¬ SafeW zs r y
  t : ∀ y, K y = some true → SafeW zs r y
theorem KGoodW.none_ (zs : List Int) (r : Nat) : KGoodW zs r (fun _ => none) := ⟨fun y h => (by cases h), fun y h => (by cases h)⟩
/-- x comes behind y, by its own place; all lesser places are tried -/
def Lnk (zs : List Int) (r : Nat) (K : KnW) (y x : Wst) : Prop := Mv zs r y x.2 ∧ x = stW zs y x.2 ∧ ∀ j, j < x.2 → Mv zs r y j → K (stW zs y j) = some false
def Ch (zs : List Int) (r : Nat) (s : Wst) (K : KnW) : List Wst → Wst → Prop
  | [], x => x = s
  | y :: ys, x => Lnk zs r K y x ∧ Ch zs r s K ys y
theorem Ch.mono {zs : List Int} {r : Nat} {s : Wst} {K K' : KnW} (hk : ∀ y, K y = some false → K' y = some false) : ∀ {ws : List Wst} {x : Wst}, Ch zs r s K ws x → Ch zs r s K' ws x
  | [], _, h => h
  | _ :: _, _, h => ⟨⟨h.1.1, h.1.2.1, fun j hj hm => hk _ (h.1.2.2 j hj hm)⟩, Ch.mono hk h.2⟩
theorem Ch.next {zs : List Int} {r : Nat} {s : Wst} {K : KnW} : ∀ {ws : List Wst} {x : Wst}, Ch zs r s K ws x → ∀ y ∈ ws, ∃ z, (z = x ∨ z ∈ ws) ∧ Mv zs r y z.2 ∧ z = stW zs y z.2
  | y :: ys, x, h, v, hv => by
    rcases List.mem_cons.1 hv with rfl | hv
    · exact ⟨x, .inl rfl, h.1.1, h.1.2.1⟩
    · obtain ⟨z, hz, h2⟩ := Ch.next h.2 v hv
      refine ⟨z, .inr ?_, h2⟩
      rcases hz with rfl | hz
      · simp
      · simp [hz]
theorem Ch.start {zs : List Int} {r : Nat} {s : Wst} {K : KnW} : ∀ {ws : List Wst} {x : Wst}, Ch zs r s K ws x → s = x ∨ s ∈ ws
  | [], _, h => .inl h.symm
  | y :: ys, x, h => by
    rcases Ch.start h.2 with rfl | h2
    · right; simp
    · right; simp [h2]
/-- the walk ws (its top first), and what is known -/
structure Base (zs : List Int) (r : Nat) (K : KnW) (ws : List Wst) : Prop where
  f : ∀ y, K y = some false → ¬ SafeW zs r y
  t : ∀ y, K y = some true → y ∈ ws ∨ SafeW zs r y
  w : ∀ y ∈ ws, K y = some true ∧ IsW zs y
  nd : ws.Nodup
/-- the walk comes to x -/
structure Arv (zs : List Int) (r : Nat) (s : Wst) (K : KnW) (ws : List Wst) (x : Wst) : Prop where
  base : Base zs r K ws
  ix : IsW zs x
  ch : Ch zs r s K ws x
/-- moves from the walk's top x are tried, from the place p on -/
structure Lv (zs : List Int) (r : Nat) (s : Wst) (K : KnW) (ws : List Wst) (x : Wst) (p : Nat) : Prop where
  base : Base zs r K (x :: ws)
  ch : Ch zs r s K ws x
  tried : ∀ j, j < p → Mv zs r x j → K (stW zs x j) = some false
/-- x is not safe: it goes back -/
structure Bk (zs : List Int) (r : Nat) (s : Wst) (K : KnW) (ws : List Wst) (x : Wst) : Prop where
  base : Base zs r K ws
  ch : Ch zs r s K ws x
  fx : K x = some false
theorem Arv.first {zs : List Int} {r : Nat} {s : Wst} {K : KnW} (hK : KGoodW zs r K) (hs : IsW zs s) : Arv zs r s K [] s :=
  ⟨⟨hK.f, fun y h => .inr (hK.t y h), fun y h => (by cases h), List.nodup_nil⟩, hs, rfl⟩
theorem Arv.yes {zs : List Int} {r : Nat} {s : Wst} {K : KnW} {ws : List Wst} {x : Wst} (h : Arv zs r s K ws x) (hx : K x = some true) : KGoodW zs r K ∧ SafeW zs r s := by
  have hS : ∀ y, (y ∈ ws ∨ SafeW zs r y) → SafeW zs r y := fun y hy => by
    refine ⟨fun z => z ∈ ws ∨ SafeW zs r z, hy, ?_⟩
    rintro z (hz | hz)
    · refine ⟨(h.base.w z hz).2, ?_⟩
      obtain ⟨v, hv, h1, h2⟩ := h.ch.next z hz
      refine ⟨v.2, h1, ?_⟩
      rw [← h2]
      rcases hv with rfl | hv
      · exact h.base.t _ hx
      · exact .inl hv
    · obtain ⟨j, h1, h2⟩ := hz.step
      exact ⟨hz.isW, j, h1, .inr h2⟩
  refine ⟨⟨h.base.f, fun y hy => hS y (h.base.t y hy)⟩, ?_⟩
  rcases h.ch.start with rfl | h2
  · exact hS _ (h.base.t _ hx)
  · exact hS _ (.inl h2)
theorem Arv.back {zs : List Int} {r : Nat} {s : Wst} {K : KnW} {ws : List Wst} {x : Wst} (h : Arv zs r s K ws x) (hx : K x = some false) : Bk zs r s K ws x := ⟨h.base, h.ch, hx⟩
theorem Arv.leave {zs : List Int} {r : Nat} {s : Wst} {K : KnW} {ws : List Wst} {x : Wst} (h : Arv zs r s K ws x) (hx : K x = none) : Lv zs r s (kputW K x true) ws x 0 := by
  have hne : ∀ y, K y ≠ none → y ≠ x := fun y hy e => hy (e ▸ hx)
  have hxw : x ∉ ws := fun hm => by have := (h.base.w x hm).1; rw [hx] at this; cases this
  refine ⟨⟨fun y hy => ?_, fun y hy => ?_, fun y hy => ?_, List.nodup_cons.2 ⟨hxw, h.base.nd⟩⟩, h.ch.mono fun y hy => ?_, fun j hj => by omega⟩
  · by_cases e : y = x
    · rw [e, kputW_same] at hy; cases hy
    · rw [kputW_other e] at hy; exact h.base.f y hy
  · by_cases e : y = x
    · left; simp [e]
    · rw [kputW_other e] at hy
      rcases h.base.t y hy with h1 | h1
      · left; simp [h1]
      · exact .inr h1
  · rcases List.mem_cons.1 hy with rfl | hy
    · exact ⟨kputW_same _ _ _, h.ix⟩
    · have h1 := h.base.w y hy
      rw [kputW_other (hne y (by rw [h1.1]; simp))]
      exact h1
  · rw [kputW_other (hne y (by rw [hy]; simp))]; exact hy
theorem Lv.go {zs : List Int} {r : Nat} {s : Wst} {K : KnW} {ws : List Wst} {x : Wst} {p : Nat} (h : Lv zs r s K ws x p) (hm : Mv zs r x p) : Arv zs r s K (x :: ws) (stW zs x p) :=
  ⟨h.base, (h.base.w x (by simp)).2.step hm, ⟨hm, rfl, h.tried⟩, h.ch⟩
theorem Lv.skip {zs : List Int} {r : Nat} {s : Wst} {K : KnW} {ws : List Wst} {x : Wst} {p : Nat} (h : Lv zs r s K ws x p) (hm : ¬ Mv zs r x p) : Lv zs r s K ws x (p + 1) :=
  ⟨h.base, h.ch, fun j hj hmj => by
    by_cases e : j = p
    · subst e; exact absurd hmj hm
    · exact h.tried j (by omega) hmj⟩
theorem Lv.done {zs : List Int} {r : Nat} {s : Wst} {K : KnW} {ws : List Wst} {x : Wst} {p : Nat} (h : Lv zs r s K ws x p) (hp : zs.length ≤ p) : Bk zs r s (kputW K x false) ws x := by
  have hnd := List.nodup_cons.1 h.base.nd
  refine ⟨⟨fun y hy => ?_, fun y hy => ?_, fun y hy => ?_, hnd.2⟩, h.ch.mono fun y hy => ?_, kputW_same _ _ _⟩
  · by_cases e : y = x
    · subst e
      intro hs
      obtain ⟨j, h1, h2⟩ := hs.step
      exact h.base.f _ (h.tried j (Nat.lt_of_lt_of_le h1.1 hp) h1) h2
    · rw [kputW_other e] at hy; exact h.base.f y hy
  · by_cases e : y = x
    · rw [e, kputW_same] at hy; cases hy
    · rw [kputW_other e] at hy
      rcases h.base.t y hy with h1 | h1
      · rcases List.mem_cons.1 h1 with h1 | h1
        · exact absurd h1 e
        · exact .inl h1
      · exact .inr h1
  · have h1 := h.base.w y (by simp [hy])
    have e : y ≠ x := fun e => hnd.1 (e ▸ hy)
    rw [kputW_other e]
    exact h1
  · by_cases e : y = x
    · rw [e]; exact kputW_same _ _ _
    · rw [kputW_other e]; exact hy
theorem Bk.over {zs : List Int} {r : Nat} {s : Wst} {K : KnW} {x : Wst} (h : Bk zs r s K [] x) : KGoodW zs r K ∧ ¬ SafeW zs r s := by
  refine ⟨⟨h.base.f, fun y hy => ?_⟩, ?_⟩
  · rcases h.base.t y hy with h1 | h1
    · cases h1
    · exact h1
  · have e : x = s := h.ch
    rw [← e]
    exact h.base.f x h.fx
theorem Bk.next {zs : List Int} {r : Nat} {s : Wst} {K : KnW} {y : Wst} {ws : List Wst} {x : Wst} (h : Bk zs r s K (y :: ws) x) : Lv zs r s K ws y (x.2 + 1) :=
  ⟨h.base, h.ch.2, fun j hj hm => by
    by_cases e : j = x.2
    · rw [e, ← h.ch.1.2.1]; exact h.fx
    · exact h.ch.1.2.2 j (by omega) hm⟩

/-! ### how much is left -/
def rem_ (n : Nat) : List Wst → Wst → Nat
  | [], _ => 0
  | y :: ys, x => (n - x.2) + rem_ n ys y
def allW (zs : List Int) : List Wst := (allSt zs).flatMap fun s => (List.range zs.length).map fun j : Nat => (s, j)
theorem mem_allW {zs : List Int} {x : Wst} (h : IsW zs x) : x ∈ allW zs := by
  simp only [allW, List.mem_flatMap, List.mem_map, List.mem_range]
  exact ⟨x.1, mem_allSt h.1, x.2, h.2.1, rfl⟩
open Classical in
noncomputable def unkW (zs : List Int) (K : KnW) : Nat := (allW zs).countP fun x => decide (K x = none)
theorem unkW_put {zs : List Int} {K : KnW} {x : Wst} {b : Bool} (hx : IsW zs x) (h0 : K x = none) : unkW zs (kputW K x b) < unkW zs K := by
  unfold unkW
  refine countP_lt (fun y _ hy => ?_) (mem_allW hx) (by simp [h0]) (by simp [kputW])
  simp only [decide_eq_true_eq] at hy ⊢
  by_cases e : y = x
  · subst e; exact h0
  · rwa [kputW_other e] at hy
theorem unkW_same {zs : List Int} {K : KnW} {x : Wst} {b : Bool} (h0 : K x ≠ none) : unkW zs (kputW K x b) = unkW zs K := by
  unfold unkW
  congr 1
  funext y
  by_cases e : y = x
  · subst e; simp [kputW, h0]
  · rw [kputW_other e]

end Go.Proofs.Ytgndbifcncklgaa
