/-
  Lasting states where sets of tasks have turns; ways of states; what a search in the depth knows. Mathematics.
-/
import Derived.Test.YtgndbifcncklgaaBit
import Derived.Test.YtgndbifcncklgaaLasting
namespace Go.Proofs.Ytgndbifcncklgaa
open Go.RowKit Go.Shelf

def OpnS (st : List Int) (s : Nat) : Prop := ∀ i, i < st.length → s.testBit i = false → nth st i ≠ 1
def stepS (gs st : List Int) (s : Nat) : List Int := (List.range st.length).map fun i => if s.testBit i then nth gs i else nth st i - 1
def SetOf (K : Nat) (m : Int) (s : Nat) : Prop := s < 2 ^ K ∧ ((pop s : Nat) : Int) ≤ m
def LastS (gs : List Int) (m : Int) (st : List Int) : Prop := ∃ S : List Int → Prop, S st ∧ ∀ x, S x → ∃ s, SetOf gs.length m s ∧ OpnS x s ∧ S (stepS gs x s)
theorem stepS_length (gs st : List Int) (s : Nat) : (stepS gs st s).length = st.length := by simp [stepS]
theorem nth_stepS {gs st : List Int} {s i : Nat} (h : i < st.length) : nth (stepS gs st s) i = if s.testBit i then nth gs i else nth st i - 1 := by simp [nth, stepS, h]
theorem IsSt.stepS {gs st : List Int} {s : Nat} (h : IsSt gs st) (ho : OpnS st s) : IsSt gs (stepS gs st s) := by
  refine ⟨by rw [stepS_length, h.1], fun i hi => ?_⟩
  have h1 := h.2 i hi
  have hil : i < st.length := by rw [h.1]; exact hi
  rw [nth_stepS hil]
  cases hb : s.testBit i
  · have := ho i hil hb
    simp; omega
  · simp; omega
theorem lastS_step {gs st : List Int} {m : Int} (h : LastS gs m st) : ∃ s, SetOf gs.length m s ∧ OpnS st s ∧ LastS gs m (stepS gs st s) := by
  obtain ⟨S, h0, hS⟩ := h
  obtain ⟨s, h1, h2, h3⟩ := hS _ h0
  exact ⟨s, h1, h2, S, h3, hS⟩
theorem lastS_of {gs st : List Int} {m : Int} {s : Nat} (h1 : SetOf gs.length m s) (h2 : OpnS st s) (h3 : LastS gs m (stepS gs st s)) : LastS gs m st := by
  refine ⟨fun x => x = st ∨ LastS gs m x, .inl rfl, ?_⟩
  rintro x (rfl | hx)
  · exact ⟨s, h1, h2, .inr h3⟩
  · obtain ⟨t, k1, k2, k3⟩ := lastS_step hx
    exact ⟨t, k1, k2, .inr k3⟩
theorem opn_due {gs st : List Int} (h : IsSt gs st) (h8 : gs.length ≤ 8) (s : Nat) : opnB (dueTo st 8) s = true ↔ OpnS st s := by
  unfold opnB
  rw [List.all_eq_true]
  constructor
  · intro ha i hi hb e
    have h1 := ha i (List.mem_range.2 (by rw [h.1] at hi; omega))
    rw [dueTo_bit, hb, decide_eq_true ⟨by rw [h.1] at hi; omega, e⟩] at h1
    simp at h1
  · intro ho i hi
    have hi8 := List.mem_range.1 hi
    rw [dueTo_bit]
    by_cases e : nth st i = 1
    · have hil : i < st.length := by
        apply Classical.byContradiction
        intro hn
        have : nth st i = 0 := by unfold nth; rw [List.getElem?_eq_none (by omega)]; rfl
        omega
      cases hb : s.testBit i
      · exact absurd e (ho i hil hb)
      · simp
    · simp [e]

/-! ### the sets in their order -/
theorem sets_before {m : Int} {N q t : Nat} (hq : q < (setsTo m N).length) (ht : (t : Int) < nth (setsTo m N) q) (hp : ((pop t : Nat) : Int) ≤ m) : ∃ q', q' < q ∧ nth (setsTo m N) q' = (t : Int) := by
  induction N with
  | zero => simp [setsTo] at hq
  | succ N ih =>
    by_cases e : ((pop N : Nat) : Int) ≤ m
    · rw [setsTo_yes e] at hq ht ⊢
      by_cases hl : q < (setsTo m N).length
      · have h1 : nth (setsTo m N ++ [(N : Int)]) q = nth (setsTo m N) q := by unfold nth; rw [List.getElem?_append_left hl]
        rw [h1] at ht
        obtain ⟨q', h2, h3⟩ := ih hl ht
        exact ⟨q', h2, by rw [← h3]; unfold nth; rw [List.getElem?_append_left (by omega)]⟩
      · have hql : q = (setsTo m N).length := by simp at hq; omega
        subst hql
        have h1 : nth (setsTo m N ++ [(N : Int)]) (setsTo m N).length = (N : Int) := by simp [nth]
        rw [h1] at ht
        obtain ⟨q', h2, h3⟩ := List.getElem_of_mem (setsTo_mem (m := m) (n := N) (s := t) (by omega) hp)
        exact ⟨q', h2, by unfold nth; rw [List.getElem?_append_left h2, List.getElem?_eq_getElem h2, h3]; rfl⟩
    · rw [setsTo_no e] at hq ht ⊢
      exact ih hq ht
theorem nth_setsTo {m : Int} {N q : Nat} (hq : q < (setsTo m N).length) : ∃ s : Nat, nth (setsTo m N) q = s ∧ s < N ∧ ((pop s : Nat) : Int) ≤ m := by
  obtain ⟨s, h1, h2, h3⟩ := mem_setsTo (nth_mem hq)
  exact ⟨s, h1, h2, h3⟩
theorem setsTo_idx {m : Int} {K s : Nat} (h : SetOf K m s) : ∃ q, q < (setsTo m (2 ^ K)).length ∧ nth (setsTo m (2 ^ K)) q = (s : Int) := by
  obtain ⟨q, h2, h3⟩ := List.getElem_of_mem (setsTo_mem (m := m) h.1 h.2)
  exact ⟨q, h2, by rw [nth_lt h2, h3]⟩

/-! ### ways -/
def stAt (gs ps : List Int) : Nat → List Int
  | 0 => gs
  | j + 1 => stepS gs (stAt gs ps j) (nth ps j).toNat
theorem stAt_snoc (gs ps xs : List Int) : ∀ j, j ≤ ps.length → stAt gs (ps ++ xs) j = stAt gs ps j
  | 0, _ => rfl
  | j + 1, h => by
    simp only [stAt]
    rw [stAt_snoc gs ps xs j (by omega)]
    congr 2
    unfold nth; rw [List.getElem?_append_left (by omega)]
def GoodS (gs : List Int) (m : Int) (x : List Int) (s : Nat) : Prop := SetOf gs.length m s ∧ OpnS x s ∧ ∀ t, t < s → SetOf gs.length m t → OpnS x t → ¬ LastS gs m (stepS gs x t)
def WayP (gs : List Int) (m : Int) (ps : List Int) : Prop := ∀ j, j < ps.length → ∃ s : Nat, nth ps j = s ∧ GoodS gs m (stAt gs ps j) s
theorem WayP.st {gs ps : List Int} {m : Int} (hp : Pos gs) (h : WayP gs m ps) : ∀ j, j ≤ ps.length → IsSt gs (stAt gs ps j)
  | 0, _ => isSt_full hp
  | j + 1, hj => by
    obtain ⟨s, h1, h2⟩ := h j (by omega)
    simp only [stAt]
    rw [h1, Int.toNat_natCast]
    exact (WayP.st hp h j (by omega)).stepS h2.2.1
theorem WayP.nil (gs : List Int) (m : Int) : WayP gs m [] := fun j hj => by simp at hj
theorem WayP.snoc {gs ps : List Int} {m : Int} {s : Nat} (h : WayP gs m ps) (hs : GoodS gs m (stAt gs ps ps.length) s) : WayP gs m (ps ++ [(s : Int)]) := fun j hj => by
  simp at hj
  rw [stAt_snoc _ _ _ j (by omega)]
  by_cases e : j = ps.length
  · subst e; exact ⟨s, by simp [nth], hs⟩
  · obtain ⟨t, h1, h2⟩ := h j (by omega)
    exact ⟨t, by rw [← h1]; unfold nth; rw [List.getElem?_append_left (by omega)], h2⟩
theorem stAt_last (gs ps : List Int) (s : Nat) : stAt gs (ps ++ [(s : Int)]) (ps ++ [(s : Int)]).length = stepS gs (stAt gs ps ps.length) s := by
  rw [List.length_append, List.length_singleton]
  simp only [stAt]
  rw [stAt_snoc _ _ _ _ (Nat.le_refl _)]
  congr 1
  simp [nth]

/-! ### what the search knows -/
abbrev Places := List Int → Option Int
def pput (P : Places) (x : List Int) (p : Int) : Places := fun y => if y = x then some p else P y
theorem pput_same (P : Places) (x : List Int) (p : Int) : pput P x p x = some p := by simp [pput]
theorem pput_other {P : Places} {x y : List Int} {p : Int} (h : y ≠ x) : pput P x p y = P y := by simp [pput, h]
/-- the first N states of the way have their places; all others that are known are dead -/
structure KnowP (gs : List Int) (m : Int) (P : Places) (ps : List Int) (N : Nat) : Prop where
  dom : ∀ x p, P x = some p → IsSt gs x
  path : ∀ j, j < N → P (stAt gs ps j) = some (j : Int)
  place : ∀ x p, P x = some p → p = -1 ∨ ∃ j : Nat, j < N ∧ p = (j : Int) ∧ x = stAt gs ps j
  dead : ∀ x, P x = some (-1) → ¬ LastS gs m x
theorem KnowP.start (gs : List Int) (m : Int) : KnowP gs m (fun _ => none) [] 0 := ⟨fun _ _ h => (by cases h), fun j hj => (by omega), fun _ _ h => (by cases h), fun _ h => (by cases h)⟩
theorem KnowP.new {gs ps : List Int} {m : Int} {P : Places} (h : KnowP gs m P ps ps.length) (hs : IsSt gs (stAt gs ps ps.length)) (hn : P (stAt gs ps ps.length) = none) : KnowP gs m (pput P (stAt gs ps ps.length) (ps.length : Int)) ps (ps.length + 1) := by
  refine ⟨fun x p hx => ?_, fun j hj => ?_, fun x p hx => ?_, fun x hx => ?_⟩
  · by_cases e : x = stAt gs ps ps.length
    · subst e; exact hs
    · rw [pput_other e] at hx; exact h.dom x p hx
  · by_cases e : j = ps.length
    · subst e; exact pput_same _ _ _
    · have h1 := h.path j (by omega)
      rw [pput_other (fun e2 => by rw [e2, hn] at h1; cases h1)]; exact h1
  · by_cases e : x = stAt gs ps ps.length
    · subst e
      rw [pput_same] at hx
      cases hx
      exact .inr ⟨ps.length, by omega, rfl, rfl⟩
    · rw [pput_other e] at hx
      rcases h.place x p hx with h1 | ⟨j, h1, h2, h3⟩
      · exact .inl h1
      · exact .inr ⟨j, by omega, h2, h3⟩
  · by_cases e : x = stAt gs ps ps.length
    · subst e
      rw [pput_same] at hx
      simp at hx
    · rw [pput_other e] at hx; exact h.dead x hx
theorem KnowP.more {gs ps : List Int} {m : Int} {P : Places} (s : Nat) (h : KnowP gs m P ps (ps.length + 1)) : KnowP gs m P (ps ++ [(s : Int)]) (ps ++ [(s : Int)]).length := by
  rw [List.length_append, List.length_singleton]
  refine ⟨h.dom, fun j hj => by rw [stAt_snoc _ _ _ _ (by omega)]; exact h.path j hj, fun x p hx => ?_, h.dead⟩
  rcases h.place x p hx with h1 | ⟨j, h1, h2, h3⟩
  · exact .inl h1
  · exact .inr ⟨j, h1, h2, by rw [stAt_snoc _ _ _ _ (by omega)]; exact h3⟩
theorem KnowP.less {gs ps : List Int} {m : Int} {P : Places} {s : Nat} (h : KnowP gs m P (ps ++ [(s : Int)]) (ps ++ [(s : Int)]).length) : KnowP gs m P ps (ps.length + 1) := by
  rw [List.length_append, List.length_singleton] at h
  refine ⟨h.dom, fun j hj => by rw [← stAt_snoc gs ps [(s : Int)] _ (by omega)]; exact h.path j hj, fun x p hx => ?_, h.dead⟩
  rcases h.place x p hx with h1 | ⟨j, h1, h2, h3⟩
  · exact .inl h1
  · exact .inr ⟨j, h1, h2, by rw [← stAt_snoc gs ps [(s : Int)] _ (by omega)]; exact h3⟩
theorem KnowP.die {gs ps : List Int} {m : Int} {P : Places} (h : KnowP gs m P ps (ps.length + 1)) (hl : ¬ LastS gs m (stAt gs ps ps.length)) : KnowP gs m (pput P (stAt gs ps ps.length) (-1)) ps ps.length := by
  have hn := h.path ps.length (by omega)
  refine ⟨fun x p hx => ?_, fun j hj => ?_, fun x p hx => ?_, fun x hx => ?_⟩
  · by_cases e : x = stAt gs ps ps.length
    · subst e; exact h.dom _ _ hn
    · rw [pput_other e] at hx; exact h.dom x p hx
  · have h1 := h.path j (by omega)
    rw [pput_other (fun e => by rw [e, hn] at h1; simp at h1; omega)]; exact h1
  · by_cases e : x = stAt gs ps ps.length
    · subst e
      rw [pput_same] at hx
      cases hx
      exact .inl rfl
    · rw [pput_other e] at hx
      rcases h.place x p hx with h1 | ⟨j, h1, h2, h3⟩
      · exact .inl h1
      · exact .inr ⟨j, by
          by_cases ej : j = ps.length
          · subst ej; exact absurd h3 e
          · omega, h2, h3⟩
  · by_cases e : x = stAt gs ps ps.length
    · subst e; exact hl
    · rw [pput_other e] at hx; exact h.dead x hx
/-- the search has come round -/
structure Found (gs : List Int) (m : Int) (ps : List Int) (a : Nat) : Prop where
  way : WayP gs m ps
  lt : a < ps.length
  eq : stAt gs ps a = stAt gs ps ps.length
  new : ∀ i j, i < j → j < ps.length → stAt gs ps i ≠ stAt gs ps j
theorem KnowP.found {gs ps : List Int} {m : Int} {P : Places} (h : KnowP gs m P ps ps.length) (hw : WayP gs m ps) {p : Int} (hp : P (stAt gs ps ps.length) = some p) (hne : p ≠ -1) : ∃ a : Nat, p = a ∧ Found gs m ps a := by
  rcases h.place _ _ hp with h1 | ⟨j, h1, h2, h3⟩
  · exact absurd h1 hne
  · refine ⟨j, h2, hw, h1, h3.symm, fun i k hik hk e => ?_⟩
    have e1 := h.path i (by omega)
    have e2 := h.path k hk
    rw [e, e2] at e1
    simp at e1; omega
theorem Found.last {gs ps : List Int} {m : Int} {a : Nat} (h : Found gs m ps a) {i : Nat} (hi : i ≤ ps.length) : LastS gs m (stAt gs ps i) := by
  have key : ∀ i, i ≤ ps.length → ∃ j, j < ps.length ∧ stAt gs ps i = stAt gs ps j := fun i hi => by
    by_cases e : i = ps.length
    · subst e; exact ⟨a, h.lt, h.eq.symm⟩
    · exact ⟨i, by omega, rfl⟩
  refine ⟨fun x => ∃ j, j < ps.length ∧ x = stAt gs ps j, key i hi, ?_⟩
  rintro x ⟨j, hj, rfl⟩
  obtain ⟨s, h1, h2⟩ := h.way j hj
  obtain ⟨k, hk, e⟩ := key (j + 1) (by omega)
  refine ⟨s, h2.1, h2.2.1, k, hk, ?_⟩
  rw [← e]
  simp only [stAt]
  rw [h1, Int.toNat_natCast]

/-! ### how many are not known -/
def kn (P : Places) : Known := fun x => (P x).map fun _ => true
theorem kn_none {P : Places} {x : List Int} : kn P x = none ↔ P x = none := by unfold kn; cases P x <;> simp
theorem kn_put (P : Places) (x : List Int) (p : Int) : kn (pput P x p) = kput (kn P) x true := by
  funext y
  unfold kn kput pput
  by_cases e : y = x <;> simp [e]
noncomputable def unkP (gs : List Int) (P : Places) : Nat := unk gs (kn P)
theorem unkP_put {gs : List Int} {P : Places} {x : List Int} {p : Int} (hs : IsSt gs x) (h0 : P x = none) : unkP gs (pput P x p) < unkP gs P := by
  unfold unkP; rw [kn_put]; exact unk_put hs (kn_none.2 h0)
theorem unkP_le {gs : List Int} {P P' : Places} (h : ∀ x, P x ≠ none → P' x ≠ none) : unkP gs P' ≤ unkP gs P := unk_le fun x hx => by
  have h1 : P x ≠ none := fun e => hx (kn_none.2 e)
  have h2 := h x h1
  unfold kn
  cases e1 : P x with
  | none => exact absurd e1 h1
  | some a => cases e2 : P' x with
    | none => exact absurd e2 h2
    | some b => rfl

end Go.Proofs.Ytgndbifcncklgaa
