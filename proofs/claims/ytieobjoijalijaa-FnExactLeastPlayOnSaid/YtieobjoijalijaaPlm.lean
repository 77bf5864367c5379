/-
  Least plays on channels: the mathematics (no program).
-/
import Derived.Test.YtieobjoijalijaaCsl
import Derived.Test.YtieobjoijalijaaPla
import Derived.Test.YtieobjoijalijaaCod
namespace Go.Proofs.Ytieobjoijalijaa
open Go.RowKit Go.Shelf

/-- a set behind which one can go on -/
def GoL (gs : List Int) (mc : Int) (st : List Int) (s : Nat) : Prop := SetOf gs.length mc s ∧ OpnS st s ∧ LastS gs mc (stepS gs st s)
theorem least_of {p : Nat → Prop} (h : ∃ s, p s) : ∃ s, p s ∧ ∀ t, t < s → ¬ p t := by
  obtain ⟨s, hs⟩ := h
  induction s using Nat.strongRecOn with
  | _ s ih =>
    by_cases hx : ∃ t, t < s ∧ p t
    · obtain ⟨t, ht, hp⟩ := hx; exact ih t ht hp
    · exact ⟨s, hs, fun t ht hp => hx ⟨t, ht, hp⟩⟩
open Classical in
noncomputable def chS1 (gs : List Int) (mc : Int) (st : List Int) : Nat := if h : ∃ s, GoL gs mc st s then (least_of h).choose else 0
theorem chS1_ok {gs st : List Int} {mc : Int} (h : LastS gs mc st) : GoL gs mc st (chS1 gs mc st) ∧ ∀ t, t < chS1 gs mc st → ¬ GoL gs mc st t := by
  have hex : ∃ s, GoL gs mc st s := lastS_step h
  unfold chS1
  rw [dif_pos hex]
  exact (least_of hex).choose_spec
theorem chS1_is {gs st : List Int} {mc : Int} {s : Nat} (h : GoL gs mc st s) (hl : ∀ t, t < s → ¬ GoL gs mc st t) : chS1 gs mc st = s := by
  have hL : LastS gs mc st := lastS_of h.1 h.2.1 h.2.2
  obtain ⟨h1, h2⟩ := chS1_ok hL
  rcases Nat.lt_trichotomy (chS1 gs mc st) s with h3 | h3 | h3
  · exact absurd h1 (hl _ h3)
  · exact h3
  · exact absurd h (h2 _ h3)
noncomputable def stP (gs : List Int) (mc : Int) : Nat → List Int
  | 0 => gs
  | n + 1 => stepS gs (stP gs mc n) (chS1 gs mc (stP gs mc n))
noncomputable def chP (gs : List Int) (mc : Int) (n : Nat) : Int := ((chS1 gs mc (stP gs mc n) : Nat) : Int)
theorem stP_ok {gs : List Int} {mc : Int} (hp : Pos gs) (h : LastS gs mc gs) (n : Nat) : IsSt gs (stP gs mc n) ∧ LastS gs mc (stP gs mc n) := by
  induction n with
  | zero => exact ⟨isSt_full hp, h⟩
  | succ n ih =>
    obtain ⟨⟨_, ho, hl⟩, _⟩ := chS1_ok ih.2
    exact ⟨ih.1.stepS ho, hl⟩
/-- no state of the first m came before -/
def FreshP (gs : List Int) (mc : Int) (m : Nat) : Prop := ∀ i j, i < j → j < m → stP gs mc i ≠ stP gs mc j
theorem freshP_bound {gs : List Int} {mc : Int} (hp : Pos gs) (h : LastS gs mc gs) {m : Nat} (hf : FreshP gs mc m) : m ≤ cntN gs := by
  have h1 := nodup_bound (l := (List.range m).map fun i => numR gs (stP gs mc i)) (N := cntN gs) ?_ ?_
  · simpa using h1
  · refine nodup_map_on fun a ha b hb hab => ?_
    have ea := ofR_numR (stP_ok hp h a).1
    have eb := ofR_numR (stP_ok hp h b).1
    have hab' : numR gs (stP gs mc a) = numR gs (stP gs mc b) := hab
    rw [hab'] at ea
    have e : stP gs mc a = stP gs mc b := by rw [← ea, eb]
    rcases Nat.lt_trichotomy a b with hlt | heq | hgt
    · exact absurd e (hf a b hlt (List.mem_range.1 hb))
    · exact heq
    · exact absurd e.symm (hf b a hgt (List.mem_range.1 ha))
  · intro x hx
    obtain ⟨i, _, rfl⟩ := List.mem_map.1 hx
    exact numR_lt (stP_ok hp h i).1
/-- the first time that a state comes again, m, and when it came first, a -/
def AgainP (gs : List Int) (mc : Int) (a m : Nat) : Prop := FreshP gs mc m ∧ a < m ∧ stP gs mc a = stP gs mc m
theorem AgainP.unique {gs : List Int} {mc : Int} {a m a' m' : Nat} (h : AgainP gs mc a m) (h' : AgainP gs mc a' m') : a = a' ∧ m = m' := by
  obtain ⟨f, l, e⟩ := h
  obtain ⟨f', l', e'⟩ := h'
  have hm : m = m' := by
    rcases Nat.lt_trichotomy m m' with h1 | h1 | h1
    · exact absurd e (f' a m l h1)
    · exact h1
    · exact absurd e' (f a' m' l' h1)
  subst hm
  rcases Nat.lt_trichotomy a a' with h1 | h1 | h1
  · exact absurd (e.trans e'.symm) (f a a' h1 l')
  · exact ⟨h1, rfl⟩
  · exact absurd (e'.trans e.symm) (f a' a h1 l)
/-- the head and the round of the least play -/
noncomputable def headQ (gs : List Int) (mc : Int) (a : Nat) : List Int := (List.range a).map (chP gs mc)
noncomputable def chsP (gs : List Int) (mc : Int) (m : Nat) : List Int := (List.range m).map (chP gs mc)
open Classical in
noncomputable def hdP (gs : List Int) (mc : Int) : List Int := if h : ∃ p : Nat × Nat, AgainP gs mc p.1 p.2 then (chsP gs mc h.choose.2).take h.choose.1 else []
open Classical in
noncomputable def rdP (gs : List Int) (mc : Int) : List Int := if h : ∃ p : Nat × Nat, AgainP gs mc p.1 p.2 then (chsP gs mc h.choose.2).drop h.choose.1 else []
theorem AgainP.head {gs : List Int} {mc : Int} {a m : Nat} (h : AgainP gs mc a m) : hdP gs mc = (chsP gs mc m).take a := by
  have hex : ∃ p : Nat × Nat, AgainP gs mc p.1 p.2 := ⟨(a, m), h⟩
  unfold hdP
  rw [dif_pos hex]
  obtain ⟨e1, e2⟩ := hex.choose_spec.unique h
  rw [e1, e2]
theorem AgainP.round {gs : List Int} {mc : Int} {a m : Nat} (h : AgainP gs mc a m) : rdP gs mc = (chsP gs mc m).drop a := by
  have hex : ∃ p : Nat × Nat, AgainP gs mc p.1 p.2 := ⟨(a, m), h⟩
  unfold rdP
  rw [dif_pos hex]
  obtain ⟨e1, e2⟩ := hex.choose_spec.unique h
  rw [e1, e2]

theorem exists_againP {gs : List Int} {mc : Int} (hp : Pos gs) (h : LastS gs mc gs) : ∃ a m, AgainP gs mc a m ∧ m ≤ cntN gs := by
  have key : ∀ k m, m + k = cntN gs + 1 → FreshP gs mc m → ∃ a m, AgainP gs mc a m ∧ m ≤ cntN gs := by
    intro k
    induction k with
    | zero => intro m hm hf; have := freshP_bound hp h hf; omega
    | succ k ih =>
      intro m hm hf
      by_cases hx : ∃ a, a < m ∧ stP gs mc a = stP gs mc m
      · obtain ⟨a, ha, e⟩ := hx
        exact ⟨a, m, ⟨hf, ha, e⟩, by omega⟩
      · refine ih (m + 1) (by omega) fun i j hij hj e => ?_
        rcases Nat.lt_or_ge j m with hj' | hj'
        · exact hf i j hij hj' e
        · obtain rfl : j = m := by omega
          exact hx ⟨i, hij, e⟩
  exact key (cntN gs + 1) 0 (by omega) fun i j _ hj => by omega
theorem chsP_length (zs : List Int) (mc : Int) (n : Nat) : (chsP zs mc n).length = n := by simp [chsP]
theorem chsP_succ (zs : List Int) (mc : Int) (n : Nat) : chsP zs mc (n + 1) = chsP zs mc n ++ [chP zs mc n] := by simp [chsP, List.range_succ]
theorem freshP_next {zs : List Int} {mc : Int} {n : Nat} (h : FreshP zs mc n) (hn : ∀ i, i < n → stP zs mc i ≠ stP zs mc n) : FreshP zs mc (n + 1) := fun i j hij hj => by
  by_cases e : j = n
  · subst e; exact hn i hij
  · exact h i j hij (by omega)
/-- when each state came -/
noncomputable def camP (zs : List Int) (mc : Int) : Nat → List Int
  | 0 => List.replicate (cntN zs) (-1)
  | n + 1 => (camP zs mc n).set (numL zs (stP zs mc n)).toNat (n : Int)
theorem camP_length (zs : List Int) (mc : Int) (n : Nat) : (camP zs mc n).length = cntN zs := by
  induction n with
  | zero => simp [camP]
  | succ n ih => simp [camP, ih]
theorem camP_at {zs : List Int} {mc : Int} (hp : Pos zs) (hc : LastS zs mc zs) {n : Nat} (hf : FreshP zs mc n) : ∀ i, i < n → nth (camP zs mc n) (numL zs (stP zs mc i)).toNat = (i : Int) := by
  induction n with
  | zero => intro i h; omega
  | succ n ih =>
    intro i hi
    have hb : ∀ j, (numL zs (stP zs mc j)).toNat < (camP zs mc n).length := fun j => by
      rw [camP_length]
      have h1 := numL_bd (stP_ok hp hc j).1
      have h2 := cntL_cntN hp
      omega
    unfold camP
    rw [nth_set (hb i)]
    by_cases e : i = n
    · subst e; simp
    · have hne : ¬ (numL zs (stP zs mc n)).toNat = (numL zs (stP zs mc i)).toNat := fun e2 => by
        have h1 := numL_bd (stP_ok hp hc i).1
        have h2 := numL_bd (stP_ok hp hc n).1
        have e3 : numL zs (stP zs mc i) = numL zs (stP zs mc n) := by omega
        have e4 := ofL_numL (stP_ok hp hc i).1
        rw [e3, ofL_numL (stP_ok hp hc n).1] at e4
        exact hf i n (by omega) (by omega) e4.symm
      rw [if_neg hne]
      exact ih (fun a b h1 h2 => hf a b h1 (by omega)) i (by omega)
theorem camP_not {zs : List Int} {mc : Int} {n q : Nat} (hq : q < cntN zs) (h : ∀ i, i < n → (numL zs (stP zs mc i)).toNat ≠ q) : nth (camP zs mc n) q = -1 := by
  induction n with
  | zero => simp [camP, nth, hq]
  | succ n ih =>
    unfold camP
    rw [nth_set (by rw [camP_length]; exact hq), if_neg (h n (by omega))]
    exact ih fun i hi => h i (by omega)
/-- the n-th state has come before, or not -/
theorem camP_case {zs : List Int} {mc : Int} (hp : Pos zs) (hc : LastS zs mc zs) {n : Nat} (hf : FreshP zs mc n) :
    (∃ a, a < n ∧ AgainP zs mc a n ∧ nth (camP zs mc n) (numL zs (stP zs mc n)).toNat = (a : Int)) ∨ (FreshP zs mc (n + 1) ∧ nth (camP zs mc n) (numL zs (stP zs mc n)).toNat = -1) := by
  by_cases h : ∃ i, i < n ∧ stP zs mc i = stP zs mc n
  · obtain ⟨i, hi, e⟩ := h
    refine .inl ⟨i, hi, ⟨hf, hi, e⟩, ?_⟩
    rw [← e]; exact camP_at hp hc hf i hi
  · have hn : ∀ i, i < n → stP zs mc i ≠ stP zs mc n := fun i hi e => h ⟨i, hi, e⟩
    refine .inr ⟨freshP_next hf hn, ?_⟩
    have h2 := numL_bd (stP_ok hp hc n).1
    have h3 := cntL_cntN hp
    refine camP_not (by omega) fun i hi e => ?_
    have h1 := numL_bd (stP_ok hp hc i).1
    have e3 : numL zs (stP zs mc i) = numL zs (stP zs mc n) := by omega
    have e4 := ofL_numL (stP_ok hp hc i).1
    rw [e3, ofL_numL (stP_ok hp hc n).1] at e4
    exact hn i hi e4.symm

/-- what the program's search finds is the least play -/
theorem Found.play {gs ps : List Int} {mc : Int} {a : Nat} (h : Found gs mc ps a) : ∀ j, j ≤ ps.length → stAt gs ps j = stP gs mc j ∧ ∀ i, i < j → nth ps i = chP gs mc i := by
  intro j
  induction j with
  | zero => intro _; exact ⟨rfl, fun i hi => by omega⟩
  | succ j ih =>
    intro hj
    obtain ⟨h1, h2⟩ := ih (by omega)
    obtain ⟨s, hs, hg1, hg2, hg3⟩ := h.way j (by omega)
    have hl := h.last (i := j + 1) hj
    have hst : stAt gs ps (j + 1) = stepS gs (stAt gs ps j) s := by simp only [stAt]; rw [hs]; simp
    rw [hst] at hl
    have hch : chS1 gs mc (stP gs mc j) = s := by
      rw [← h1]
      exact chS1_is ⟨hg1, hg2, hl⟩ fun t ht hg => hg3 t ht hg.1 hg.2.1 hg.2.2
    refine ⟨?_, fun i hi => ?_⟩
    · rw [hst, h1]; show _ = stepS gs (stP gs mc j) (chS1 gs mc (stP gs mc j)); rw [hch]
    · by_cases e : i = j
      · subst e; rw [hs]; unfold chP; rw [hch]
      · exact h2 i (by omega)
theorem Found.again {gs ps : List Int} {mc : Int} {a : Nat} (h : Found gs mc ps a) : AgainP gs mc a ps.length ∧ ps = chsP gs mc ps.length := by
  obtain ⟨h1, h2⟩ := h.play ps.length (Nat.le_refl _)
  refine ⟨⟨fun i j hij hj => ?_, h.lt, ?_⟩, ?_⟩
  · have e1 := (h.play i (by omega)).1
    have e2 := (h.play j (by omega)).1
    rw [← e1, ← e2]; exact h.new i j hij hj
  · rw [← (h.play a (Nat.le_of_lt h.lt)).1, ← h1]; exact h.eq
  · refine ext_nth (by rw [chsP_length]) fun i hi => ?_
    rw [h2 i hi]
    simp [nth, chsP, hi]

open Classical in
noncomputable def lpC (zs : List Int) (mc : Int) : Int := if onC zs mc = 0 then (if LastS zs mc zs then 0 else 4) else onC zs mc
noncomputable def lpH (zs : List Int) (mc : Int) : List Int := if lpC zs mc = 0 then hdP zs mc else []
noncomputable def lpR (zs : List Int) (mc : Int) : List Int := if lpC zs mc = 0 then rdP zs mc else []
theorem lpC_ok {zs : List Int} {mc : Int} (h : lpC zs mc = 0) : onC zs mc = 0 ∧ LastS zs mc zs := by
  unfold lpC at h
  by_cases h0 : onC zs mc = 0
  · rw [if_pos h0] at h
    by_cases hc : LastS zs mc zs
    · exact ⟨h0, hc⟩
    · rw [if_neg hc] at h; cases h
  · rw [if_neg h0] at h; exact absurd h h0
theorem lpC_yes {zs : List Int} {mc : Int} (h : onC zs mc = 0) (hc : LastS zs mc zs) : lpC zs mc = 0 := by unfold lpC; rw [if_pos h, if_pos hc]
theorem lpC_no {zs : List Int} {mc : Int} (h : onC zs mc = 0) (hc : ¬ LastS zs mc zs) : lpC zs mc = 4 ∧ lpH zs mc = [] ∧ lpR zs mc = [] := by
  have : lpC zs mc = 4 := by unfold lpC; rw [if_pos h, if_neg hc]
  exact ⟨this, by unfold lpH; rw [this]; rfl, by unfold lpR; rw [this]; rfl⟩
theorem lpC_few {zs : List Int} {mc : Int} (h : onC zs mc ≠ 0) : lpC zs mc = onC zs mc ∧ lpH zs mc = [] ∧ lpR zs mc = [] := by
  have : lpC zs mc = onC zs mc := by unfold lpC; rw [if_neg h]
  exact ⟨this, by unfold lpH; rw [this, if_neg h], by unfold lpR; rw [this, if_neg h]⟩
theorem lp_again {zs : List Int} {mc : Int} (h : lpC zs mc = 0) {a m : Nat} (ha : AgainP zs mc a m) : lpH zs mc = (chsP zs mc m).take a ∧ lpR zs mc = (chsP zs mc m).drop a := by
  unfold lpH lpR; rw [if_pos h, if_pos h, ha.head, ha.round]; exact ⟨rfl, rfl⟩
theorem lp_len (zs : List Int) (mc : Int) : (lpH zs mc).length ≤ 4000 ∧ (lpR zs mc).length ≤ 4000 := by
  by_cases h : lpC zs mc = 0
  · obtain ⟨h0, hc⟩ := lpC_ok h
    obtain ⟨ht, _, h4⟩ := onC_ok h0
    obtain ⟨a, m, ha, hm⟩ := exists_againP (pos_of ht) hc
    obtain ⟨e1, e2⟩ := lp_again h ha
    have := cntL_cntN (pos_of ht)
    rw [e1, e2, List.length_take, List.length_drop, chsP_length]
    omega
  · unfold lpH lpR; rw [if_neg h, if_neg h]; simp
theorem lpH_len (zs : List Int) (mc : Int) : (lpH zs mc).length * 8 ≤ 140737488351232 := by have := lp_len zs mc; omega
theorem lpR_len (zs : List Int) (mc : Int) : (lpR zs mc).length * 8 ≤ 140737488351232 := by have := lp_len zs mc; omega

end Go.Proofs.Ytieobjoijalijaa
