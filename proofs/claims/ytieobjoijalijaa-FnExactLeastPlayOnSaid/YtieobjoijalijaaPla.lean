/-
  Least plays: the answers, and the list of when each state came (no program).
-/
import Derived.Test.YtieobjoijalijaaTopI
import Derived.Test.YtieobjoijalijaaClone
namespace Go.Proofs.Ytieobjoijalijaa
open Go.RowKit Go.Shelf

open Classical in
noncomputable def plC (zs : List Int) : Int := if fewC zs = 0 then (if CanL zs then 0 else 4) else fewC zs
noncomputable def plH (zs : List Int) : List Int := if plC zs = 0 then headL_ zs else []
noncomputable def plR (zs : List Int) : List Int := if plC zs = 0 then roundL_ zs else []
theorem plC_ok {zs : List Int} (h : plC zs = 0) : fewC zs = 0 ∧ CanL zs := by
  unfold plC at h
  by_cases h0 : fewC zs = 0
  · rw [if_pos h0] at h
    by_cases hc : CanL zs
    · exact ⟨h0, hc⟩
    · rw [if_neg hc] at h; cases h
  · rw [if_neg h0] at h; exact absurd h h0
theorem plC_yes {zs : List Int} (h : fewC zs = 0) (hc : CanL zs) : plC zs = 0 := by unfold plC; rw [if_pos h, if_pos hc]
theorem plC_no {zs : List Int} (h : fewC zs = 0) (hc : ¬ CanL zs) : plC zs = 4 ∧ plH zs = [] ∧ plR zs = [] := by
  have : plC zs = 4 := by unfold plC; rw [if_pos h, if_neg hc]
  exact ⟨this, by unfold plH; rw [this]; rfl, by unfold plR; rw [this]; rfl⟩
theorem plC_few {zs : List Int} (h : fewC zs ≠ 0) : plC zs = fewC zs ∧ plH zs = [] ∧ plR zs = [] := by
  have : plC zs = fewC zs := by unfold plC; rw [if_neg h]
  exact ⟨this, by unfold plH; rw [this, if_neg h], by unfold plR; rw [this, if_neg h]⟩
theorem choicesP_length (zs : List Int) (n : Nat) : (choicesP zs n).length = n := by simp [choicesP]
theorem choicesP_succ (zs : List Int) (n : Nat) : choicesP zs (n + 1) = choicesP zs n ++ [playC zs n] := by simp [choicesP, List.range_succ]
theorem cntN_few {zs : List Int} (h : fewC zs = 0) : cntN zs ≤ 4000 := by
  obtain ⟨ht, h4⟩ := fewC_ok h
  have := cntL_cntN (gs := zs) (pos_of ht)
  omega
theorem pl_again {zs : List Int} (h : plC zs = 0) {a m : Nat} (ha : Again zs a m) : plH zs = (choicesP zs m).take a ∧ plR zs = (choicesP zs m).drop a := by
  unfold plH plR; rw [if_pos h, if_pos h, ha.head, ha.round]; exact ⟨rfl, rfl⟩
theorem pl_len (zs : List Int) : (plH zs).length ≤ 4000 ∧ (plR zs).length ≤ 4000 := by
  by_cases h : plC zs = 0
  · obtain ⟨h0, hc⟩ := plC_ok h
    obtain ⟨a, m, ha, hm⟩ := exists_again (pos_of (fewC_ok h0).1) hc
    obtain ⟨e1, e2⟩ := pl_again h ha
    have := cntN_few h0
    rw [e1, e2, List.length_take, List.length_drop, choicesP_length]
    omega
  · unfold plH plR; rw [if_neg h, if_neg h]; simp
theorem plH_len (zs : List Int) : (plH zs).length * 8 ≤ 140737488351232 := by have := pl_len zs; omega
theorem plR_len (zs : List Int) : (plR zs).length * 8 ≤ 140737488351232 := by have := pl_len zs; omega
theorem fresh_next {zs : List Int} {n : Nat} (h : Fresh zs n) (hn : ∀ i, i < n → playS zs i ≠ playS zs n) : Fresh zs (n + 1) := fun i j hij hj => by
  by_cases e : j = n
  · subst e; exact hn i hij
  · exact h i j hij (by omega)
/-- when each state came -/
noncomputable def camL (zs : List Int) : Nat → List Int
  | 0 => List.replicate (cntN zs) (-1)
  | n + 1 => (camL zs n).set (numL zs (playS zs n)).toNat (n : Int)
theorem camL_length (zs : List Int) (n : Nat) : (camL zs n).length = cntN zs := by
  induction n with
  | zero => simp [camL]
  | succ n ih => simp [camL, ih]
theorem camL_at {zs : List Int} (hp : Pos zs) (hc : CanL zs) {n : Nat} (hf : Fresh zs n) : ∀ i, i < n → nth (camL zs n) (numL zs (playS zs i)).toNat = (i : Int) := by
  induction n with
  | zero => intro i h; omega
  | succ n ih =>
    intro i hi
    have hb : ∀ j, (numL zs (playS zs j)).toNat < (camL zs n).length := fun j => by
      rw [camL_length]
      have h1 := numL_bd (playS_ok hp hc j).1
      have h2 := cntL_cntN hp
      omega
    unfold camL
    rw [nth_set (hb i)]
    by_cases e : i = n
    · subst e; simp
    · have hne : ¬ (numL zs (playS zs n)).toNat = (numL zs (playS zs i)).toNat := fun e2 => by
        have h1 := numL_bd (playS_ok hp hc i).1
        have h2 := numL_bd (playS_ok hp hc n).1
        have e3 : numL zs (playS zs i) = numL zs (playS zs n) := by omega
        have e4 := ofL_numL (playS_ok hp hc i).1
        rw [e3, ofL_numL (playS_ok hp hc n).1] at e4
        exact hf i n (by omega) (by omega) e4.symm
      rw [if_neg hne]
      exact ih (fun a b h1 h2 => hf a b h1 (by omega)) i (by omega)
theorem camL_not {zs : List Int} {n q : Nat} (hq : q < cntN zs) (h : ∀ i, i < n → (numL zs (playS zs i)).toNat ≠ q) : nth (camL zs n) q = -1 := by
  induction n with
  | zero => simp [camL, nth, hq]
  | succ n ih =>
    unfold camL
    rw [nth_set (by rw [camL_length]; exact hq), if_neg (h n (by omega))]
    exact ih fun i hi => h i (by omega)
/-- the n-th state has come before, or not -/
theorem cam_case {zs : List Int} (hp : Pos zs) (hc : CanL zs) {n : Nat} (hf : Fresh zs n) :
    (∃ a, a < n ∧ Again zs a n ∧ nth (camL zs n) (numL zs (playS zs n)).toNat = (a : Int)) ∨ (Fresh zs (n + 1) ∧ nth (camL zs n) (numL zs (playS zs n)).toNat = -1) := by
  by_cases h : ∃ i, i < n ∧ playS zs i = playS zs n
  · obtain ⟨i, hi, e⟩ := h
    refine .inl ⟨i, hi, ⟨hf, hi, e⟩, ?_⟩
    rw [← e]; exact camL_at hp hc hf i hi
  · have hn : ∀ i, i < n → playS zs i ≠ playS zs n := fun i hi e => h ⟨i, hi, e⟩
    refine .inr ⟨fresh_next hf hn, ?_⟩
    have h2 := numL_bd (playS_ok hp hc n).1
    have h3 := cntL_cntN hp
    refine camL_not (by omega) fun i hi e => ?_
    have h1 := numL_bd (playS_ok hp hc i).1
    have e3 : numL zs (playS zs i) = numL zs (playS zs n) := by omega
    have e4 := ofL_numL (playS_ok hp hc i).1
    rw [e3, ofL_numL (playS_ok hp hc n).1] at e4
    exact hn i hi e4.symm
def lenV : Value → Nat
  | .slice _ n _ => n
  | _ => 0

end Go.Proofs.Ytieobjoijalijaa
