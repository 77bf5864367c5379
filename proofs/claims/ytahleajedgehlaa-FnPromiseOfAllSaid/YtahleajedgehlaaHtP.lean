/-
  Harmonic turns serve: each task's slots are a class of its gap. (Mathematics for the laws on harmonic turns.)
-/
import Derived.Test.YtahleajedgehlaaHtM
import Derived.Test.YtahleajedgehlaaWaitsI
namespace Go.Proofs.Ytahleajedgehlaa
open Go.RowKit Go.Shelf

theorem nth_setF {l : List Int} {s t : Nat} {i : Int} (hs : s < l.length) : nth (l.set s i) t = if s = t then i else nth l t := by
  unfold nth
  rw [List.getElem?_set]
  by_cases e : s = t
  · subst e; simp [hs]
  · simp [e]
theorem putF_nth {g : Nat} (hg : 0 < g) (i : Int) : ∀ (n : Nat) (l : List Int) (s t : Nat), l.length ≤ s + n → t < l.length → nth (putF n l i g s) t = if s ≤ t ∧ (t - s) % g = 0 then i else nth l t
  | 0, l, s, t, hn, ht => by
    rw [if_neg (by omega)]; rfl
  | n + 1, l, s, t, hn, ht => by
    by_cases hs : s < l.length
    · rw [putF_step hs, putF_nth hg i n (l.set s i) (s + g) t (by rw [List.length_set]; omega) (by rw [List.length_set]; exact ht), nth_setF hs]
      by_cases e : s = t
      · subst e
        rw [if_neg (by omega), if_pos rfl, if_pos ⟨Nat.le_refl _, by simp⟩]
      · rw [if_neg e]
        by_cases h1 : s + g ≤ t ∧ (t - (s + g)) % g = 0
        · have h2 : t - s = (t - (s + g)) + g := by omega
          have h3 : (t - s) % g = 0 := by rw [h2, Nat.add_mod_right]; exact h1.2
          rw [if_pos h1, if_pos ⟨by omega, h3⟩]
        · rw [if_neg h1]
          by_cases h2 : s ≤ t ∧ (t - s) % g = 0
          · exfalso
            apply h1
            have h3 : g ∣ t - s := Nat.dvd_of_mod_eq_zero h2.2
            have h4 : g ≤ t - s := Nat.le_of_dvd (by omega) h3
            refine ⟨by omega, ?_⟩
            have : t - s = (t - (s + g)) + g := by omega
            rw [this, Nat.add_mod_right] at h2
            exact h2.2
          · rw [if_neg h2]
    · rw [putF_stop hs, if_neg (by omega)]
theorem freeF_spec {l : List Int} (h : freeF l < l.length) : nth l (freeF l) = -1 ∧ ∀ m, m < freeF l → nth l m ≠ -1 := by
  induction l with
  | nil => simp at h
  | cons z l ih =>
    unfold freeF at h ⊢
    by_cases hz : z = -1
    · rw [if_pos hz] at h ⊢
      exact ⟨by simpa [nth] using hz, by omega⟩
    · rw [if_neg hz] at h ⊢
      have h1 := ih (by simpa using h)
      refine ⟨by simpa [nth] using h1.1, fun m hm => ?_⟩
      cases m with
      | zero => simpa [nth] using hz
      | succ m => simpa [nth] using h1.2 m (by omega)

/-- what lies in the slots behind the first k tasks -/
structure Placed (l : List Int) (L : Nat) (O : Nat → Int) (G : Nat → Nat) (k : Nat) : Prop where
  len : l.length = L
  cls : ∀ m, m < k → ∃ r, r < G m ∧ ∀ s, s < L → (nth l s = O m ↔ s % G m = r)
  own : ∀ s, s < L → nth l s = -1 ∨ ∃ m, m < k ∧ nth l s = O m
  per : ∀ s t, s < L → t < L → (∀ m, m < k → s % G m = t % G m) → nth l s = nth l t
theorem placed_zero (L : Nat) (O : Nat → Int) (G : Nat → Nat) : Placed (List.replicate L (-1)) L O G 0 := by
  have h : ∀ s, s < L → nth (List.replicate L (-1 : Int)) s = -1 := fun s hs => by simp [nth, hs]
  exact ⟨by simp, by omega, fun s hs => .inl (h s hs), fun s t hs ht _ => by rw [h s hs, h t ht]⟩
theorem placed_step {l : List Int} {L : Nat} {O : Nat → Int} {G : Nat → Nat} {k : Nat} (h : Placed l L O G k) (hg : 0 < G k) (hd : ∀ m, m < k → G m ∣ G k) (hinj : ∀ m, m < k → O m ≠ O k) (hO : ∀ m, m ≤ k → 0 ≤ O m) (hf : freeF l < l.length) :
    Placed (takeL l (O k) (G k)) L O G (k + 1) := by
  obtain ⟨f0, f1⟩ := freeF_spec hf
  have hlen := h.len
  have same : ∀ s t, s < L → t < L → s % G k = t % G k → nth l s = nth l t := fun s t hs ht e => h.per s t hs ht fun m hm => by
    rw [← Nat.mod_mod_of_dvd s (hd m hm), ← Nat.mod_mod_of_dvd t (hd m hm), e]
  obtain ⟨f, hfe⟩ : ∃ f, freeF l = f := ⟨_, rfl⟩
  rw [hfe] at hf f0 f1
  have hfl : f < L := by omega
  have hfg : f < G k := by
    by_cases e : f < G k
    · exact e
    · exfalso
      have hm := Nat.mod_lt f hg
      have := same (f % G k) f (by omega) hfl (Nat.mod_mod _ _)
      exact f1 (f % G k) (by omega) (by rw [this, f0])
  have at_ : ∀ t, t < L → nth (takeL l (O k) (G k)) t = if t % G k = f then O k else nth l t := fun t ht => by
    unfold takeL
    rw [hfe, putF_nth hg _ _ _ _ _ (by omega) (by omega)]
    by_cases e : t % G k = f
    · have hle : f ≤ t := by have := Nat.mod_le t (G k); omega
      have h1 := Nat.div_add_mod t (G k)
      rw [e] at h1
      have h2 : t - f = G k * (t / G k) := by omega
      have h3 : (t - f) % G k = 0 := by rw [h2]; exact Nat.mul_mod_right _ _
      rw [if_pos e, if_pos ⟨hle, h3⟩]
    · rw [if_neg e, if_neg]
      rintro ⟨h1, h2⟩
      apply e
      have h3 := Nat.div_add_mod (t - f) (G k)
      rw [h2] at h3
      have : t = f + G k * ((t - f) / G k) := by omega
      rw [this, Nat.add_mul_mod_self_left, Nat.mod_eq_of_lt hfg]
  have free : ∀ t, t < L → t % G k = f → nth l t = -1 := fun t ht e => by
    rw [same t f ht hfl (by rw [e, Nat.mod_eq_of_lt hfg]), f0]
  refine ⟨by rw [takeL_length]; exact hlen, fun m hm => ?_, fun s hs => ?_, fun s t hs ht e => ?_⟩
  · by_cases e : m = k
    · subst e
      refine ⟨f, hfg, fun s hs => ?_⟩
      rw [at_ s hs]
      by_cases e2 : s % G m = f
      · simp [e2]
      · rw [if_neg e2]
        refine ⟨fun h2 => ?_, fun h2 => absurd h2 e2⟩
        rcases h.own s hs with h3 | ⟨q, hq, h3⟩
        · have := hO m (Nat.le_refl _); omega
        · exact absurd (h3.symm.trans h2) (hinj q hq)
    · obtain ⟨r, hr, hc⟩ := h.cls m (by omega)
      refine ⟨r, hr, fun s hs => ?_⟩
      rw [at_ s hs]
      by_cases e2 : s % G k = f
      · rw [if_pos e2]
        have h2 := free s hs e2
        have hmne := hinj m (by omega)
        refine ⟨fun h3 => absurd h3.symm hmne, fun h3 => ?_⟩
        have h4 := (hc s hs).2 h3
        have h5 : nth l s = -1 := h2
        have h6 := hO m (by omega)
        omega
      · rw [if_neg e2]; exact hc s hs
  · rw [at_ s hs]
    by_cases e2 : s % G k = f
    · exact .inr ⟨k, by omega, by rw [if_pos e2]⟩
    · rw [if_neg e2]
      rcases h.own s hs with h3 | ⟨q, hq, h3⟩
      · exact .inl h3
      · exact .inr ⟨q, by omega, h3⟩
  · rw [at_ s hs, at_ t ht, e k (by omega)]
    by_cases e2 : t % G k = f
    · rw [if_pos e2, if_pos e2]
    · rw [if_neg e2, if_neg e2]
      exact h.per s t hs ht fun m hm => e m (by omega)

theorem ordTo_inj (zs : List Int) (k : Nat) : ∀ a b, a < b → b < k → nth (ordTo zs k) a ≠ nth (ordTo zs k) b := by
  induction k with
  | zero => intro a b _ h; omega
  | succ k ih =>
    intro a b hab hb
    have hl := ordTo_length zs k
    show nth (insAt (ordTo zs k) (posOf zs (ordTo zs k) k k) k) a ≠ nth (insAt (ordTo zs k) (posOf zs (ordTo zs k) k k) k) b
    have hp := posOf_le zs (ordTo zs k) k k
    rw [nth_insAt (by omega), nth_insAt (by omega)]
    have bd := fun m (h : m < k) => ordTo_bd zs k h
    generalize posOf zs (ordTo zs k) k k = p at hp
    unfold insN
    by_cases h1 : a < p
    · rw [if_pos h1]
      by_cases h2 : b < p
      · rw [if_pos h2]; exact ih a b hab (by omega)
      · rw [if_neg h2]
        by_cases h3 : b = p
        · rw [if_pos h3]; have := bd a (by omega); omega
        · rw [if_neg h3]; exact ih a (b - 1) (by omega) (by omega)
    · rw [if_neg h1, if_neg (show ¬ b < p by omega)]
      by_cases h3 : a = p
      · rw [if_pos h3, if_neg (by omega)]; have := bd (b - 1) (by omega); omega
      · rw [if_neg h3, if_neg (by omega)]; exact ih (a - 1) (b - 1) (by omega) (by omega)
/-- the order and the gaps of harmonic turns -/
def oF (zs : List Int) (m : Nat) : Int := nth (ordTo zs zs.length) m
def gF (zs : List Int) (m : Nat) : Nat := (gapAt zs (ordTo zs zs.length) m).toNat
def lenF (zs : List Int) : Nat := (nth (sortV zs) (zs.length - 1)).toNat
theorem harm_placed {zs : List Int} (hp : ∀ k, k < zs.length → 1 ≤ nth zs k ∧ nth zs k ≤ 40) (hh : harmB zs = true) {k : Nat} (hk : k ≤ zs.length) {l : List Int} (h : harmTo zs (ordTo zs zs.length) (lenF zs) k = some l) :
    Placed l (lenF zs) (oF zs) (gF zs) k := by
  have hc := harm_chain (fun k hk => (hp k hk).1) hh
  have hpos : ∀ m, m < zs.length → 1 ≤ gapAt zs (ordTo zs zs.length) m := fun m hm => by
    have := (sortV_pos hp hm).1
    rwa [nth_sortV hm] at this
  induction k generalizing l with
  | zero =>
    have : l = List.replicate (lenF zs) (-1) := by simpa [harmTo] using h.symm
    subst this
    exact placed_zero _ _ _
  | succ k ih =>
    cases h1 : harmTo zs (ordTo zs zs.length) (lenF zs) k with
    | none => rw [harmTo_none (Nat.le_succ k) h1] at h; cases h
    | some l0 =>
      have hpl := ih (by omega) h1
      by_cases hf : freeF l0 < l0.length
      · rw [harmTo_some h1 hf] at h
        cases h
        refine placed_step hpl ?_ (fun m hm => ?_) (fun m hm => ordTo_inj zs zs.length m k hm (by omega)) (fun m hm => (ordTo_bd zs zs.length (show m < zs.length by omega)).1) hf
        · have := hpos k (by omega)
          unfold gF; omega
        · have h2 := chain_dvd hc (a := m) (b := k) (by omega) (by omega)
          rw [nth_sortV (by omega), nth_sortV (by omega)] at h2
          have h3 := hpos m (by omega)
          have h4 := hpos k (by omega)
          have h5 := Int.natAbs_dvd_natAbs.2 h2
          unfold gF
          rwa [show (gapAt zs (ordTo zs zs.length) m).toNat = (gapAt zs (ordTo zs zs.length) m).natAbs by omega, show (gapAt zs (ordTo zs zs.length) k).toNat = (gapAt zs (ordTo zs zs.length) k).natAbs by omega]
      · rw [harmTo_stop h1 hf] at h; cases h
/-- THE SLOTS OF EACH TASK IN HARMONIC TURNS ARE A CLASS OF ITS GAP. -/
theorem harm_class {zs : List Int} (hp : ∀ k, k < zs.length → 1 ≤ nth zs k ∧ nth zs k ≤ 40) (hh : harmB zs = true) {l : List Int} (h : harmT zs = some l) :
    l.length = lenF zs ∧ (∀ s, s < l.length → nth l s = -1 ∨ ∃ i : Nat, i < zs.length ∧ nth l s = i) ∧
    ∀ i, i < zs.length → ∃ r c, r < (nth zs i).toNat ∧ 0 < c ∧ l.length = c * (nth zs i).toNat ∧ ∀ s, s < l.length → (nth l s = (i : Int) ↔ s % (nth zs i).toNat = r) := by
  have hpl := harm_placed hp hh (Nat.le_refl _) h
  have hlen := hpl.len
  refine ⟨hlen, fun s hs => ?_, fun i hi => ?_⟩
  · rcases hpl.own s (by omega) with h1 | ⟨m, hm, h1⟩
    · exact .inl h1
    · have hb := ordTo_bd zs zs.length hm
      exact .inr ⟨(oF zs m).toNat, by unfold oF; omega, by rw [h1]; unfold oF; omega⟩
  · obtain ⟨m, hm, he⟩ := ordTo_has zs zs.length i hi
    obtain ⟨r, hr, hc⟩ := hpl.cls m hm
    have hg : gF zs m = (nth zs i).toNat := by unfold gF gapAt; rw [he]; rfl
    have ho : oF zs m = (i : Int) := he
    rw [hg] at hr
    have hch := harm_chain (fun k hk => (hp k hk).1) hh
    have hd := chain_dvd hch (a := m) (b := zs.length - 1) (by omega) (by omega)
    have hsm : nth (sortV zs) m = nth zs i := by rw [nth_sortV hm]; unfold gapAt; rw [he]; rfl
    rw [hsm] at hd
    have hgi := hp i hi
    have hL := sortV_pos hp (m := zs.length - 1) (by omega)
    have hd2 := Int.natAbs_dvd_natAbs.2 hd
    rw [show (nth zs i).natAbs = (nth zs i).toNat by omega, show (nth (sortV zs) (zs.length - 1)).natAbs = lenF zs by unfold lenF; omega] at hd2
    obtain ⟨c, hcc⟩ := hd2
    refine ⟨r, c, hr, ?_, by rw [hlen, hcc, Nat.mul_comm], fun s hs => ?_⟩
    · rcases Nat.eq_zero_or_pos c with e | e
      · subst e
        have : lenF zs = 0 := by rw [hcc]; simp
        unfold lenF at this
        omega
      · exact e
    · have := hc s (by omega)
      rwa [ho, hg] at this

/-! ### waits of a class -/
theorem filter_class {g r : Nat} (hr : r < g) : ∀ c : Nat, (List.range (c * g)).filter (fun s => s % g == r) = (List.range c).map fun j => r + j * g
  | 0 => by simp
  | c + 1 => by
    rw [Nat.add_mul, Nat.one_mul, List.range_add, List.filter_append, filter_class hr c, List.range_succ, List.map_append]
    congr 1
    rw [List.filter_map]
    have h1 : ((fun s => s % g == r) ∘ fun x => c * g + x) = fun x : Nat => x % g == r := by
      funext x
      simp only [Function.comp]
      rw [Nat.add_comm, Nat.add_mul_mod_self_right]
    rw [h1]
    have h2 : (List.range g).filter (fun x => x % g == r) = [r] := by
      have h3 : (List.range g).filter (fun x => x % g == r) = (List.range g).filter (fun x => x == r) := List.filter_congr fun x hx => by
        rw [Nat.mod_eq_of_lt (by simpa using hx)]
      rw [h3]
      have h4 : ∀ n, r < n → (List.range n).filter (fun x => x == r) = [r] := fun n => by
        induction n with
        | zero => intro h; omega
        | succ n ih =>
          intro h
          rw [List.range_succ, List.filter_append]
          by_cases e : r = n
          · subst e
            rw [show (List.range r).filter (fun x => x == r) = [] from List.filter_eq_nil_iff.2 fun x hx => by simp at hx; simp; omega]
            simp
          · rw [ih (by omega)]
            simp
            omega
      exact h4 g hr
    rw [h2]
    simp [Nat.add_comm]

end Go.Proofs.Ytahleajedgehlaa
