/-
  The mathematics of classes, lists of pairs of a rest and a gap: who meets, who is apart, which class has a slot, the least open slot, the turns of classes, splits.
-/
namespace Go.Proofs.Ytbhpflhopajbfaa

/-- class k's rest, class k's gap (0 past the end) -/
def rst (cs : List (Int × Int)) (k : Nat) : Int := (cs[k]?.getD (0, 0)).1
def gp (cs : List (Int × Int)) (k : Nat) : Int := (cs[k]?.getD (0, 0)).2
/-- what classes are, number by number -/
def Clss (cs : List (Int × Int)) : Prop := ∀ k, k < cs.length → 1 ≤ gp cs k ∧ gp cs k ≤ 40 ∧ 0 ≤ rst cs k ∧ rst cs k < gp cs k

/-! ### meeting -/
def gcdC (cs : List (Int × Int)) (i k : Nat) : Nat := Nat.gcd (gp cs i).toNat (gp cs k).toNat
/-- has some slot both classes? -/
def meets (cs : List (Int × Int)) (i k : Nat) : Bool := decide ((rst cs i - rst cs k).tmod (gcdC cs i k : Int) = 0)
def apartB (cs : List (Int × Int)) : Bool := decide (∀ i, i < cs.length → ∀ k, k < i → meets cs i k = false)
theorem apart_yes {cs : List (Int × Int)} (h : ∀ i, i < cs.length → ∀ k, k < i → meets cs i k = false) : apartB cs = true := decide_eq_true h
theorem apart_no {cs : List (Int × Int)} {i k : Nat} (hi : i < cs.length) (hk : k < i) (h : meets cs i k = true) : apartB cs = false :=
  decide_eq_false fun ha => by rw [ha i hi k hk] at h; cases h
theorem apart_at {cs : List (Int × Int)} (h : apartB cs = true) {i k : Nat} (hi : i < cs.length) (hk : k < i) : meets cs i k = false := of_decide_eq_true h i hi k hk
theorem meets_iff {cs : List (Int × Int)} {i k : Nat} : meets cs i k = true ↔ (gcdC cs i k : Int) ∣ rst cs i - rst cs k := by
  unfold meets
  rw [decide_eq_true_iff, ← Int.dvd_iff_tmod_eq_zero]
/-- a class has a slot -/
def hasB (cs : List (Int × Int)) (i n : Nat) : Bool := decide ((n : Int) % gp cs i = rst cs i)
theorem meets_of {cs : List (Int × Int)} {i k n : Nat} (hi : 0 ≤ gp cs i) (hk : 0 ≤ gp cs k) (h1 : hasB cs i n = true) (h2 : hasB cs k n = true) : meets cs i k = true := by
  have e1 := of_decide_eq_true h1
  have e2 := of_decide_eq_true h2
  have d1 : (gcdC cs i k : Int) ∣ gp cs i := by
    have h := Int.natCast_dvd_natCast.2 (Nat.gcd_dvd_left (gp cs i).toNat (gp cs k).toNat)
    rwa [Int.toNat_of_nonneg hi] at h
  have d2 : (gcdC cs i k : Int) ∣ gp cs k := by
    have h := Int.natCast_dvd_natCast.2 (Nat.gcd_dvd_right (gp cs i).toNat (gp cs k).toNat)
    rwa [Int.toNat_of_nonneg hk] at h
  have f1 := Int.dvd_trans d1 (Int.dvd_self_sub_emod (x := (n : Int)) (m := gp cs i))
  have f2 := Int.dvd_trans d2 (Int.dvd_self_sub_emod (x := (n : Int)) (m := gp cs k))
  rw [meets_iff, ← e1, ← e2]
  have := Int.dvd_sub f2 f1
  rwa [show (n : Int) - (n : Int) % gp cs k - ((n : Int) - (n : Int) % gp cs i) = (n : Int) % gp cs i - (n : Int) % gp cs k by omega] at this

/-! ### which class has a slot -/
/-- the first class below m that has a slot, -1 if there is none -/
def inTo (cs : List (Int × Int)) : Nat → Nat → Int
  | 0, _ => -1
  | m + 1, n => if inTo cs m n = -1 then (if hasB cs m n then (m : Int) else -1) else inTo cs m n
def inC (cs : List (Int × Int)) (n : Nat) : Int := inTo cs cs.length n
theorem inTo_none {cs : List (Int × Int)} {m n : Nat} (h : ∀ j, j < m → hasB cs j n = false) : inTo cs m n = -1 := by
  induction m with
  | zero => rfl
  | succ m ih =>
    have h1 := ih (fun j hj => h j (by omega))
    simp [inTo, h1, h m (by omega)]
theorem inTo_hit {cs : List (Int × Int)} {m n i : Nat} (him : i < m) (h : ∀ j, j < i → hasB cs j n = false) (hi : hasB cs i n = true) : inTo cs m n = i := by
  induction m with
  | zero => omega
  | succ m ih =>
    by_cases e : i = m
    · subst e
      simp [inTo, inTo_none h, hi]
    · have := ih (by omega)
      have h2 : ¬ inTo cs m n = -1 := by omega
      unfold inTo
      rw [if_neg h2, this]
theorem inTo_cases (cs : List (Int × Int)) (m n : Nat) : (inTo cs m n = -1 ∧ ∀ j, j < m → hasB cs j n = false) ∨ ∃ i, i < m ∧ inTo cs m n = i ∧ hasB cs i n = true ∧ ∀ j, j < i → hasB cs j n = false := by
  induction m with
  | zero => exact .inl ⟨rfl, by omega⟩
  | succ m ih =>
    rcases ih with ⟨h1, h2⟩ | ⟨i, h1, h2, h3, h4⟩
    · cases hm : hasB cs m n
      · exact .inl ⟨by simp [inTo, h1, hm], fun j hj => by by_cases e : j = m; exact e ▸ hm; exact h2 j (by omega)⟩
      · exact .inr ⟨m, by omega, by simp [inTo, h1, hm], hm, h2⟩
    · exact .inr ⟨i, by omega, by have : ¬ inTo cs m n = -1 := by omega
                                  unfold inTo; rw [if_neg this, h2], h3, h4⟩
theorem inC_hit {cs : List (Int × Int)} {n i : Nat} (hi : i < cs.length) (h : ∀ j, j < i → hasB cs j n = false) (h1 : hasB cs i n = true) : inC cs n = i := inTo_hit hi h h1
theorem inC_none {cs : List (Int × Int)} {n : Nat} (h : ∀ j, j < cs.length → hasB cs j n = false) : inC cs n = -1 := inTo_none h
theorem inC_neg {cs : List (Int × Int)} {n : Nat} : inC cs n < 0 ↔ ∀ j, j < cs.length → hasB cs j n = false := by
  rcases inTo_cases cs cs.length n with ⟨h1, h2⟩ | ⟨i, h1, h2, h3, h4⟩
  · exact ⟨fun _ => h2, fun _ => by unfold inC; omega⟩
  · refine ⟨fun h => by unfold inC at h; omega, fun h => ?_⟩
    rw [h i h1] at h3; cases h3
theorem inC_bd (cs : List (Int × Int)) (n : Nat) : -1 ≤ inC cs n ∧ inC cs n < cs.length := by
  rcases inTo_cases cs cs.length n with ⟨h1, h2⟩ | ⟨i, h1, h2, h3, h4⟩
  · unfold inC; omega
  · unfold inC; omega
/-- the least slot below N that no class has, -1 if there is none -/
def openTo (cs : List (Int × Int)) : Nat → Int
  | 0 => -1
  | N + 1 => if openTo cs N = -1 then (if inC cs N < 0 then (N : Int) else -1) else openTo cs N
theorem openTo_none {cs : List (Int × Int)} {N : Nat} (h : ∀ n, n < N → ¬ inC cs n < 0) : openTo cs N = -1 := by
  induction N with
  | zero => rfl
  | succ N ih => simp [openTo, ih (fun n hn => h n (by omega)), h N (by omega)]
theorem openTo_hit {cs : List (Int × Int)} {N n : Nat} (hn : n < N) (h : ∀ j, j < n → ¬ inC cs j < 0) (h1 : inC cs n < 0) : openTo cs N = n := by
  induction N with
  | zero => omega
  | succ N ih =>
    by_cases e : n = N
    · subst e; simp [openTo, openTo_none h, h1]
    · have := ih (by omega)
      have h2 : ¬ openTo cs N = -1 := by omega
      unfold openTo; rw [if_neg h2, this]
theorem openTo_bd (cs : List (Int × Int)) (N : Nat) : -1 ≤ openTo cs N ∧ openTo cs N < N ∨ N = 0 ∧ openTo cs N = -1 := by
  induction N with
  | zero => exact .inr ⟨rfl, rfl⟩
  | succ N ih => left; unfold openTo; split <;> (try split) <;> omega

/-! ### the turns of classes -/
theorem inTo_step {cs : List (Int × Int)} (hc : Clss cs) (ha : apartB cs = true) {i n : Nat} (hi : i < cs.length) : inTo cs (i + 1) n = if hasB cs i n then (i : Int) else inTo cs i n := by
  cases h : hasB cs i n
  · rw [if_neg (by simp)]
    show (if inTo cs i n = -1 then (if hasB cs i n = true then (i : Int) else -1) else inTo cs i n) = inTo cs i n
    rw [h]
    by_cases e : inTo cs i n = -1
    · rw [if_pos e, e]; rfl
    · rw [if_neg e]
  · have : inTo cs i n = -1 := inTo_none fun j hj => by
      cases hj2 : hasB cs j n
      · rfl
      · have := apart_at ha hi hj
        rw [meets_of (by have := (hc i hi).1; omega) (by have := (hc j (by omega)).1; omega) h hj2] at this
        cases this
    simp [inTo, this, h]
/-- the slots of class i below s given, in turns of the classes below i -/
def midTo (cs : List (Int × Int)) (i s n : Nat) : Int := if hasB cs i n && decide (n < s) then (i : Int) else inTo cs i n
def midL (cs : List (Int × Int)) (N i s : Nat) : List Int := (List.range N).map fun n => midTo cs i s n
def turnsC (cs : List (Int × Int)) (N : Nat) : List Int := (List.range N).map fun n => inC cs n
theorem midL_length (cs : List (Int × Int)) (N i s : Nat) : (midL cs N i s).length = N := by simp [midL]
theorem turnsC_length (cs : List (Int × Int)) (N : Nat) : (turnsC cs N).length = N := by simp [turnsC]
theorem midL_start {cs : List (Int × Int)} {N : Nat} : midL cs N 0 0 = List.replicate N (-1) := by
  refine List.ext_getElem (by simp [midL]) fun k h1 h2 => ?_
  simp [midL, midTo, inTo]
theorem has_first {cs : List (Int × Int)} (hc : Clss cs) {i n : Nat} (hi : i < cs.length) (h : hasB cs i n = true) : rst cs i ≤ n := by
  have e := of_decide_eq_true h
  have := hc i hi
  rw [← e]
  exact Int.emod_le_of_nonneg_ofNat n (gp cs i)
where
  Int.emod_le_of_nonneg_ofNat (n : Nat) (g : Int) : (n : Int) % g ≤ n := by
    by_cases h : 0 ≤ g
    · obtain ⟨m, rfl⟩ := Int.eq_ofNat_of_zero_le h
      have := Nat.mod_le n m
      omega
    · obtain ⟨m, hm⟩ := Int.eq_ofNat_of_zero_le (show 0 ≤ -g by omega)
      have hg : g = -(m : Int) := by omega
      subst hg
      rw [Int.emod_neg]
      have := Nat.mod_le n m
      omega
theorem midL_first {cs : List (Int × Int)} (hc : Clss cs) {N i : Nat} (hi : i < cs.length) : midL cs N i 0 = midL cs N i (rst cs i).toNat := by
  refine List.ext_getElem (by simp [midL]) fun k h1 h2 => ?_
  simp only [midL, List.getElem_map, List.getElem_range, midTo]
  cases h : hasB cs i k
  · simp
  · have := has_first hc hi h
    have h2 : ¬ k < (rst cs i).toNat := by omega
    simp [h2]
theorem midL_set {cs : List (Int × Int)} (hc : Clss cs) {N i s : Nat} (hi : i < cs.length) (hs : hasB cs i s = true) :
    midL cs N i (s + (gp cs i).toNat) = (midL cs N i s).set s (i : Int) := by
  refine List.ext_getElem (by simp [midL]) fun k h1 h2 => ?_
  have hk : k < N := by simpa [midL] using h1
  have hg := hc i hi
  rw [List.getElem_set]
  simp only [midL, List.getElem_map, List.getElem_range, midTo]
  by_cases e : s = k
  · subst e
    rw [if_pos rfl, hs]
    have : s < s + (gp cs i).toNat := by omega
    simp [this]
  · rw [if_neg e]
    cases h : hasB cs i k
    · simp
    · have e1 := of_decide_eq_true h
      have e2 := of_decide_eq_true hs
      have : (k < s + (gp cs i).toNat) ↔ (k < s) := by
        refine ⟨fun h3 => ?_, fun h3 => by omega⟩
        by_cases h4 : k < s
        · exact h4
        · exfalso
          have h5 : ((k : Int) - s) % gp cs i = 0 := by
            have := Int.sub_emod (k : Int) (s : Int) (gp cs i)
            rw [this, e1, e2]; simp
          have h6 : (k : Int) - s < gp cs i := by omega
          rw [Int.emod_eq_of_lt (by omega) h6] at h5
          omega
      simp only [this]
theorem has_next {cs : List (Int × Int)} (hc : Clss cs) {i s : Nat} (hi : i < cs.length) (h : hasB cs i s = true) : hasB cs i (s + (gp cs i).toNat) = true := by
  have hg := hc i hi
  refine decide_eq_true ?_
  rw [← of_decide_eq_true h]
  have : ((s + (gp cs i).toNat : Nat) : Int) = (s : Int) + gp cs i := by omega
  rw [this]; simp
theorem has_rst {cs : List (Int × Int)} (hc : Clss cs) {i : Nat} (hi : i < cs.length) : hasB cs i (rst cs i).toNat = true := by
  have hg := hc i hi
  refine decide_eq_true ?_
  have : (((rst cs i).toNat : Nat) : Int) = rst cs i := by omega
  rw [this]
  exact Int.emod_eq_of_lt (by omega) (by omega)
theorem midL_end {cs : List (Int × Int)} (hc : Clss cs) (ha : apartB cs = true) {N i s : Nat} (hi : i < cs.length) (hs : N ≤ s) : midL cs N i s = midL cs N (i + 1) 0 := by
  refine List.ext_getElem (by simp [midL]) fun k h1 h2 => ?_
  have hk : k < N := by simpa [midL] using h1
  simp only [midL, List.getElem_map, List.getElem_range, midTo]
  rw [inTo_step hc ha hi]
  have : k < s := by omega
  cases h : hasB cs i k <;> simp [this]
theorem midL_all (cs : List (Int × Int)) (N : Nat) : midL cs N cs.length 0 = turnsC cs N := by
  refine List.ext_getElem (by simp [midL, turnsC]) fun k h1 h2 => ?_
  simp [midL, midTo, turnsC, inC]

/-! ### splits -/
/-- the first k parts of class i split by m -/
def partsTo (r g m : Int) (k : Nat) : List (Int × Int) := (List.range k).map fun (j : Nat) => (r + (j : Int) * g, m * g)
theorem partsTo_zero (r g m : Int) : partsTo r g m 0 = [] := rfl
theorem partsTo_succ (r g m : Int) (k : Nat) : partsTo r g m (k + 1) = partsTo r g m k ++ [(r + (k : Int) * g, m * g)] := by simp [partsTo, List.range_succ]
theorem partsTo_length (r g m : Int) (k : Nat) : (partsTo r g m k).length = k := by simp [partsTo]
def splitL (cs : List (Int × Int)) (i m : Nat) : List (Int × Int) := cs.take i ++ partsTo (rst cs i) (gp cs i) m m ++ cs.drop (i + 1)

end Go.Proofs.Ytbhpflhopajbfaa
