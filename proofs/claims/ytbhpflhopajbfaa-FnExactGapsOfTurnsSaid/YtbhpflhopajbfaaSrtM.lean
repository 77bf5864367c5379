/-
  Sorted gaps: ascending, the same numbers; harmonic gaps: any two of them exactly if those side by side (no program).
-/
import Derived.Test.YtbhpflhopajbfaaOrd
namespace Go.Proofs.Ytbhpflhopajbfaa
open Go.RowKit Go.Shelf

/-- the numbers in ascending order -/
def sortV (zs : List Int) : List Int := gapsBy zs (ordTo zs zs.length) zs.length
theorem sortV_length (zs : List Int) : (sortV zs).length = zs.length := gapsBy_length _ _ _
theorem nth_gapsBy {zs o : List Int} {k m : Nat} (h : m < k) : nth (gapsBy zs o k) m = gapAt zs o m := by simp [nth, gapsBy, h]
theorem nth_sortV {zs : List Int} {m : Nat} (h : m < zs.length) : nth (sortV zs) m = gapAt zs (ordTo zs zs.length) m := nth_gapsBy h
theorem posOf_spec (zs o : List Int) (x j : Nat) : (∀ m, posOf zs o x j ≤ m → m < j → nth zs x < gapAt zs o m) ∧ (∀ m, m + 1 = posOf zs o x j → gapAt zs o m ≤ nth zs x) := by
  induction j with
  | zero => exact ⟨fun m _ h => by omega, fun m h => by simp [posOf] at h⟩
  | succ j ih =>
    by_cases h : nth zs x < gapAt zs o j
    · rw [posOf_yes h]
      refine ⟨fun m h1 h2 => ?_, ih.2⟩
      by_cases e : m = j
      · subst e; exact h
      · exact ih.1 m h1 (by omega)
    · rw [posOf_no h]
      refine ⟨fun m h1 h2 => by omega, fun m e => ?_⟩
      obtain rfl : m = j := by omega
      omega
theorem gapAt_succ {zs : List Int} {k m : Nat} (h : m < k + 1) : gapAt zs (ordTo zs (k + 1)) m =
    if m < posOf zs (ordTo zs k) k k then gapAt zs (ordTo zs k) m else if m = posOf zs (ordTo zs k) k k then nth zs k else gapAt zs (ordTo zs k) (m - 1) := by
  unfold gapAt
  rw [ordTo, nth_insAt (by rw [ordTo_length]; exact h)]
  unfold insN
  split
  · rfl
  · split
    · rw [show ((k : Nat) : Int).toNat = k by simp]
    · rfl
theorem gapAt_sorted (zs : List Int) (k : Nat) : ∀ a b, a < b → b < k → gapAt zs (ordTo zs k) a ≤ gapAt zs (ordTo zs k) b := by
  induction k with
  | zero => intro a b _ h; omega
  | succ k ih =>
    intro a b hab hb
    obtain ⟨h1, h2⟩ := posOf_spec zs (ordTo zs k) k k
    have hp := posOf_le zs (ordTo zs k) k k
    rw [gapAt_succ (by omega), gapAt_succ hb]
    generalize posOf zs (ordTo zs k) k k = p at *
    by_cases ha : a < p
    · rw [if_pos ha]
      have hle : gapAt zs (ordTo zs k) a ≤ nth zs k := by
        have hx := h2 (p - 1) (by omega)
        by_cases e : a = p - 1
        · rw [e]; exact hx
        · exact Int.le_trans (ih a (p - 1) (by omega) (by omega)) hx
      by_cases hb2 : b < p
      · rw [if_pos hb2]; exact ih a b hab (by omega)
      · rw [if_neg hb2]
        by_cases e : b = p
        · rw [if_pos e]; exact hle
        · rw [if_neg e]
          have := h1 (b - 1) (by omega) (by omega)
          omega
    · rw [if_neg ha, if_neg (show ¬ b < p by omega), if_neg (show ¬ b = p by omega)]
      by_cases e : a = p
      · rw [if_pos e]
        have := h1 (b - 1) (by omega) (by omega)
        omega
      · rw [if_neg e]
        exact ih (a - 1) (b - 1) (by omega) (by omega)
theorem ordTo_has (zs : List Int) (k : Nat) : ∀ i, i < k → ∃ m, m < k ∧ nth (ordTo zs k) m = (i : Int) := by
  induction k with
  | zero => intro i h; omega
  | succ k ih =>
    intro i hi
    have hp := posOf_le zs (ordTo zs k) k k
    by_cases e : i = k
    · refine ⟨posOf zs (ordTo zs k) k k, by omega, ?_⟩
      rw [ordTo, nth_insAt (by rw [ordTo_length]; omega)]
      unfold insN
      rw [if_neg (by omega), if_pos rfl, e]
    · obtain ⟨m, hm, he⟩ := ih i (by omega)
      by_cases hlt : m < posOf zs (ordTo zs k) k k
      · refine ⟨m, by omega, ?_⟩
        rw [ordTo, nth_insAt (by rw [ordTo_length]; omega)]
        unfold insN
        rw [if_pos hlt, he]
      · refine ⟨m + 1, by omega, ?_⟩
        rw [ordTo, nth_insAt (by rw [ordTo_length]; omega)]
        unfold insN
        rw [if_neg (by omega), if_neg (by omega), show m + 1 - 1 = m by omega, he]
theorem sortV_le {zs : List Int} {a b : Nat} (hab : a ≤ b) (hb : b < zs.length) : nth (sortV zs) a ≤ nth (sortV zs) b := by
  by_cases e : a = b
  · subst e; omega
  · rw [nth_sortV (by omega), nth_sortV hb]; exact gapAt_sorted zs _ a b (by omega) hb
theorem sortV_has {zs : List Int} {i : Nat} (h : i < zs.length) : ∃ m, m < zs.length ∧ nth (sortV zs) m = nth zs i := by
  obtain ⟨m, hm, he⟩ := ordTo_has zs zs.length i h
  refine ⟨m, hm, ?_⟩
  rw [nth_sortV hm]; unfold gapAt; rw [he]; simp
theorem sortV_from {zs : List Int} {m : Nat} (h : m < zs.length) : ∃ i, i < zs.length ∧ nth (sortV zs) m = nth zs i := by
  have := ordTo_bd zs zs.length h
  exact ⟨(nth (ordTo zs zs.length) m).toNat, by omega, nth_sortV h⟩

/-! ### harmonic gaps -/
def harmP (a b : Int) : Bool := b % a == 0 || a % b == 0
/-- of any two gaps one divides the other one -/
def harmB (zs : List Int) : Bool := (List.range zs.length).all fun i => (List.range i).all fun k => harmP (nth zs k) (nth zs i)
def chainTo (zs : List Int) (k : Nat) : Prop := ∀ m, m + 1 < k → nth zs (m + 1) % nth zs m = 0
theorem harmB_true {zs : List Int} : harmB zs = true ↔ ∀ i k, i < zs.length → k < i → harmP (nth zs k) (nth zs i) = true := by
  unfold harmB
  simp only [List.all_eq_true, List.mem_range]
  exact ⟨fun h i k hi hk => h i hi k hk, fun h i hi k hk => h i k hi hk⟩
theorem harmB_false {zs : List Int} {i k : Nat} (hi : i < zs.length) (hk : k < i) (h : harmP (nth zs k) (nth zs i) = false) : harmB zs = false := by
  cases e : harmB zs
  · rfl
  · rw [harmB_true.1 e i k hi hk] at h; cases h
theorem chain_dvd {zs : List Int} {n : Nat} (h : chainTo zs n) {a b : Nat} (hab : a ≤ b) (hb : b < n) : nth zs a ∣ nth zs b := by
  induction b with
  | zero => obtain rfl : a = 0 := by omega
            exact Int.dvd_refl _
  | succ b ih =>
    by_cases e : a = b + 1
    · subst e; exact Int.dvd_refl _
    · exact Int.dvd_trans (ih (by omega) (by omega)) (Int.dvd_of_emod_eq_zero (h b hb))
theorem chain_harm {zs : List Int} (h : chainTo (sortV zs) zs.length) : harmB zs = true := by
  rw [harmB_true]
  intro i k hi hk
  obtain ⟨a, ha, ea⟩ := sortV_has hi
  obtain ⟨b, hb, eb⟩ := sortV_has (show k < zs.length by omega)
  unfold harmP
  rw [← ea, ← eb]
  by_cases hab : a ≤ b
  · have := Int.emod_eq_zero_of_dvd (chain_dvd h hab hb); simp [this]
  · have := Int.emod_eq_zero_of_dvd (chain_dvd h (show b ≤ a by omega) ha); simp [this]
theorem harm_chain {zs : List Int} (hp : ∀ k, k < zs.length → 1 ≤ nth zs k) (h : harmB zs = true) : chainTo (sortV zs) zs.length := by
  intro m hm
  obtain ⟨i, hi, ei⟩ := sortV_from (show m < zs.length by omega)
  obtain ⟨j, hj, ej⟩ := sortV_from hm
  have hle := sortV_le (zs := zs) (show m ≤ m + 1 by omega) hm
  have h1 := hp i hi
  have h2 := hp j hj
  rw [ei, ej] at hle ⊢
  have hd : nth zs j % nth zs i = 0 ∨ nth zs i % nth zs j = 0 := by
    rw [harmB_true] at h
    by_cases e : i = j
    · subst e; left; simp
    · by_cases hlt : i < j
      · have := h j i hj hlt; unfold harmP at this; simpa using this
      · have := h i j hi (by omega); unfold harmP at this; simp at this; omega
  rcases hd with hd | hd
  · exact hd
  · have : nth zs j ∣ nth zs i := Int.dvd_of_emod_eq_zero hd
    have := Int.le_of_dvd (by omega) this
    rw [show nth zs j = nth zs i by omega]; simp
theorem harm_false {zs : List Int} (hp : ∀ k, k < zs.length → 1 ≤ nth zs k) {m : Nat} (hm : m + 1 < zs.length) (h : nth (sortV zs) (m + 1) % nth (sortV zs) m ≠ 0) : harmB zs = false := by
  cases e : harmB zs
  · rfl
  · exact absurd (harm_chain hp e m hm) h
theorem sortV_pos {zs : List Int} (hp : ∀ k, k < zs.length → 1 ≤ nth zs k ∧ nth zs k ≤ 40) {m : Nat} (hm : m < zs.length) : 1 ≤ nth (sortV zs) m ∧ nth (sortV zs) m ≤ 40 := by
  obtain ⟨i, hi, e⟩ := sortV_from hm
  rw [e]; exact hp i hi

/-! ### the list while the number k goes down: at place j now -/
def valI (zs : List Int) (o : List Int) : List Int := o.map fun i => nth zs i.toNat
theorem valI_length (zs o : List Int) : (valI zs o).length = o.length := by simp [valI]
theorem nth_valI {zs o : List Int} {m : Nat} (h : m < o.length) : nth (valI zs o) m = nth zs (nth o m).toNat := by
  rw [nth_lt h]; simp [nth, valI, h]
theorem valI_set (zs o : List Int) (j : Nat) (x : Int) : valI zs (o.set j x) = (valI zs o).set j (nth zs x.toNat) := by
  unfold valI; rw [List.map_set]
theorem valI_start (zs : List Int) : valI zs (stI zs zs.length 1) = zs := by
  rw [stI_zero]
  refine ext_nth (by simp [valI]) fun m hm => ?_
  simp [valI] at hm
  rw [nth_valI (by simpa using hm)]
  congr 1
  simp [nth, hm]
theorem valI_end (zs : List Int) : valI zs (stI zs zs.length zs.length) = sortV zs := by
  rw [stI_all]
  refine ext_nth (by rw [valI_length, ordTo_length, sortV_length]) fun m hm => ?_
  rw [valI_length, ordTo_length] at hm
  rw [nth_valI (by rw [ordTo_length]; exact hm), nth_sortV hm]; rfl

end Go.Proofs.Ytbhpflhopajbfaa
