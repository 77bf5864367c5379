/-
  Waits and means, mathematics: the first place of a number in a list, waits for some tasks from a slot on, sums of waits, means as fractions in lowest terms.
  Conditions: none but those that stand at each lemma.
-/
import Derived.Test.YtgndbifcncklgaaShift
import Derived.Test.YtgndbifcncklgaaDens
namespace Go.Proofs.Ytgndbifcncklgaa
open Go.RowKit Go.Shelf

/-- the first place of v, the list's length if there is none -/
def idx (xs : List Int) (v : Int) : Nat := xs.findIdx (· == v)
theorem idx_le (xs : List Int) (v : Int) : idx xs v ≤ xs.length := List.findIdx_le_length
theorem idx_at {xs : List Int} {v : Int} {k : Nat} (hk : k < xs.length) (h : nth xs k = v) (hall : ∀ j, j < k → nth xs j ≠ v) : idx xs v = k := by
  unfold idx
  rw [List.findIdx_eq hk]
  rw [nth_lt hk] at h
  refine ⟨by simpa using h, fun j hj => ?_⟩
  have := hall j hj
  rw [nth_lt (by omega)] at this
  simpa using this
theorem idx_none {xs : List Int} {v : Int} (hall : ∀ j, j < xs.length → nth xs j ≠ v) : idx xs v = xs.length := by
  unfold idx
  rw [List.findIdx_eq_length]
  intro x hx
  obtain ⟨j, hj, rfl⟩ := List.getElem_of_mem hx
  have := hall j hj
  rw [nth_lt hj] at this
  simpa using this
theorem idx_lt {xs : List Int} {v : Int} : idx xs v < xs.length ↔ xs.contains v = true := by
  unfold idx
  rw [List.findIdx_lt_length]
  simp
theorem contains_shiftL (ts : List Int) (n : Nat) (v : Int) : (shiftL ts n).contains v = ts.contains v := by
  rw [Bool.eq_iff_iff, List.contains_iff_mem, List.contains_iff_mem]
  unfold shiftL
  rw [List.mem_append]
  conv => rhs; rw [← List.take_append_drop n ts, List.mem_append]
  exact Or.comm
def ixI (xs : List Int) (v : Int) : Int := if idx xs v < xs.length then (idx xs v : Int) else -1
theorem ixI_yes {xs : List Int} {v : Int} (h : xs.contains v = true) : ixI xs v = (idx xs v : Int) := by unfold ixI; rw [if_pos (idx_lt.2 h)]
theorem ixI_no {xs : List Int} {v : Int} (h : xs.contains v = false) : ixI xs v = -1 := by unfold ixI; rw [if_neg (by rw [idx_lt, h]; simp)]
theorem ixI_bd (xs : List Int) (v : Int) : -1 ≤ ixI xs v ∧ ixI xs v < xs.length := by unfold ixI; split <;> omega
theorem ixI_neg {xs : List Int} {v : Int} : decide (ixI xs v < 0) = !xs.contains v := by
  cases h : xs.contains v
  · rw [ixI_no h]; rfl
  · rw [ixI_yes h]; simp

/-- the wait for v at the first slot of xs, 0 if it has no turn -/
def iw (xs : List Int) (v : Int) : Nat := (ixI xs v).toNat
theorem iw_lt {xs : List Int} (h0 : 0 < xs.length) (v : Int) : iw xs v < xs.length := by have := ixI_bd xs v; unfold iw; omega
theorem ixI_iw {xs : List Int} {v : Int} (h : xs.contains v = true) : ixI xs v = (iw xs v : Int) := by unfold iw; rw [ixI_yes h]; rfl
/-- how long one waits for the first k of some tasks, at the first slot of xs -/
def waTo (xs is : List Int) : Nat → Nat
  | 0 => 0
  | k + 1 => max (waTo xs is k) (iw xs (nth is k))
def hasAll (ts is : List Int) : Bool := is.all fun i => ts.contains i
theorem hasAll_nth {ts is : List Int} (h : hasAll ts is = true) {k : Nat} (hk : k < is.length) : ts.contains (nth is k) = true := by
  unfold hasAll at h; rw [List.all_eq_true] at h; exact h _ (nth_mem hk)
/-- .. of turns shifted by s -/
def wa (ts is : List Int) (s : Nat) : Nat := waTo (shiftL ts s) is is.length
theorem waTo_lt {xs : List Int} (is : List Int) (h0 : 0 < xs.length) : ∀ (k : Nat), waTo xs is k < xs.length
  | 0 => h0
  | k + 1 => by
    have h1 := waTo_lt is h0 k
    have h2 := iw_lt h0 (nth is k)
    simp only [waTo]; omega
theorem wa_lt {ts : List Int} (is : List Int) {s : Nat} (h0 : 0 < ts.length) (hs : s ≤ ts.length) : wa ts is s < ts.length := by
  have := waTo_lt (xs := shiftL ts s) is (by rw [shiftL_length hs]; exact h0) is.length
  rwa [shiftL_length hs] at this
theorem wa_one (ts : List Int) (i : Int) (s : Nat) : wa ts [i] s = iw (shiftL ts s) i := by
  simp [wa, waTo, nth]
theorem wa_two (ts : List Int) (i j : Int) (s : Nat) : wa ts [i, j] s = max (iw (shiftL ts s) i) (iw (shiftL ts s) j) := by
  simp [wa, waTo, nth]
/-- the sum of the waits at the first k slots -/
def suW (ts is : List Int) : Nat → Nat
  | 0 => 0
  | k + 1 => suW ts is k + wa ts is k
theorem suW_le {ts : List Int} (is : List Int) (h0 : 0 < ts.length) : ∀ {k : Nat}, k ≤ ts.length → suW ts is k ≤ k * ts.length
  | 0, _ => by simp [suW]
  | k + 1, hk => by
    have h1 := suW_le is h0 (k := k) (by omega)
    have h2 := wa_lt is h0 (s := k) (by omega)
    simp only [suW, Nat.add_mul, Nat.one_mul]; omega
theorem suW_le2 {ts : List Int} (is : List Int) (h0 : 0 < ts.length) (hl : ts.length ≤ 120) {k : Nat} (hk : k ≤ ts.length) : suW ts is k ≤ 14400 := by
  have h1 := suW_le is h0 hk
  have h2 : k * ts.length ≤ 120 * 120 := Nat.mul_le_mul (by omega) hl
  omega
theorem suW_same (ts : List Int) (i : Int) (k : Nat) : suW ts [i, i] k = suW ts [i] k := by
  induction k with
  | zero => rfl
  | succ k ih => simp only [suW, ih, wa_one, wa_two, Nat.max_self]

/-! ### sums of fractions, in lowest terms at each step -/
/-- the sum of A/B times Q over the first k places -/
def fr (A B Q : Nat → Nat) : Nat → Nat × Nat
  | 0 => (0, 1)
  | k + 1 => (lowN ((fr A B Q k).1 * B k + A k * Q k * (fr A B Q k).2) ((fr A B Q k).2 * B k), lowD ((fr A B Q k).1 * B k + A k * Q k * (fr A B Q k).2) ((fr A B Q k).2 * B k))
def wtTo (Q : Nat → Nat) : Nat → Nat
  | 0 => 0
  | k + 1 => wtTo Q k + Q k
theorem fr_pos {A B Q : Nat → Nat} {n : Nat} (hB : ∀ k, k < n → 0 < B k) : ∀ {k : Nat}, k ≤ n → 0 < (fr A B Q k).2
  | 0, _ => Nat.one_pos
  | k + 1, hk => lowD_pos (Nat.mul_pos (fr_pos hB (k := k) (by omega)) (hB k (by omega)))
/-- the mean: its numerator and its denominator -/
def meN (A B Q : Nat → Nat) (n : Nat) : Nat := lowN (fr A B Q n).1 ((fr A B Q n).2 * wtTo Q n)
def meD (A B Q : Nat → Nat) (n : Nat) : Nat := lowD (fr A B Q n).1 ((fr A B Q n).2 * wtTo Q n)

/-- whole numbers: the sum of the waits -/
theorem fr_waits (ts is : List Int) (k : Nat) : fr (wa ts is) (fun _ => 1) (fun _ => 1) k = (suW ts is k, 1) := by
  induction k with
  | zero => rfl
  | succ k ih =>
    simp only [fr, ih, suW, Nat.mul_one]
    unfold lowN lowD
    simp
theorem wtTo_one (k : Nat) : wtTo (fun _ => 1) k = k := by
  induction k with
  | zero => rfl
  | succ k ih => simp only [wtTo, ih]
theorem meN_waits (ts is : List Int) (n : Nat) : meN (wa ts is) (fun _ => 1) (fun _ => 1) n = lowN (suW ts is n) n := by unfold meN; rw [fr_waits, wtTo_one]; simp
theorem meD_waits (ts is : List Int) (n : Nat) : meD (wa ts is) (fun _ => 1) (fun _ => 1) n = lowD (suW ts is n) n := by unfold meD; rw [fr_waits, wtTo_one]; simp

/-- the sum of all waits by weights -/
def suB (S Q : Nat → Nat) : Nat → Nat
  | 0 => 0
  | k + 1 => suB S Q k + Q k * S k
theorem low_one (a b : Nat) (hb : 0 < b) : lowN a b * b = a * lowD a b := low_mul a b hb
/-- fractions with the same denominator n, in lowest terms: their sum is the sum of the numerators over n, in lowest terms -/
theorem fr_low {S Q : Nat → Nat} {n : Nat} (hn : 0 < n) (k : Nat) :
    fr (fun i => lowN (S i) n) (fun i => lowD (S i) n) Q k = (lowN (suB S Q k) n, lowD (suB S Q k) n) := by
  induction k with
  | zero =>
    simp only [fr, suB, lowN, lowD, Nat.gcd_zero_left, Nat.zero_div, Nat.div_self hn]
  | succ k ih =>
    have hd : 0 < lowD (suB S Q k) n := lowD_pos hn
    have he : 0 < lowD (S k) n := lowD_pos hn
    have m1 := low_mul (suB S Q k) n hn
    have m2 := low_mul (S k) n hn
    simp only [fr, ih, suB]
    have hc := low_cross (a := lowN (suB S Q k) n * lowD (S k) n + lowN (S k) n * Q k * lowD (suB S Q k) n) (b := lowD (suB S Q k) n * lowD (S k) n) (c := suB S Q k + Q k * S k) (d := n) (Nat.mul_pos hd he) hn (by
      generalize lowD (suB S Q k) n = d1 at *
      generalize lowD (S k) n = d2 at *
      generalize lowN (suB S Q k) n = n1 at *
      generalize lowN (S k) n = n2 at *
      generalize suB S Q k = X at *
      generalize S k = Y at *
      calc (n1 * d2 + n2 * Q k * d1) * n = (n1 * n) * d2 + (n2 * n) * Q k * d1 := by rw [Nat.add_mul]; ac_rfl
        _ = (X * d1) * d2 + (Y * d2) * Q k * d1 := by rw [m1, m2]
        _ = (X + Q k * Y) * (d1 * d2) := by rw [Nat.add_mul]; ac_rfl)
    rw [hc.1, hc.2]
theorem low_low {a b c : Nat} (hb : 0 < b) (hc : 0 < c) : lowN (lowN a b) (lowD a b * c) = lowN a (b * c) ∧ lowD (lowN a b) (lowD a b * c) = lowD a (b * c) := by
  refine low_cross (Nat.mul_pos (lowD_pos hb) hc) (Nat.mul_pos hb hc) ?_
  rw [← Nat.mul_assoc, low_mul a b hb, Nat.mul_assoc]

end Go.Proofs.Ytgndbifcncklgaa
