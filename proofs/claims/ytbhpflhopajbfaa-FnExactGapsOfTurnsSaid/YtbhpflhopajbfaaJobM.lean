/-
  Jobs, the mathematics: what jobs are, whole periods, loads, demands, rooms, answers, halves (no program).
-/
import Derived.Test.YtbhpflhopajbfaaDens
import Derived.Test.YtbhpflhopajbfaaRen
import Derived.Test.YtbhpflhopajbfaaJob
namespace Go.Proofs.Ytbhpflhopajbfaa
open Go.RowKit Go.Shelf

def jobOk (l p d : Int) : Bool := inB l 1 20 && inB p 1 60 && inB d 1 p
theorem jobOk_true {l p d : Int} : jobOk l p d = true ↔ (1 ≤ l ∧ l ≤ 20) ∧ (1 ≤ p ∧ p ≤ 60) ∧ (1 ≤ d ∧ d ≤ p) := by
  unfold jobOk; rw [Bool.and_eq_true, Bool.and_eq_true, inB_true, inB_true, inB_true, and_assoc]
theorem jobOk_false {l p d : Int} (h : l < 1 ∨ 20 < l ∨ p < 1 ∨ 60 < p ∨ d < 1 ∨ p < d) : jobOk l p d = false := by
  rw [Bool.eq_false_iff]; intro e; rw [jobOk_true] at e; omega
def jobsAll (ls ps ds : List Int) (k : Nat) : Bool := (List.range k).all fun i => jobOk (nth ls i) (nth ps i) (nth ds i)
def jobsOk (ls ps ds : List Int) : Bool := inB ls.length 1 8 && decide (ps.length = ls.length) && decide (ds.length = ls.length) && jobsAll ls ps ds ls.length
theorem jobsAll_yes {ls ps ds : List Int} {k : Nat} (h : ∀ i, i < k → jobOk (nth ls i) (nth ps i) (nth ds i) = true) : jobsAll ls ps ds k = true := by
  unfold jobsAll; rw [List.all_eq_true]; intro i hi; exact h i (by simpa using hi)
theorem jobsAll_no {ls ps ds : List Int} {k i : Nat} (hi : i < k) (h : jobOk (nth ls i) (nth ps i) (nth ds i) = false) : jobsAll ls ps ds k = false := by
  unfold jobsAll; rw [List.all_eq_false]; exact ⟨i, by simpa using hi, by simp [h]⟩
theorem jobsAll_at {ls ps ds : List Int} {k i : Nat} (h : jobsAll ls ps ds k = true) (hi : i < k) : jobOk (nth ls i) (nth ps i) (nth ds i) = true := by
  unfold jobsAll at h; rw [List.all_eq_true] at h; exact h i (by simpa using hi)
theorem jobsOk_yes {ls ps ds : List Int} (h1 : 1 ≤ ls.length) (h8 : ls.length ≤ 8) (hp : ps.length = ls.length) (hd : ds.length = ls.length) (h : ∀ i, i < ls.length → jobOk (nth ls i) (nth ps i) (nth ds i) = true) : jobsOk ls ps ds = true := by
  unfold jobsOk; rw [jobsAll_yes h, inB_true.2 (by omega), hp, hd]; simp
theorem jobsOk_no {ls ps ds : List Int} (h : ls.length < 1 ∨ 8 < ls.length ∨ ps.length ≠ ls.length ∨ ds.length ≠ ls.length ∨ ∃ i, i < ls.length ∧ jobOk (nth ls i) (nth ps i) (nth ds i) = false) : jobsOk ls ps ds = false := by
  unfold jobsOk
  rcases h with h | h | h | h | ⟨i, hi, h⟩
  · rw [inB_false.2 (by omega)]; simp
  · rw [inB_false.2 (by omega)]; simp
  · simp [h]
  · simp [h]
  · rw [jobsAll_no hi h]; simp
structure JobsP (ls ps ds : List Int) : Prop where
  len1 : 1 ≤ ls.length
  len8 : ls.length ≤ 8
  lp : ps.length = ls.length
  ld : ds.length = ls.length
  l : ∀ k, k < ls.length → 1 ≤ nth ls k ∧ nth ls k ≤ 20
  p : ∀ k, k < ls.length → 1 ≤ nth ps k ∧ nth ps k ≤ 60
  d : ∀ k, k < ls.length → 1 ≤ nth ds k ∧ nth ds k ≤ nth ps k
theorem jobsP {ls ps ds : List Int} (h : jobsOk ls ps ds = true) : JobsP ls ps ds := by
  unfold jobsOk at h
  simp only [Bool.and_eq_true, decide_eq_true_eq] at h
  obtain ⟨⟨⟨h1, h2⟩, h3⟩, h4⟩ := h
  rw [inB_true] at h1
  have hk := fun k hk => jobOk_true.1 (jobsAll_at h4 (i := k) hk)
  exact ⟨by omega, by omega, h2, h3, fun k h => (hk k h).1, fun k h => (hk k h).2.1, fun k h => (hk k h).2.2⟩

/-! ### whole periods -/
def wholeN (ps : List Int) : Nat := lcmTo (natsTo ps ps.length)
theorem lcmTo_step {ps : List Int} {k : Nat} (h : k < ps.length) : lcmTo (natsTo ps (k + 1)) = Nat.lcm (lcmTo (natsTo ps k)) (nth ps k).toNat := by rw [natsTo_succ h, lcmTo_snoc]
theorem natsTo_pos {ps : List Int} (h : ∀ k, k < ps.length → 1 ≤ nth ps k) (k : Nat) : ∀ g ∈ natsTo ps k, 0 < g := by
  intro g hg
  obtain ⟨z, hz, rfl⟩ := List.mem_map.1 hg
  obtain ⟨j, hj, rfl⟩ := List.getElem_of_mem (List.mem_of_mem_take hz)
  have := h j hj
  rw [nth_lt hj] at this
  omega
theorem lcmTo_pow {ps : List Int} (h : ∀ k, k < ps.length → 1 ≤ nth ps k ∧ nth ps k ≤ 60) {k : Nat} (hk : k ≤ ps.length) : 0 < lcmTo (natsTo ps k) ∧ lcmTo (natsTo ps k) ≤ 60 ^ k := by
  refine ⟨lcmTo_pos (natsTo_pos (fun k hk => (h k hk).1) k), ?_⟩
  induction k with
  | zero => simp [natsTo, lcmTo]
  | succ k ih =>
    have hb := h k (by omega)
    rw [lcmTo_step (by omega)]
    have h0 := lcmTo_pos (natsTo_pos (fun k hk => (h k hk).1) k)
    have h1 : Nat.lcm (lcmTo (natsTo ps k)) (nth ps k).toNat ≤ lcmTo (natsTo ps k) * (nth ps k).toNat := Nat.le_of_dvd (Nat.mul_pos h0 (by omega)) (Nat.lcm_dvd_mul _ _)
    have h2 : lcmTo (natsTo ps k) * (nth ps k).toNat ≤ 60 ^ k * 60 := Nat.mul_le_mul (ih (by omega)) (by omega)
    rw [Nat.pow_succ]; omega
theorem pow60_le {k : Nat} (h : k ≤ 8) : 60 ^ k ≤ 167961600000000 := Nat.le_trans (Nat.pow_le_pow_right (by omega) h) (by decide)
theorem lcmTo_mono {ps : List Int} (h : ∀ k, k < ps.length → 1 ≤ nth ps k) {j k : Nat} (hj : j ≤ k) (hk : k ≤ ps.length) : lcmTo (natsTo ps j) ≤ lcmTo (natsTo ps k) := by
  induction k with
  | zero => obtain rfl : j = 0 := by omega
            exact Nat.le_refl _
  | succ k ih =>
    by_cases e : j = k + 1
    · subst e; exact Nat.le_refl _
    · refine Nat.le_trans (ih (by omega) (by omega)) ?_
      have := lcmTo_pos (natsTo_pos h (k + 1))
      rw [lcmTo_step (by omega)] at this ⊢
      exact Nat.le_of_dvd this (Nat.dvd_lcm_left _ _)
/-- what the model's sum of periods may be where it stops early -/
def WholeR (ps : List Int) (r : Nat) : Prop := (wholeN ps ≤ 240 ∧ r = wholeN ps) ∨ (240 < wholeN ps ∧ 240 < r ∧ r ≤ 14400)
def jobCode (ls ps ds : List Int) : Int := if jobsOk ls ps ds then if wholeN ps ≤ 240 then 0 else 3 else 1
def wholeV (ls ps ds : List Int) : Int := if jobCode ls ps ds = 0 then ((wholeN ps : Nat) : Int) else 0
theorem jobCode_no {ls ps ds : List Int} (h : jobsOk ls ps ds = false) : jobCode ls ps ds = 1 := by unfold jobCode; rw [h]; rfl
theorem jobCode_lim {ls ps ds : List Int} (h : jobsOk ls ps ds = true) (hw : 240 < wholeN ps) : jobCode ls ps ds = 3 := by unfold jobCode; rw [h, if_pos rfl, if_neg (by omega)]
theorem jobCode_ok {ls ps ds : List Int} (h : jobsOk ls ps ds = true) (hw : wholeN ps ≤ 240) : jobCode ls ps ds = 0 := by unfold jobCode; rw [h, if_pos rfl, if_pos hw]
theorem wholeV_err {ls ps ds : List Int} (h : jobCode ls ps ds ≠ 0) : wholeV ls ps ds = 0 := by unfold wholeV; rw [if_neg h]
theorem wholeV_ok {ls ps ds : List Int} (h : jobCode ls ps ds = 0) : wholeV ls ps ds = ((wholeN ps : Nat) : Int) := by unfold wholeV; rw [if_pos h]

/-! ### loads -/
def loadTo (ls ps : List Int) : Nat → Nat × Nat
  | 0 => (0, 1)
  | k + 1 => (lowN ((loadTo ls ps k).1 * (nth ps k).toNat + (nth ls k).toNat * (loadTo ls ps k).2) ((loadTo ls ps k).2 * (nth ps k).toNat),
      lowD ((loadTo ls ps k).1 * (nth ps k).toNat + (nth ls k).toNat * (loadTo ls ps k).2) ((loadTo ls ps k).2 * (nth ps k).toNat))
theorem loadTo_bd {ls ps : List Int} {n : Nat} (hl : ∀ k, k < n → 1 ≤ nth ls k ∧ nth ls k ≤ 20) (hp : ∀ k, k < n → 1 ≤ nth ps k ∧ nth ps k ≤ 60) {k : Nat} (hk : k ≤ n) :
    (loadTo ls ps k).1 ≤ 20 * k * 60 ^ k ∧ 0 < (loadTo ls ps k).2 ∧ (loadTo ls ps k).2 ≤ 60 ^ k := by
  induction k with
  | zero => simp [loadTo]
  | succ k ih =>
    obtain ⟨h1, h2, h3⟩ := ih (by omega)
    have b1 := hl k (by omega)
    have b2 := hp k (by omega)
    simp only [loadTo]
    generalize (loadTo ls ps k).1 = a at *
    generalize (loadTo ls ps k).2 = b at *
    obtain ⟨p, hpz⟩ : ∃ p : Nat, nth ps k = p := ⟨(nth ps k).toNat, by omega⟩
    obtain ⟨l, hlz⟩ : ∃ l : Nat, nth ls k = l := ⟨(nth ls k).toNat, by omega⟩
    rw [hpz] at b2 ⊢
    rw [hlz] at b1 ⊢
    simp only [Int.toNat_natCast]
    have e1 : a * p ≤ 20 * k * 60 ^ k * 60 := Nat.mul_le_mul h1 (by omega)
    have e2 : l * b ≤ 20 * 60 ^ k := Nat.mul_le_mul (by omega) h3
    have e3 : b * p ≤ 60 ^ k * 60 := Nat.mul_le_mul h3 (by omega)
    have e4 : 0 < b * p := Nat.mul_pos h2 (by omega)
    refine ⟨Nat.le_trans (lowN_le _ _) ?_, lowD_pos e4, Nat.le_trans (lowD_le _ _) (by rw [Nat.pow_succ]; exact e3)⟩
    have e5 : 20 * (k + 1) * 60 ^ (k + 1) = 20 * k * 60 ^ k * 60 + 20 * 60 ^ k * 60 := by
      rw [Nat.pow_succ, Nat.mul_add, Nat.add_mul, Nat.mul_one]
      congr 1
      · rw [Nat.mul_assoc (20 * k)]
      · rw [Nat.mul_assoc 20]
    rw [e5]
    have := Nat.le_mul_of_pos_right (20 * 60 ^ k) (show 0 < 60 by omega)
    omega
def load0 (ls ps ds : List Int) : Int := if jobsOk ls ps ds then ((loadTo ls ps ls.length).1 : Int) else 0
def load1 (ls ps ds : List Int) : Int := if jobsOk ls ps ds then ((loadTo ls ps ls.length).2 : Int) else 0
def load2 (ls ps ds : List Int) : Int := if jobsOk ls ps ds then 0 else 1

/-! ### demands and rooms -/
def timesBy (n p d : Int) : Int := if n < d then 0 else (n - d) / p + 1
theorem timesBy_bd {n p d : Int} (hp : 1 ≤ p) (hd : 1 ≤ d) (hn : 0 ≤ n) : 0 ≤ timesBy n p d ∧ timesBy n p d ≤ n := by
  unfold timesBy
  split
  · omega
  · have h1 : 0 ≤ (n - d) / p := Int.ediv_nonneg (by omega) (by omega)
    have h2 : (n - d) / p ≤ n - d := Int.ediv_le_self _ (by omega)
    omega
def demTo (ls ps ds : List Int) (n : Int) : Nat → Int
  | 0 => 0
  | k + 1 => demTo ls ps ds n k + nth ls k * timesBy n (nth ps k) (nth ds k)
theorem demTo_bd {ls ps ds : List Int} (h : JobsP ls ps ds) {n : Int} (h0 : 0 ≤ n) (h1 : n ≤ 1000) {k : Nat} (hk : k ≤ ls.length) : 0 ≤ demTo ls ps ds n k ∧ demTo ls ps ds n k ≤ 20000 * k := by
  induction k with
  | zero => simp [demTo]
  | succ k ih =>
    have b1 := h.l k (by omega)
    have b2 := h.p k (by omega)
    have b3 := h.d k (by omega)
    have b4 := timesBy_bd (n := n) b2.1 b3.1 h0
    have b5 : 0 ≤ nth ls k * timesBy n (nth ps k) (nth ds k) := Int.mul_nonneg (by omega) b4.1
    have b6 : nth ls k * timesBy n (nth ps k) (nth ds k) ≤ 20 * 1000 := Int.mul_le_mul b1.2 (by omega) b4.1 (by omega)
    have := ih (by omega)
    simp only [demTo]
    omega
def demN (ls ps ds : List Int) (n : Int) : Int := demTo ls ps ds n ls.length
def demC (ls ps ds : List Int) (n : Int) : Int := if jobsOk ls ps ds then if inB n 0 1000 then 0 else 2 else 1
def demV (ls ps ds : List Int) (n : Int) : Int := if demC ls ps ds n = 0 then demN ls ps ds n else 0
def roomTo (ls ps ds : List Int) : Nat → Int
  | 0 => 1 - demN ls ps ds 1
  | k + 1 => min (roomTo ls ps ds k) ((k : Int) + 2 - demN ls ps ds ((k : Int) + 2))
def roomV (ls ps ds : List Int) : Int := if jobCode ls ps ds = 0 then roomTo ls ps ds (wholeN ps - 1) else 0
theorem roomTo_bd {ls ps ds : List Int} (h : JobsP ls ps ds) {k : Nat} (hk : k ≤ 998) : -160000 ≤ roomTo ls ps ds k ∧ roomTo ls ps ds k ≤ 1 := by
  induction k with
  | zero =>
    have := demTo_bd h (n := 1) (by omega) (by omega) (Nat.le_refl _)
    have := h.len8
    simp only [roomTo, demN]; omega
  | succ k ih =>
    have := demTo_bd h (n := (k : Int) + 2) (by omega) (by omega) (Nat.le_refl _)
    have := h.len8
    have := ih (by omega)
    simp only [roomTo, demN]; omega

/-! ### answers -/
def comesIn (r p : Int) : Int := (r - 1) / p + 1
theorem comesIn_bd {r p : Int} (hp : 1 ≤ p) (hr : 1 ≤ r) : 1 ≤ comesIn r p ∧ comesIn r p ≤ r := by
  unfold comesIn
  have h1 : 0 ≤ (r - 1) / p := Int.ediv_nonneg (by omega) (by omega)
  have h2 : (r - 1) / p ≤ r - 1 := Int.ediv_le_self _ (by omega)
  omega
theorem comesIn_alt {r p : Int} (hp : 1 ≤ p) : (r + p - 1) / p = comesIn r p := by
  unfold comesIn
  rw [show r + p - 1 = (r - 1) + p * 1 by omega, Int.add_mul_ediv_left _ _ (by omega)]
/-- what the tasks of a list need up to r -/
def aheadSum (ls ps : List Int) (r : Int) : List Int → Int
  | [] => 0
  | x :: xs => nth ls x.toNat * comesIn r (nth ps x.toNat) + aheadSum ls ps r xs
theorem aheadSum_snoc (ls ps : List Int) (r : Int) (xs : List Int) (x : Int) : aheadSum ls ps r (xs ++ [x]) = aheadSum ls ps r xs + nth ls x.toNat * comesIn r (nth ps x.toNat) := by
  induction xs with
  | nil => simp [aheadSum]
  | cons y ys ih => simp only [List.cons_append, aheadSum, ih]; omega
/-- the same, task by task: those of the first k that are in the list -/
def inSum (ls ps : List Int) (r : Int) (xs : List Int) : Nat → Int
  | 0 => 0
  | k + 1 => inSum ls ps r xs k + if xs.contains (k : Int) then nth ls k * comesIn r (nth ps k) else 0
theorem inSum_cons {ls ps : List Int} {r : Int} {x : Nat} {xs : List Int} (hx : xs.contains (x : Int) = false) (k : Nat) :
    inSum ls ps r ((x : Int) :: xs) k = inSum ls ps r xs k + if x < k then nth ls x * comesIn r (nth ps x) else 0 := by
  induction k with
  | zero => simp [inSum]
  | succ k ih =>
    simp only [inSum, ih, List.contains_cons]
    by_cases e : k = x
    · subst e
      simp only [BEq.rfl, Bool.true_or, if_true, hx, Nat.lt_irrefl, if_false, Nat.lt_succ_self]
      simp
    · have e2 : ((k : Int) == (x : Int)) = false := by rw [beq_eq_false_iff_ne]; omega
      rw [e2, Bool.false_or]
      by_cases h : x < k
      · have h' : x < k + 1 := by omega
        rw [if_pos h, if_pos h']; split <;> omega
      · have h' : ¬ x < k + 1 := by omega
        rw [if_neg h, if_neg h']; split <;> omega
theorem inSum_ahead {ls ps : List Int} {r : Int} {xs : List Int} {n : Nat} (hn : xs.Nodup) (hb : ∀ x ∈ xs, 0 ≤ x ∧ x < n) : inSum ls ps r xs n = aheadSum ls ps r xs := by
  induction xs with
  | nil =>
    have : ∀ k, inSum ls ps r [] k = 0 := fun k => by induction k with
      | zero => rfl
      | succ k ih => simp [inSum, ih]
    rw [this]; rfl
  | cons x xs ih =>
    obtain ⟨h1, h2⟩ := List.nodup_cons.1 hn
    have hx := hb x (by simp)
    obtain ⟨m, rfl⟩ : ∃ m : Nat, x = m := ⟨x.toNat, by omega⟩
    rw [inSum_cons (by simpa using h1), ih h2 (fun y hy => hb y (by simp [hy])), if_pos (by omega)]
    simp only [aheadSum, Int.toNat_natCast]
    omega
/-- the first r of m, from r on, at which the need is r -/
def ansS (need : Int → Int) : Nat → Int → Int
  | 0, _ => -1
  | m + 1, r => if need r = r then r else ansS need m (r + 1)
theorem ansS_bd (need : Int → Int) (m : Nat) (r : Int) (hr : 0 ≤ r) : -1 ≤ ansS need m r ∧ ansS need m r ≤ r + m := by
  induction m generalizing r with
  | zero => simp [ansS]; omega
  | succ m ih => simp only [ansS]; split; omega; have := ih (r + 1) (by omega); omega
def needOf (ls ps : List Int) (xs : List Int) (i : Nat) (r : Int) : Int := nth ls i + aheadSum ls ps r xs
def ansOf (ls ps ds xs : List Int) (i : Nat) : Int := ansS (needOf ls ps xs i) (nth ds i).toNat 1
def ansTo (ls ps ds p : List Int) : Nat → List Int
  | 0 => List.replicate ls.length 0
  | k + 1 => (ansTo ls ps ds p k).set (nth p k).toNat (ansOf ls ps ds (p.take k) (nth p k).toNat)
theorem ansTo_length (ls ps ds p : List Int) (k : Nat) : (ansTo ls ps ds p k).length = ls.length := by
  induction k with
  | zero => simp [ansTo]
  | succ k ih => simp [ansTo, ih]
def ansC (ls ps ds p : List Int) : Int := if jobsOk ls ps ds then if ordOk ls.length p then 0 else 2 else 1
def ansR (ls ps ds p : List Int) : List Int := if ansC ls ps ds p = 0 then ansTo ls ps ds p ls.length else []
theorem aheadSum_bd {ls ps ds : List Int} (h : JobsP ls ps ds) {r : Int} (h1 : 1 ≤ r) (h2 : r ≤ 60) {xs : List Int} (hb : ∀ x ∈ xs, 0 ≤ x ∧ x < ls.length) : 0 ≤ aheadSum ls ps r xs ∧ aheadSum ls ps r xs ≤ 1200 * xs.length := by
  induction xs with
  | nil => simp [aheadSum]
  | cons x xs ih =>
    have hx := hb x (by simp)
    have b1 := h.l x.toNat (by omega)
    have b2 := h.p x.toNat (by omega)
    have b3 := comesIn_bd b2.1 h1
    have b4 : 0 ≤ nth ls x.toNat * comesIn r (nth ps x.toNat) := Int.mul_nonneg (by omega) (by omega)
    have b5 : nth ls x.toNat * comesIn r (nth ps x.toNat) ≤ 20 * 60 := Int.mul_le_mul b1.2 (by omega) (by omega) (by omega)
    have := ih (fun y hy => hb y (by simp [hy]))
    simp only [aheadSum, List.length_cons]
    omega
theorem inSum_bd {ls ps ds : List Int} (h : JobsP ls ps ds) {r : Int} (h1 : 1 ≤ r) (h2 : r ≤ 60) {xs : List Int} {k : Nat} (hk : k ≤ ls.length) : 0 ≤ inSum ls ps r xs k ∧ inSum ls ps r xs k ≤ 1200 * k := by
  induction k with
  | zero => simp [inSum]
  | succ k ih =>
    have b1 := h.l k (by omega)
    have b2 := h.p k (by omega)
    have b3 := comesIn_bd b2.1 h1
    have b4 : 0 ≤ nth ls k * comesIn r (nth ps k) := Int.mul_nonneg (by omega) (by omega)
    have b5 : nth ls k * comesIn r (nth ps k) ≤ 20 * 60 := Int.mul_le_mul b1.2 (by omega) (by omega) (by omega)
    have := ih (by omega)
    simp only [inSum]
    split <;> omega

/-! ### halves -/
def half (z : Int) : Int := (z + 1) / 2
def halves (zs : List Int) (k : Nat) : List Int := (List.range k).map fun i => half (nth zs i)
def onesL (k : Nat) : List Int := List.replicate k 1
theorem halves_succ (zs : List Int) (k : Nat) : halves zs (k + 1) = halves zs k ++ [half (nth zs k)] := by simp [halves, List.range_succ]
theorem onesL_succ (k : Nat) : onesL (k + 1) = onesL k ++ [1] := by unfold onesL; rw [List.replicate_succ']
theorem halves_length (zs : List Int) (k : Nat) : (halves zs k).length = k := by simp [halves]
theorem onesL_length (k : Nat) : (onesL k).length = k := by simp [onesL]

end Go.Proofs.Ytbhpflhopajbfaa
