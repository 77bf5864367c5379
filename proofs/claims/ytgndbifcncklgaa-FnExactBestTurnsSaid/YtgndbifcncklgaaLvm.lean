/-
  The mathematics of level turns: the first least of those that may, turns given slot by slot, greedy and deadline turns of both ways.
-/
import Derived.Test.YtgndbifcncklgaaBase
namespace Go.Proofs.Ytgndbifcncklgaa

/-! ### the first least of those that may -/
def IsPick (ok : Nat → Bool) (rk : Nat → Int) (k j : Nat) : Prop := j < k ∧ ok j = true ∧ ∀ i, i < k → ok i = true → rk j ≤ rk i ∧ (i < j → rk j < rk i)
theorem IsPick.unique {ok : Nat → Bool} {rk : Nat → Int} {k j j' : Nat} (h : IsPick ok rk k j) (h' : IsPick ok rk k j') : j = j' := by
  obtain ⟨a1, a2, a3⟩ := h
  obtain ⟨b1, b2, b3⟩ := h'
  have p := a3 j' b1 b2
  have q := b3 j a1 a2
  by_cases e : j < j'
  · have := q.2 e; omega
  · by_cases e2 : j' < j
    · have := p.2 e2; omega
    · omega
def pickTo (ok : Nat → Bool) (rk : Nat → Int) : Nat → Option Nat
  | 0 => none
  | k + 1 => match pickTo ok rk k with
    | none => if ok k then some k else none
    | some j => if ok k = true ∧ rk k < rk j then some k else some j
theorem pickTo_cases (ok : Nat → Bool) (rk : Nat → Int) (k : Nat) : (pickTo ok rk k = none ∧ ∀ i, i < k → ok i = false) ∨ ∃ j, pickTo ok rk k = some j ∧ IsPick ok rk k j := by
  induction k with
  | zero => exact .inl ⟨rfl, fun i h => by omega⟩
  | succ k ih =>
    rcases ih with ⟨h1, h2⟩ | ⟨j, h1, h2⟩
    · cases hk : ok k
      · refine .inl ⟨by simp [pickTo, h1, hk], fun i hi => ?_⟩
        by_cases e : i = k
        · rw [e]; exact hk
        · exact h2 i (by omega)
      · refine .inr ⟨k, by simp [pickTo, h1, hk], by omega, hk, fun i hi hok => ?_⟩
        by_cases e : i = k
        · subst e; exact ⟨Int.le_refl _, fun h => by omega⟩
        · have := h2 i (by omega); rw [this] at hok; cases hok
    · obtain ⟨h3, h4, h5⟩ := h2
      by_cases hc : ok k = true ∧ rk k < rk j
      · refine .inr ⟨k, by simp only [pickTo, h1]; rw [if_pos hc], by omega, hc.1, fun i hi hok => ?_⟩
        by_cases e : i = k
        · subst e; exact ⟨Int.le_refl _, fun h => by omega⟩
        · have := h5 i (by omega) hok; omega
      · refine .inr ⟨j, by simp only [pickTo, h1]; rw [if_neg hc], by omega, h4, fun i hi hok => ?_⟩
        by_cases e : i = k
        · subst e
          have : ¬ rk i < rk j := fun h => hc ⟨hok, h⟩
          omega
        · exact h5 i (by omega) hok
theorem pickTo_some {ok : Nat → Bool} {rk : Nat → Int} {k j : Nat} (h : pickTo ok rk k = some j) : IsPick ok rk k j := by
  rcases pickTo_cases ok rk k with ⟨h1, _⟩ | ⟨j', h1, h2⟩
  · rw [h] at h1; cases h1
  · rw [h] at h1; cases h1; exact h2
theorem pickTo_of {ok : Nat → Bool} {rk : Nat → Int} {k j : Nat} (h : IsPick ok rk k j) : pickTo ok rk k = some j := by
  rcases pickTo_cases ok rk k with ⟨_, h2⟩ | ⟨j', h1, h2⟩
  · have := h2 j h.1; rw [h.2.1] at this; cases this
  · rw [h1, h2.unique h]
theorem pickTo_none {ok : Nat → Bool} {rk : Nat → Int} {k : Nat} (h : ∀ i, i < k → ok i = false) : pickTo ok rk k = none := by
  rcases pickTo_cases ok rk k with ⟨h1, _⟩ | ⟨j', _, h2⟩
  · exact h1
  · have := h j' h2.1; rw [h2.2.1] at this; cases this
theorem pickTo_no {ok : Nat → Bool} {rk : Nat → Int} {k i : Nat} (h : pickTo ok rk k = none) (hi : i < k) : ok i = false := by
  rcases pickTo_cases ok rk k with ⟨_, h2⟩ | ⟨j', h1, _⟩
  · exact h2 i hi
  · rw [h] at h1; cases h1
/-- a list's first least, seen as the first least of those that may -/
theorem pick_filter {ok : Nat → Bool} {rk : Nat → Int} {k j : Nat} (hj : j < ((List.range k).filter ok).length)
    (h : ∀ (i : Nat) (hi : i < ((List.range k).filter ok).length), rk ((List.range k).filter ok)[j] ≤ rk ((List.range k).filter ok)[i] ∧ (i < j → rk ((List.range k).filter ok)[j] < rk ((List.range k).filter ok)[i])) :
    pickTo ok rk k = some ((List.range k).filter ok)[j] := by
  have hmem : ((List.range k).filter ok)[j] ∈ (List.range k).filter ok := List.getElem_mem hj
  rw [List.mem_filter, List.mem_range] at hmem
  have hsort : ((List.range k).filter ok).Pairwise (· < ·) := List.Pairwise.filter _ List.pairwise_lt_range
  refine pickTo_of ⟨hmem.1, hmem.2, fun i hi hok => ?_⟩
  have him : i ∈ (List.range k).filter ok := by rw [List.mem_filter, List.mem_range]; exact ⟨hi, hok⟩
  obtain ⟨q, hq, rfl⟩ := List.getElem_of_mem him
  refine ⟨(h q hq).1, fun hlt => (h q hq).2 ?_⟩
  rw [List.pairwise_iff_getElem] at hsort
  by_cases e : q < j
  · exact e
  · by_cases e2 : q = j
    · subst e2; omega
    · have := hsort j q hj hq (by omega); omega
/-- the model's way for greedy turns -/
def gBest (rk : Nat → Int) : Nat → Nat
  | 0 => 0
  | k + 1 => if rk k < rk (gBest rk k) then k else gBest rk k
theorem gBest_one (rk : Nat → Int) : gBest rk 1 = 0 := by simp [gBest]
theorem gBest_le (rk : Nat → Int) {k : Nat} (h : 1 ≤ k) : gBest rk k < k := by
  induction k with
  | zero => omega
  | succ k ih =>
    simp only [gBest]
    split
    · omega
    · by_cases e : k = 0
      · subst e; simp [gBest]
      · have := ih (by omega); omega
theorem gBest_pick (rk : Nat → Int) {k : Nat} (h : 1 ≤ k) : ∀ i, i < k → rk (gBest rk k) ≤ rk i ∧ (i < gBest rk k → rk (gBest rk k) < rk i) := by
  induction k with
  | zero => omega
  | succ k ih =>
    intro i hi
    by_cases e0 : k = 0
    · subst e0
      obtain rfl : i = 0 := by omega
      rw [gBest_one]
      exact ⟨Int.le_refl _, fun h => by omega⟩
    · have ih := ih (by omega)
      simp only [gBest]
      split
      · rename_i hlt
        by_cases e : i = k
        · subst e; exact ⟨Int.le_refl _, fun h => by omega⟩
        · have := ih i (by omega); omega
      · rename_i hlt
        by_cases e : i = k
        · subst e
          have := gBest_le rk (k := i) (by omega)
          exact ⟨by omega, fun h => by omega⟩
        · exact ih i (by omega)

/-! ### sums -/
def sumN (f : Nat → Int) : Nat → Int
  | 0 => 0
  | k + 1 => sumN f k + f k
theorem sumN_congr {f g : Nat → Int} {k : Nat} (h : ∀ i, i < k → f i = g i) : sumN f k = sumN g k := by
  induction k with
  | zero => rfl
  | succ k ih => simp only [sumN]; rw [ih fun i hi => h i (by omega), h k (by omega)]
theorem sumN_lin (f g : Nat → Int) (a b : Int) (k : Nat) : sumN (fun i => a * f i - b * g i) k = a * sumN f k - b * sumN g k := by
  induction k with
  | zero => simp [sumN]
  | succ k ih => simp only [sumN]; rw [ih, Int.mul_add, Int.mul_add]; omega
theorem sumN_le {f g : Nat → Int} {k : Nat} (h : ∀ i, i < k → f i ≤ g i) : sumN f k ≤ sumN g k := by
  induction k with
  | zero => exact Int.le_refl _
  | succ k ih => simp only [sumN]; have := ih fun i hi => h i (by omega); have := h k (by omega); omega
theorem sumN_lt {f g : Nat → Int} {k j : Nat} (h : ∀ i, i < k → f i ≤ g i) (hj : j < k) (hl : f j < g j) : sumN f k < sumN g k := by
  induction k with
  | zero => omega
  | succ k ih =>
    simp only [sumN]
    by_cases e : j = k
    · subst e; have := sumN_le (k := j) fun i hi => h i (by omega); omega
    · have := ih (fun i hi => h i (by omega)) (by omega); have := h k (by omega); omega
theorem sumN_neg {f : Nat → Int} {k : Nat} (h : sumN f k < 0) : ∃ i, i < k ∧ f i < 0 := by
  apply Classical.byContradiction
  intro hc
  have : sumN (fun _ => 0) k ≤ sumN f k := sumN_le fun i hi => by
    by_cases e : f i < 0
    · exact absurd ⟨i, hi, e⟩ hc
    · omega
  have hz : ∀ k, sumN (fun _ => 0) k = 0 := fun k => by induction k with | zero => rfl | succ k ih => simp [sumN, ih]
  rw [hz] at this
  omega
theorem sumN_up {f g : Nat → Int} {k j : Nat} (hj : j < k) (h : ∀ i, i < k → i ≠ j → g i = f i) (hg : g j = f j + 1) : sumN g k = sumN f k + 1 := by
  induction k with
  | zero => omega
  | succ k ih =>
    simp only [sumN]
    by_cases e : j = k
    · subst e
      have := sumN_congr (f := g) (g := f) (k := j) fun i hi => h i (by omega) (by omega)
      omega
    · have := ih (by omega) fun i hi hne => h i (by omega) hne
      have := h k (by omega) (fun e' => e e'.symm)
      omega
theorem sumN_zero (k : Nat) : sumN (fun _ => 0) k = 0 := by induction k with | zero => rfl | succ k ih => simp [sumN, ih]
theorem sumN_bd {f : Nat → Int} {k : Nat} {a b : Int} (h : ∀ i, i < k → a ≤ f i ∧ f i ≤ b) : k * a ≤ sumN f k ∧ sumN f k ≤ k * b := by
  induction k with
  | zero => simp [sumN]
  | succ k ih =>
    have h1 := ih fun i hi => h i (by omega)
    have h2 := h k (by omega)
    simp only [sumN]
    constructor
    · have : ((k + 1 : Nat) : Int) * a = k * a + a := by rw [Int.natCast_add]; simp [Int.add_mul]
      omega
    · have : ((k + 1 : Nat) : Int) * b = k * b + b := by rw [Int.natCast_add]; simp [Int.add_mul]
      omega

/-! ### turns given slot by slot -/
theorem nth_set2 {zs : List Int} {k m : Nat} {x : Int} (h : m < zs.length) : nth (zs.set k x) m = if k = m then x else nth zs m := by
  unfold nth; rw [List.getElem?_set]; split <;> simp_all
def runTo (pick : List Int → Nat → Option Nat) (k : Nat) : Nat → Option (List Int × List Int)
  | 0 => some ([], List.replicate k 0)
  | n + 1 => match runTo pick k n with
    | none => none
    | some s => match pick s.2 n with
      | none => none
      | some i => some (s.1 ++ [(i : Int)], s.2.set i (nth s.2 i + 1))
/-- what holds behind n slots -/
structure Had (ds : List Int) (n : Nat) (ts h : List Int) : Prop where
  len : ts.length = n
  hl : h.length = ds.length
  bd : ∀ i, i < ds.length → 0 ≤ nth h i ∧ nth h i ≤ nth ds i
  sum : sumN (nth h) ds.length = n
  el : ∀ j, j < n → 0 ≤ nth ts j ∧ nth ts j < ds.length
theorem had_zero {ds : List Int} (hd : ∀ i, i < ds.length → 0 ≤ nth ds i) : Had ds 0 [] (List.replicate ds.length 0) := by
  have hz : ∀ i, i < ds.length → nth (List.replicate ds.length 0) i = 0 := fun i hi => by simp [nth, hi]
  refine ⟨rfl, by simp, fun i hi => ?_, ?_, fun j hj => by omega⟩
  · rw [hz i hi]; exact ⟨Int.le_refl _, hd i hi⟩
  · rw [sumN_congr hz, sumN_zero]; rfl
theorem nth_snoc_lt2 {l : List Int} {x : Int} {j : Nat} (h : j < l.length) : nth (l ++ [x]) j = nth l j := by
  unfold nth; rw [List.getElem?_append_left h]
theorem nth_snoc_eq2 {l : List Int} {x : Int} : nth (l ++ [x]) l.length = x := by
  unfold nth; simp
theorem Had.step {ds ts h : List Int} {n i : Nat} (H : Had ds n ts h) (hi : i < ds.length) (hlt : nth h i < nth ds i) : Had ds (n + 1) (ts ++ [(i : Int)]) (h.set i (nth h i + 1)) := by
  have hl := H.hl
  refine ⟨by simp [H.len], by simp [hl], fun j hj => ?_, ?_, fun j hj => ?_⟩
  · rw [nth_set2 (by omega)]
    have := H.bd j hj
    split
    · rename_i e; subst e; omega
    · exact this
  · have := sumN_up (f := nth h) (g := nth (h.set i (nth h i + 1))) hi (fun j hj hne => by rw [nth_set2 (by omega), if_neg (fun e => hne e.symm)]) (by rw [nth_set2 (by omega), if_pos rfl])
    rw [this, H.sum]
    simp
  · by_cases e : j = n
    · rw [show j = ts.length by rw [H.len]; exact e, nth_snoc_eq2]; omega
    · rw [nth_snoc_lt2 (by rw [H.len]; omega)]; exact H.el j (by omega)
/-- a way to give slots that keeps to the shares -/
def Fair (ds : List Int) (pick : List Int → Nat → Option Nat) : Prop := ∀ h n i, pick h n = some i → i < ds.length ∧ nth h i < nth ds i
theorem run_had {ds : List Int} {pick : List Int → Nat → Option Nat} (hd : ∀ i, i < ds.length → 0 ≤ nth ds i) (hf : Fair ds pick) {n : Nat} {s : List Int × List Int} (h : runTo pick ds.length n = some s) : Had ds n s.1 s.2 := by
  induction n generalizing s with
  | zero => simp [runTo] at h; subst h; exact had_zero hd
  | succ n ih =>
    simp only [runTo] at h
    cases hr : runTo pick ds.length n with
    | none => rw [hr] at h; cases h
    | some q =>
      rw [hr] at h
      simp only at h
      cases hp : pick q.2 n with
      | none => rw [hp] at h; cases h
      | some i =>
        rw [hp] at h
        simp only [Option.some.injEq] at h
        subst h
        obtain ⟨h1, h2⟩ := hf _ _ _ hp
        exact (ih hr).step h1 h2
theorem runTo_none {pick : List Int → Nat → Option Nat} {k n m : Nat} (h : runTo pick k n = none) (hm : n ≤ m) : runTo pick k m = none := by
  induction m with
  | zero => obtain rfl : n = 0 := by omega
            exact h
  | succ m ih =>
    by_cases e : n = m + 1
    · subst e; exact h
    · simp only [runTo, ih (by omega)]
theorem runTo_next {pick : List Int → Nat → Option Nat} {k n i : Nat} {s : List Int × List Int} (h : runTo pick k n = some s) (hp : pick s.2 n = some i) : runTo pick k (n + 1) = some (s.1 ++ [(i : Int)], s.2.set i (nth s.2 i + 1)) := by
  simp only [runTo, h, hp]
theorem runTo_stop {pick : List Int → Nat → Option Nat} {k n : Nat} {s : List Int × List Int} (h : runTo pick k n = some s) (hp : pick s.2 n = none) : runTo pick k (n + 1) = none := by
  simp only [runTo, h, hp]
/-- the turns, and whether each slot is given -/
def runL (pick : List Int → Nat → Option Nat) (k N : Nat) : List Int := match runTo pick k N with | none => [] | some s => s.1
def runB (pick : List Int → Nat → Option Nat) (k N : Nat) : Bool := (runTo pick k N).isSome

/-! ### greedy turns -/
def gKey (ds : List Int) (N : Int) (h : List Int) (n : Nat) (i : Nat) : Int := N * nth h i - ((n : Int) + 1) * nth ds i
def pickG (ds : List Int) (N : Int) (h : List Int) (n : Nat) : Option Nat := pickTo (fun i => decide (nth h i < nth ds i)) (gKey ds N h n) ds.length
theorem fairG (ds : List Int) (N : Int) : Fair ds (pickG ds N) := fun h n i hp => by
  obtain ⟨h1, h2, _⟩ := pickTo_some hp
  exact ⟨h1, by simpa using h2⟩
theorem greedy_pick {ds ts h : List Int} {N n : Nat} (hd : ∀ i, i < ds.length → 1 ≤ nth ds i) (h0 : 1 ≤ ds.length) (hN : sumN (nth ds) ds.length = N) (H : Had ds n ts h) (hn : n < N) : pickG ds N h n = some (gBest (gKey ds N h n) ds.length) := by
  have hneg : sumN (gKey ds N h n) ds.length < 0 := by
    have := sumN_lin (nth h) (nth ds) N ((n : Int) + 1) ds.length
    rw [show gKey ds N h n = fun i => (N : Int) * nth h i - ((n : Int) + 1) * nth ds i from rfl, this, H.sum, hN, Int.add_mul, Int.mul_comm]
    omega
  obtain ⟨i, hi, hlt⟩ := sumN_neg hneg
  have hb := gBest_pick (gKey ds N h n) h0
  have hbl := gBest_le (gKey ds N h n) h0
  refine pickTo_of ⟨hbl, ?_, fun j hj _ => hb j hj⟩
  have h1 := (hb i hi).1
  have h2 : gKey ds N h n (gBest (gKey ds N h n) ds.length) < 0 := by omega
  generalize gBest (gKey ds N h n) ds.length = q at *
  rw [decide_eq_true_eq]
  have h3 := H.bd q hbl
  have h4 := hd q hbl
  apply Classical.byContradiction
  intro hc
  have h5 : nth h q = nth ds q := by omega
  unfold gKey at h2
  rw [h5, ← Int.sub_mul] at h2
  have : (0 : Int) ≤ ((N : Int) - ((n : Int) + 1)) * nth ds q := Int.mul_nonneg (by omega) (by omega)
  omega
theorem greedy_some {ds : List Int} {N n : Nat} (hd : ∀ i, i < ds.length → 1 ≤ nth ds i) (h0 : 1 ≤ ds.length) (hN : sumN (nth ds) ds.length = N) (hn : n ≤ N) : ∃ s, runTo (pickG ds N) ds.length n = some s ∧ Had ds n s.1 s.2 := by
  have hd0 : ∀ i, i < ds.length → 0 ≤ nth ds i := fun i hi => by have := hd i hi; omega
  induction n with
  | zero => exact ⟨_, rfl, had_zero hd0⟩
  | succ n ih =>
    obtain ⟨s, h1, h2⟩ := ih (by omega)
    have h3 := runTo_next h1 (greedy_pick hd h0 hN h2 (by omega))
    exact ⟨_, h3, run_had hd0 (fairG ds N) h3⟩

/-! ### deadline turns -/
/-- the last slot of the next turn -/
def lastD (ds : List Int) (N b : Int) (h : List Int) (i : Nat) : Int := min ((b + N * nth h i) / nth ds i) (N - 1)
def aheadD (ds : List Int) (N b : Int) (h : List Int) (n i : Nat) : Bool := decide (N * (nth h i + 1) - ((n : Int) + 1) * nth ds i ≤ b)
/-- the program's way -/
def mayD (ds : List Int) (N b : Int) (h : List Int) (n i : Nat) : Bool := decide ((n : Int) ≤ lastD ds N b h i) && aheadD ds N b h n i
def pickD (ds : List Int) (N b : Int) (h : List Int) (n : Nat) : Option Nat := pickTo (fun i => mayD ds N b h n i && decide (nth h i < nth ds i)) (lastD ds N b h) ds.length
/-- the model's way -/
def okM (ds : List Int) (N b : Int) (h : List Int) (n i : Nat) : Bool := decide (nth h i < nth ds i) && aheadD ds N b h n i
def ownM (ds : List Int) (N b : Int) (h : List Int) (i : Nat) : Int := min ((b + N * nth h i) / nth ds i + 1) N
def pickM (ds : List Int) (N b : Int) (h : List Int) (n : Nat) : Option Nat :=
  match pickTo (okM ds N b h n) (ownM ds N b h) ds.length with
  | none => none
  | some i => if ownM ds N b h i < (n : Int) + 1 then none else some i
theorem ownM_eq (ds : List Int) (N b : Int) (h : List Int) (i : Nat) : ownM ds N b h i = lastD ds N b h i + 1 := by unfold ownM lastD; omega
theorem fairD (ds : List Int) (N b : Int) : Fair ds (pickD ds N b) := fun h n i hp => by
  obtain ⟨h1, h2, _⟩ := pickTo_some hp
  rw [Bool.and_eq_true] at h2
  exact ⟨h1, by simpa using h2.2⟩
theorem fairM (ds : List Int) (N b : Int) : Fair ds (pickM ds N b) := fun h n i hp => by
  unfold pickM at hp
  cases e : pickTo (okM ds N b h n) (ownM ds N b h) ds.length with
  | none => rw [e] at hp; cases hp
  | some j =>
    rw [e] at hp
    simp only at hp
    split at hp
    · cases hp
    · cases hp
      obtain ⟨h1, h2, _⟩ := pickTo_some e
      unfold okM at h2
      rw [Bool.and_eq_true] at h2
      exact ⟨h1, by simpa using h2.1⟩
/-- where the model gives a slot, the program gives it to the same task; where it does not, the program has none or leaves a turn that comes too late -/
theorem pick_both (ds : List Int) (N b : Int) (h : List Int) (n : Nat) : pickD ds N b h n = pickM ds N b h n ∨ (pickM ds N b h n = none ∧ ∃ i, i < ds.length ∧ nth h i < nth ds i ∧ lastD ds N b h i < n) := by
  rcases pickTo_cases (okM ds N b h n) (ownM ds N b h) ds.length with ⟨h1, h2⟩ | ⟨j, h1, h2, h3, h4⟩
  · left
    have e1 : pickM ds N b h n = none := by unfold pickM; rw [h1]
    have e2 : pickD ds N b h n = none := pickTo_none fun i hi => by
      have := h2 i hi
      unfold okM at this
      unfold mayD
      rw [Bool.and_eq_false_iff] at this
      rcases this with h | h <;> simp [h]
    rw [e1, e2]
  · by_cases hl : ownM ds N b h j < (n : Int) + 1
    · right
      refine ⟨by unfold pickM; rw [h1]; simp only; rw [if_pos hl], j, h2, ?_, ?_⟩
      · unfold okM at h3; rw [Bool.and_eq_true] at h3; simpa using h3.1
      · rw [ownM_eq] at hl; omega
    · left
      have e1 : pickM ds N b h n = some j := by unfold pickM; rw [h1]; simp only; rw [if_neg hl]
      rw [e1]
      have hok : ∀ i, i < ds.length → (mayD ds N b h n i && decide (nth h i < nth ds i)) = okM ds N b h n i := fun i hi => by
        cases ho : okM ds N b h n i
        · unfold okM at ho
          unfold mayD
          rw [Bool.and_eq_false_iff] at ho
          rcases ho with h | h <;> simp [h]
        · have := (h4 i hi ho).1
          rw [ownM_eq, ownM_eq] at this
          rw [ownM_eq] at hl
          unfold okM at ho
          rw [Bool.and_eq_true] at ho
          unfold mayD
          rw [ho.1, ho.2, decide_eq_true (by omega)]
          rfl
      refine pickTo_of ⟨h2, (hok j h2).trans h3, fun i hi ho => ?_⟩
      replace ho := (hok i hi).symm.trans ho
      have := h4 i hi ho
      rw [ownM_eq, ownM_eq] at this
      exact ⟨by omega, fun hlt => by have := this.2 hlt; omega⟩
theorem run_both {ds : List Int} {N : Nat} (b : Int) (hd : ∀ i, i < ds.length → 0 ≤ nth ds i) (hN : sumN (nth ds) ds.length = N) : runTo (pickD ds N b) ds.length N = runTo (pickM ds N b) ds.length N := by
  have key : ∀ n, n ≤ N → runTo (pickD ds N b) ds.length n = runTo (pickM ds N b) ds.length n ∨
      (runTo (pickM ds N b) ds.length n = none ∧ ∀ s, runTo (pickD ds N b) ds.length n = some s → ∃ i, i < ds.length ∧ nth s.2 i < nth ds i ∧ lastD ds N b s.2 i < n) := by
    intro n
    induction n with
    | zero => exact fun _ => .inl rfl
    | succ n ih =>
      intro hn
      rcases ih (by omega) with h | ⟨h1, h2⟩
      · cases hr : runTo (pickD ds N b) ds.length n with
        | none => rw [hr] at h; left; rw [runTo_none hr (by omega), runTo_none h.symm (by omega)]
        | some s =>
          have hr' := h.symm.trans hr
          rcases pick_both ds N b s.2 n with hp | ⟨hp, i, hi, hlt, hla⟩
          · left; simp only [runTo, hr, hr', hp]
          · right
            refine ⟨runTo_stop hr' hp, fun q hq => ?_⟩
            cases hpd : pickD ds N b s.2 n with
            | none => rw [runTo_stop hr hpd] at hq; cases hq
            | some j =>
              rw [runTo_next hr hpd] at hq
              cases hq
              have hjm := (pickTo_some hpd).2.1
              rw [Bool.and_eq_true] at hjm
              unfold mayD at hjm
              rw [Bool.and_eq_true] at hjm
              have hjl : (n : Int) ≤ lastD ds N b s.2 j := by simpa using hjm.1.1
              have hne : j ≠ i := fun e => by subst e; omega
              have hsl : s.2.length = ds.length := (run_had hd (fairD ds N b) hr).hl
              have hsame : nth (s.2.set j (nth s.2 j + 1)) i = nth s.2 i := by rw [nth_set2 (by omega), if_neg hne]
              refine ⟨i, hi, by rw [hsame]; exact hlt, ?_⟩
              unfold lastD at hla ⊢
              simp only [hsame]
              omega
      · right
        refine ⟨runTo_none h1 (by omega), fun q hq => ?_⟩
        cases hr : runTo (pickD ds N b) ds.length n with
        | none => rw [runTo_none hr (by omega)] at hq; cases hq
        | some s =>
          obtain ⟨i, hi, hlt, hla⟩ := h2 s hr
          cases hpd : pickD ds N b s.2 n with
          | none => rw [runTo_stop hr hpd] at hq; cases hq
          | some j =>
            rw [runTo_next hr hpd] at hq
            cases hq
            have hjm := (pickTo_some hpd).2.1
            rw [Bool.and_eq_true] at hjm
            unfold mayD at hjm
            rw [Bool.and_eq_true] at hjm
            have hjl : (n : Int) ≤ lastD ds N b s.2 j := by simpa using hjm.1.1
            have hne : j ≠ i := fun e => by subst e; omega
            have hsl : s.2.length = ds.length := (run_had hd (fairD ds N b) hr).hl
            have hsame : nth (s.2.set j (nth s.2 j + 1)) i = nth s.2 i := by rw [nth_set2 (by omega), if_neg hne]
            refine ⟨i, hi, by rw [hsame]; exact hlt, ?_⟩
            unfold lastD at hla ⊢
            simp only [hsame]
            omega
  rcases key N (Nat.le_refl _) with h | ⟨h1, h2⟩
  · exact h
  · rw [h1]
    cases hr : runTo (pickD ds N b) ds.length N with
    | none => rfl
    | some s =>
      obtain ⟨i, hi, hlt, _⟩ := h2 s hr
      have H := run_had hd (fairD ds N b) hr
      have := sumN_lt (fun i hi => (H.bd i hi).2) hi hlt
      rw [H.sum, hN] at this
      omega
/-- for a great b each slot is given -/
theorem run_great {ds : List Int} {N : Nat} {b : Int} (hd : ∀ i, i < ds.length → 1 ≤ nth ds i) (hN : sumN (nth ds) ds.length = N) (hb : (N : Int) * N ≤ b) : runB (pickD ds N b) ds.length N = true := by
  have hd0 : ∀ i, i < ds.length → 0 ≤ nth ds i := fun i hi => by have := hd i hi; omega
  have key : ∀ n, n ≤ N → ∃ s, runTo (pickD ds N b) ds.length n = some s := by
    intro n
    induction n with
    | zero => exact fun _ => ⟨_, rfl⟩
    | succ n ih =>
      intro hn
      obtain ⟨s, hs⟩ := ih (by omega)
      have H := run_had hd0 (fairD ds N b) hs
      have hex : ∃ i, i < ds.length ∧ nth s.2 i < nth ds i := by
        apply Classical.byContradiction
        intro hc
        have : sumN (nth ds) ds.length ≤ sumN (nth s.2) ds.length := sumN_le fun i hi => by
          by_cases e : nth s.2 i < nth ds i
          · exact absurd ⟨i, hi, e⟩ hc
          · omega
        rw [H.sum, hN] at this
        omega
      obtain ⟨i, hi, hlt⟩ := hex
      have hdn : ∀ j, j < ds.length → nth ds j ≤ N := fun j hj => by
        by_cases e : nth ds j ≤ N
        · exact e
        · have h1 : sumN (fun q => if q = j then nth ds j else 0) ds.length ≤ sumN (nth ds) ds.length := sumN_le fun q hq => by
            split
            · rename_i e; subst e; exact Int.le_refl _
            · exact hd0 q hq
          have h2 : ∀ k, j < k → sumN (fun q => if q = j then nth ds j else 0) k = nth ds j := fun k => by
            induction k with
            | zero => omega
            | succ k ih2 =>
              intro hk
              simp only [sumN]
              by_cases e2 : k = j
              · subst e2
                rw [if_pos rfl, sumN_congr (g := fun _ => 0) (fun q hq => if_neg (by omega)), sumN_zero]; omega
              · rw [if_neg e2, ih2 (by omega)]; omega
          rw [h2 _ hj, hN] at h1
          omega
      have hm : mayD ds N b s.2 n i = true := by
        unfold mayD lastD aheadD
        have hbi := H.bd i hi
        have hdi := hd i hi
        have hNi := hdn i hi
        have hq : (N : Int) ≤ (b + N * nth s.2 i) / nth ds i := by
          rw [Int.le_ediv_iff_mul_le (by omega)]
          have h1 : (N : Int) * nth ds i ≤ N * N := Int.mul_le_mul_of_nonneg_left hNi (by omega)
          have h2 : (0 : Int) ≤ N * nth s.2 i := Int.mul_nonneg (by omega) (by omega)
          omega
        have ha : (N : Int) * (nth s.2 i + 1) - ((n : Int) + 1) * nth ds i ≤ b := by
          have h1 : (N : Int) * (nth s.2 i + 1) ≤ N * N := Int.mul_le_mul_of_nonneg_left (by omega) (by omega)
          have h2 : (0 : Int) ≤ ((n : Int) + 1) * nth ds i := Int.mul_nonneg (by omega) (by omega)
          omega
        rw [decide_eq_true (by omega), decide_eq_true ha]
        rfl
      cases hp : pickD ds N b s.2 n with
      | none => have := pickTo_no hp hi; simp [hm, hlt] at this
      | some j => exact ⟨_, runTo_next hs hp⟩
  obtain ⟨s, hs⟩ := key N (Nat.le_refl _)
  unfold runB; rw [hs]; rfl
end Go.Proofs.Ytgndbifcncklgaa
