/-
  Periods of turns, and the texts of their shifts (no program).
-/
import Derived.Maps.OwnIn
import Derived.Maps.OwnSet
import Derived.Maps.Views
import Derived.Test.YtjgkdjnpbocnjaaShift
import Derived.Test.YtjgkdjnpbocnjaaTextS
namespace Go.Proofs.Ytjgkdjnpbocnjaa
open Go.RowKit Go.Shelf Go.Maps

/-- the turns, round and round -/
def rnd (ts : List Int) (n : Nat) : Int := nth ts (n % ts.length)
def Per (ts : List Int) (p : Nat) : Prop := ∀ n, rnd ts (n + p) = rnd ts n
theorem per_len (ts : List Int) : Per ts ts.length := fun n => by simp [rnd]
theorem per_zero (ts : List Int) : Per ts 0 := fun _ => rfl
theorem per_mul {ts : List Int} {p : Nat} (h : Per ts p) (k : Nat) : Per ts (k * p) := by
  induction k with
  | zero => simpa using per_zero ts
  | succ k ih => intro n; rw [Nat.add_mul, Nat.one_mul, ← Nat.add_assoc, h, ih]
theorem per_sub {ts : List Int} {a b : Nat} (ha : Per ts a) (hb : Per ts b) (h : b ≤ a) : Per ts (a - b) := fun n => by
  rw [← hb (n + (a - b)), show n + (a - b) + b = n + a by omega, ha]
theorem per_mod {ts : List Int} {a p : Nat} (ha : Per ts a) (hp : Per ts p) : Per ts (a % p) := by
  have h1 : a % p = a - (a / p) * p := by have := Nat.div_add_mod a p; rw [Nat.mul_comm] at this; omega
  rw [h1]; exact per_sub ha (per_mul hp _) (by have := Nat.div_mul_le_self a p; exact this)
theorem per_shift {ts : List Int} {n : Nat} (hn : n ≤ ts.length) (h0 : 0 < ts.length) : shiftL ts n = ts ↔ Per ts n := by
  constructor
  · intro h m
    unfold rnd
    have h1 := congrArg (fun l => nth l (m % ts.length)) h
    rw [nth_shiftL hn (Nat.mod_lt _ h0)] at h1
    rw [← h1]
    congr 1
    rw [Nat.add_mod_mod, Nat.add_comm]
  · intro h
    refine ext_nth (shiftL_length hn) fun m hm => ?_
    rw [shiftL_length hn] at hm
    rw [nth_shiftL hn hm]
    have := h m
    unfold rnd at this
    rw [Nat.mod_eq_of_lt hm] at this
    rw [Nat.add_comm]; exact this
/-- the same shifts -/
theorem shift_same {ts : List Int} {i j : Nat} (hij : i ≤ j) (hj : j ≤ ts.length) (h0 : 0 < ts.length) : shiftL ts i = shiftL ts j ↔ Per ts (j - i) := by
  constructor
  · intro h m
    have key : ∀ m, m < ts.length → rnd ts (i + m) = rnd ts (j + m) := fun m hm => by
      have h1 := congrArg (fun l => nth l m) h
      rw [nth_shiftL (by omega) hm, nth_shiftL hj hm] at h1
      exact h1
    -- m = i + r (mod len)
    have h2 := key ((m + (ts.length - i)) % ts.length) (Nat.mod_lt _ h0)
    have h3 : ∀ x, rnd ts (x + (m + (ts.length - i)) % ts.length) = rnd ts (x + (m + (ts.length - i))) := fun x => by
      unfold rnd; rw [Nat.add_mod_mod]
    rw [h3, h3, show i + (m + (ts.length - i)) = m + ts.length by omega, show j + (m + (ts.length - i)) = m + (j - i) + ts.length by omega, per_len, per_len] at h2
    exact h2.symm
  · intro h
    refine ext_nth (by rw [shiftL_length (by omega), shiftL_length hj]) fun m hm => ?_
    rw [shiftL_length (by omega)] at hm
    rw [nth_shiftL (by omega) hm, nth_shiftL hj hm]
    have := h (i + m)
    unfold rnd at this
    rw [show i + m + (j - i) = j + m by omega] at this
    exact this.symm
/-- the program's search: the least p ahead of all that divides the slots and repeats the turns -/
def goodP (ts : List Int) (p : Nat) : Bool := decide (ts.length % p = 0) && (List.range ts.length).all fun n => decide (n < p) || decide (nth ts n = nth ts (n - p))
theorem goodP_per {ts : List Int} {p : Nat} (hp : 0 < p) (hl : p ≤ ts.length) : goodP ts p = true ↔ ts.length % p = 0 ∧ Per ts p := by
  have h0 : 0 < ts.length := by omega
  unfold goodP
  rw [Bool.and_eq_true, List.all_eq_true, decide_eq_true_eq]
  constructor
  · rintro ⟨hd, ha⟩
    refine ⟨hd, ?_⟩
    have ha' : ∀ n, p ≤ n → n < ts.length → nth ts n = nth ts (n - p) := fun n h1 h2 => by
      have := ha n (by simpa using h2)
      simp at this
      rcases this with h | h
      · omega
      · exact h
    have hm : ∀ k r, r < p → k * p + r < ts.length → nth ts (k * p + r) = nth ts r := fun k => by
      induction k with
      | zero => intro r _ _; simp
      | succ k ih =>
        intro r hr hk
        rw [Nat.add_mul, Nat.one_mul] at hk ⊢
        rw [ha' _ (by omega) hk, ← ih r hr (by omega)]
        congr 1; omega
    have hr : ∀ n, n < ts.length → nth ts n = nth ts (n % p) := fun n hn => by
      have h1 := hm (n / p) (n % p) (Nat.mod_lt _ hp) (by rw [Nat.mul_comm]; rw [Nat.div_add_mod]; exact hn)
      rw [Nat.mul_comm, Nat.div_add_mod] at h1
      exact h1
    intro n
    unfold rnd
    rw [hr _ (Nat.mod_lt _ h0), hr (n % ts.length) (Nat.mod_lt _ h0)]
    have hdv : p ∣ ts.length := Nat.dvd_of_mod_eq_zero hd
    rw [Nat.mod_mod_of_dvd _ hdv, Nat.mod_mod_of_dvd _ hdv, Nat.add_mod_right]
  · rintro ⟨hd, h⟩
    refine ⟨hd, fun n hn => ?_⟩
    simp only [List.mem_range] at hn
    by_cases h1 : n < p
    · simp [h1]
    · have := h (n - p)
      unfold rnd at this
      rw [show n - p + p = n by omega, Nat.mod_eq_of_lt hn, Nat.mod_eq_of_lt (by omega)] at this
      simp [this]
def period (ts : List Int) : Nat := ((List.range' 1 (ts.length - 1)).find? fun p => goodP ts p).getD ts.length
def noGood (ts : List Int) (k : Nat) : Prop := ∀ p, 1 ≤ p → p < k → goodP ts p = false
theorem period_hit {ts : List Int} {k : Nat} (h1 : 1 ≤ k) (hk : k < ts.length) (hn : noGood ts k) (h : goodP ts k = true) : period ts = k := by
  unfold period
  have : (List.range' 1 (ts.length - 1)).find? (fun p => goodP ts p) = some k := by
    rw [List.find?_range'_eq_some]
    refine ⟨h, by simp [List.mem_range'_1]; omega, fun j hj hjk => ?_⟩
    simpa using hn j hj hjk
  rw [this]; rfl
theorem period_none {ts : List Int} (hn : noGood ts ts.length) : period ts = ts.length := by
  unfold period
  have : (List.range' 1 (ts.length - 1)).find? (fun p => goodP ts p) = none := by
    rw [List.find?_eq_none]
    intro j hj
    rw [List.mem_range'_1] at hj
    simpa using hn j hj.1 (by omega)
  rw [this]; rfl
theorem period_spec (ts : List Int) (h0 : 0 < ts.length) : 1 ≤ period ts ∧ period ts ≤ ts.length ∧ Per ts (period ts) ∧ ts.length % period ts = 0 ∧ ∀ p, 1 ≤ p → p < period ts → ¬ Per ts p := by
  -- a least period divides all slots
  have least : ∀ n, (∀ p, 1 ≤ p → p < n → Per ts p → goodP ts p = false) → (∀ p, 1 ≤ p → p < n → n ≤ ts.length → ¬ Per ts p) := by
    intro n
    induction n with
    | zero => intro _ p h1 h2; omega
    | succ n ih =>
      intro hg p h1 h2 hl hp
      have ih' := ih (fun q q1 q2 q3 => hg q q1 (by omega) q3)
      by_cases e : p = n
      · subst e
        have hgp := hg p h1 h2 hp
        have hm := per_mod (per_len ts) hp
        have hz : ts.length % p = 0 := by
          rcases Nat.eq_zero_or_pos (ts.length % p) with h | h
          · exact h
          · exact absurd hm (ih' _ h (Nat.mod_lt _ (by omega)) (by omega))
        have := (goodP_per h1 (by omega)).2 ⟨hz, hp⟩
        rw [this] at hgp; cases hgp
      · exact ih' p h1 (by omega) (by omega) hp
  unfold period
  cases hf : (List.range' 1 (ts.length - 1)).find? fun p => goodP ts p with
  | none =>
    rw [List.find?_eq_none] at hf
    exact ⟨h0, Nat.le_refl _, per_len ts, by simp, fun p p1 p2 => least ts.length (fun q q1 q2 _ => by
      have := hf q (by rw [List.mem_range'_1]; omega); simpa using this) p p1 p2 (Nat.le_refl _)⟩
  | some k =>
    have hmem := List.mem_of_find?_eq_some hf
    rw [List.mem_range'_1] at hmem
    rw [List.find?_range'_eq_some] at hf
    have hg := (goodP_per (by omega) (by omega)).1 hf.1
    refine ⟨by simpa using hmem.1, by simp; omega, hg.2, hg.1, fun p p1 p2 => least k (fun q q1 q2 _ => ?_) p p1 p2 (by omega)⟩
    have := hf.2.2 q q1 q2
    simpa using this
/-- which shifts are new -/
theorem shift_new {ts : List Int} (h0 : 0 < ts.length) {n : Nat} (hn : n < ts.length) : (∃ m, m < n ∧ shiftL ts m = shiftL ts n) ↔ period ts ≤ n := by
  obtain ⟨p1, p2, p3, p4, p5⟩ := period_spec ts h0
  constructor
  · rintro ⟨m, hm, he⟩
    rw [shift_same (by omega) (by omega) h0] at he
    rcases Nat.lt_or_ge n (period ts) with h | h
    · exact absurd he (p5 _ (by omega) (by omega))
    · exact h
  · intro h
    exact ⟨n - period ts, by omega, (shift_same (by omega) (by omega) h0).2 (by rw [show n - (n - period ts) = period ts by omega]; exact p3)⟩

/-! ### texts -/
theorem letB_inj {x y : Int} (hx : -1 ≤ x ∧ x < 8) (hy : -1 ≤ y ∧ y < 8) (h : letB x = letB y) : x = y := by
  obtain rfl | rfl | rfl | rfl | rfl | rfl | rfl | rfl | rfl : x = -1 ∨ x = 0 ∨ x = 1 ∨ x = 2 ∨ x = 3 ∨ x = 4 ∨ x = 5 ∨ x = 6 ∨ x = 7 := by omega
  all_goals
    obtain rfl | rfl | rfl | rfl | rfl | rfl | rfl | rfl | rfl : y = -1 ∨ y = 0 ∨ y = 1 ∨ y = 2 ∨ y = 3 ∨ y = 4 ∨ y = 5 ∨ y = 6 ∨ y = 7 := by omega
    all_goals first | rfl | (revert h; decide)
theorem mapB_inj {xs ys : List Int} (hx : ∀ k, k < xs.length → -1 ≤ nth xs k ∧ nth xs k < 8) (hy : ∀ k, k < ys.length → -1 ≤ nth ys k ∧ nth ys k < 8) (h : xs.map letB = ys.map letB) : xs = ys := by
  have hl : xs.length = ys.length := by simpa using congrArg List.length h
  refine ext_nth hl fun k hk => letB_inj (hx k hk) (hy k (by omega)) ?_
  have := congrArg (fun l => l[k]?) h
  simp only [List.getElem?_map] at this
  rw [getElem?_nth hk, getElem?_nth (by omega)] at this
  simpa using this
theorem shift_bd {ts : List Int} {n : Nat} (hn : n ≤ ts.length) (hb : ∀ k, k < ts.length → -1 ≤ nth ts k ∧ nth ts k < 8) : ∀ k, k < (shiftL ts n).length → -1 ≤ nth (shiftL ts n) k ∧ nth (shiftL ts n) k < 8 := fun k hk => by
  rw [shiftL_length hn] at hk
  rw [nth_shiftL hn hk]
  exact hb _ (Nat.mod_lt _ (by omega))
/-- the key of a list in the map of texts -/
def tkey (l : List Int) : Lit := .string (l.map letB)
/-- what the map knows behind k shifts -/
def PTo (D : DataW Unit) (ts : List Int) (k : Nat) : Prop := (∀ n, n < ts.length → (Maps.has D (tkey (shiftL ts n)) = true ↔ ∃ j, j < k ∧ shiftL ts j = shiftL ts n)) ∧ Maps.size D = if k ≤ period ts then k else period ts
theorem pto_zero (ts : List Int) : PTo (.map []) ts 0 := ⟨fun n _ => by simp [Maps.has], by simp [Maps.size]⟩
theorem pto_next {D : DataW Unit} {ts : List Int} {k : Nat} (hD : Maps.IsMap D) (hT : Maps.Tidy D) (hkey : WideAt.IsKeyLit (tkey (shiftL ts k))) (hk : k < ts.length) (hb : ∀ k, k < ts.length → -1 ≤ nth ts k ∧ nth ts k < 8) (h : PTo D ts k) (d : DataW Unit) : PTo (D.put (tkey (shiftL ts k)) d) ts (k + 1) := by
  obtain ⟨h1, h2⟩ := h
  refine ⟨fun n hn => ?_, ?_⟩
  · by_cases e : shiftL ts k = shiftL ts n
    · rw [← e, Maps.has_put_same hD hkey]
      exact ⟨fun _ => ⟨k, by omega, rfl⟩, fun _ => rfl⟩
    · have hne : tkey (shiftL ts n) ≠ tkey (shiftL ts k) := fun e2 => by
        unfold tkey at e2
        injection e2 with e3
        exact e (mapB_inj (shift_bd (by omega) hb) (shift_bd (by omega) hb) e3.symm)
      rw [Maps.has_put_other hne, h1 n hn]
      constructor
      · rintro ⟨j, hj, he⟩; exact ⟨j, by omega, he⟩
      · rintro ⟨j, hj, he⟩
        refine ⟨j, ?_, he⟩
        by_cases ej : j = k
        · subst ej; exact absurd he e
        · omega
  · rw [Maps.size_put hT, h2]
    have hnew := shift_new (ts := ts) (by omega) hk
    rw [← h1 k hk] at hnew
    cases hh : Maps.has D (tkey (shiftL ts k))
    · have : ¬ period ts ≤ k := fun h => by rw [hnew.2 h] at hh; cases hh
      simp only [Bool.false_eq_true, if_false]
      rw [if_pos (by omega), if_pos (by omega)]
    · have := hnew.1 hh
      simp only [if_true]
      rw [if_neg (show ¬ k + 1 ≤ period ts by omega)]
      split <;> omega
theorem pto_all {D : DataW Unit} {ts : List Int} (h0 : 0 < ts.length) (h : PTo D ts ts.length) : Maps.size D = period ts := by
  have := (period_spec ts h0).2.1
  rw [h.2]; split <;> omega
def perR (ts : List Int) : Int := if turnsOk ts 8 then (period ts : Int) else 0
def perC (ts : List Int) : Int := if turnsOk ts 8 then 0 else 2

end Go.Proofs.Ytjgkdjnpbocnjaa
