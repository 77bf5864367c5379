/-
  Gardens: the mathematics of heights, cuts, days and rounds.
-/
import Derived.Test.YtbhpflhopajbfaaChk
namespace Go.Proofs.Ytbhpflhopajbfaa

/-! ### gardens -/
/-- is this a garden? -/
def gardenOk (rs : List Int) : Bool := rs.all (fun z => inB z 1 20) && inB rs.length 1 8
theorem gardenOk_nth {rs : List Int} (h : gardenOk rs = true) {k : Nat} (hk : k < rs.length) : 1 ≤ nth rs k ∧ nth rs k ≤ 20 := by
  unfold gardenOk at h
  rw [Bool.and_eq_true, List.all_eq_true] at h
  exact inB_true.1 (h.1 _ (nth_mem hk))
theorem gardenOk_len {rs : List Int} (h : gardenOk rs = true) : 1 ≤ rs.length ∧ rs.length ≤ 8 := by
  unfold gardenOk at h
  rw [Bool.and_eq_true] at h
  have := inB_true.1 h.2
  omega
/-- the zeros behind a list's end -/
theorem nth_end {zs : List Int} {k : Nat} (h : zs.length ≤ k) : nth zs k = 0 := by unfold nth; rw [List.getElem?_eq_none h]; rfl
theorem gardenOk_any {rs : List Int} (h : gardenOk rs = true) (k : Nat) : 0 ≤ nth rs k ∧ nth rs k ≤ 20 := by
  by_cases hk : k < rs.length
  · have := gardenOk_nth h hk; omega
  · rw [nth_end (by omega)]; omega
/-- may these be heights? -/
def heightsOk (hs : List Int) : Bool := hs.all (fun z => inB z 0 100000)
theorem heightsOk_nth {hs : List Int} (h : heightsOk hs = true) (k : Nat) : 0 ≤ nth hs k ∧ nth hs k ≤ 100000 := by
  by_cases hk : k < hs.length
  · unfold heightsOk at h
    rw [List.all_eq_true] at h
    exact inB_true.1 (h _ (nth_mem hk))
  · rw [nth_end (by omega)]; omega
/-- the code of a garden and heights -/
def htC (rs hs : List Int) : Int := if gardenOk rs = true then if hs.length = rs.length ∧ heightsOk hs = true then 0 else 2 else 1
theorem htC_ok {rs hs : List Int} (h : htC rs hs = 0) : gardenOk rs = true ∧ hs.length = rs.length ∧ heightsOk hs = true := by
  unfold htC at h
  split at h
  · rename_i hg
    split at h
    · rename_i hh; exact ⟨hg, hh.1, hh.2⟩
    · omega
  · omega
theorem htC_cases (rs hs : List Int) : htC rs hs = 0 ∨ htC rs hs = 1 ∨ htC rs hs = 2 := by
  unfold htC; split
  · split
    · exact .inl rfl
    · exact .inr (.inr rfl)
  · exact .inr (.inl rfl)
/-- the code of a garden and turns -/
def gtC (rs ts : List Int) : Int := if gardenOk rs = true then if turnsOk ts rs.length = true then 0 else 2 else 1
theorem gtC_ok {rs ts : List Int} (h : gtC rs ts = 0) : gardenOk rs = true ∧ turnsOk ts rs.length = true := by
  unfold gtC at h
  split at h
  · rename_i hg
    split at h
    · rename_i hh; exact ⟨hg, hh⟩
    · omega
  · omega
theorem gtC_cases (rs ts : List Int) : gtC rs ts = 0 ∨ gtC rs ts = 1 ∨ gtC rs ts = 2 := by
  unfold gtC; split
  · split
    · exact .inl rfl
    · exact .inr (.inr rfl)
  · exact .inr (.inl rfl)

/-! ### heights -/
/-- heights behind so many days without cuts -/
def growL (rs hs : List Int) (d : Int) : List Int := (List.range hs.length).map fun (i : Nat) => nth hs i + d * nth rs i
theorem growL_length (rs hs : List Int) (d : Int) : (growL rs hs d).length = hs.length := by simp [growL]
theorem nth_growL {rs hs : List Int} {d : Int} {k : Nat} (hk : k < hs.length) : nth (growL rs hs d) k = nth hs k + d * nth rs k := by simp [growL, nth, hk]
theorem nth_growA {rs hs : List Int} {d : Int} (h : hs.length = rs.length) (k : Nat) : nth (growL rs hs d) k = nth hs k + d * nth rs k := by
  by_cases hk : k < hs.length
  · exact nth_growL hk
  · rw [nth_end (by rw [growL_length]; omega), nth_end (zs := hs) (by omega), nth_end (zs := rs) (by omega)]; omega
/-- .. behind the cut of a plant, or of none -/
def cutAt (hs : List Int) (c : Int) : List Int := if c < 0 then hs else hs.set c.toNat 0
theorem cutAt_length (hs : List Int) (c : Int) : (cutAt hs c).length = hs.length := by unfold cutAt; split <;> simp
theorem nth_cutAt {hs : List Int} {c : Int} (hc : -1 ≤ c) (k : Nat) : nth (cutAt hs c) k = if c = (k : Int) then 0 else nth hs k := by
  unfold cutAt
  by_cases h : c < 0
  · rw [if_pos h, if_neg (by omega)]
  · rw [if_neg h]
    unfold nth
    rw [List.getElem?_set]
    by_cases e : c = (k : Int)
    · rw [if_pos (by omega), if_pos e]
      split <;> rfl
    · rw [if_neg (by omega), if_neg e]

/-! ### rules -/
/-- the rank of the plant i: by height for x = 0, by speed for others -/
def rkG (rs : List Int) (x : Int) (hs : List Int) (i : Nat) : Int := if x = 0 then nth hs i else if nth hs i < x then -1 else nth rs i
/-- the plant of the greatest rank among the first k, and this rank -/
def cutTo (rk : Nat → Int) : Nat → Int × Int
  | 0 => (-1, -1)
  | k + 1 => if (cutTo rk k).2 < rk k then ((k : Int), rk k) else cutTo rk k
theorem cutTo_yes {rk : Nat → Int} {k : Nat} (h : (cutTo rk k).2 < rk k) : cutTo rk (k + 1) = ((k : Int), rk k) := if_pos h
theorem cutTo_no {rk : Nat → Int} {k : Nat} (h : ¬ (cutTo rk k).2 < rk k) : cutTo rk (k + 1) = cutTo rk k := if_neg h
theorem cutTo_at (rk : Nat → Int) (k : Nat) : ((cutTo rk k).1 = -1 ∧ (cutTo rk k).2 = -1) ∨ ∃ j : Nat, j < k ∧ (cutTo rk k).1 = j ∧ (cutTo rk k).2 = rk j ∧ -1 < rk j := by
  induction k with
  | zero => exact .inl ⟨rfl, rfl⟩
  | succ k ih =>
    by_cases h : (cutTo rk k).2 < rk k
    · rw [cutTo_yes h]
      refine .inr ⟨k, by omega, rfl, rfl, ?_⟩
      rcases ih with ⟨_, h2⟩ | ⟨j, _, _, h3, h4⟩ <;> omega
    · rw [cutTo_no h]
      rcases ih with h1 | ⟨j, h1, h2⟩
      · exact .inl h1
      · exact .inr ⟨j, by omega, h2⟩
theorem cutTo_ge {rk : Nat → Int} {k j : Nat} (hj : j < k) : rk j ≤ (cutTo rk k).2 := by
  induction k with
  | zero => omega
  | succ k ih =>
    by_cases h : (cutTo rk k).2 < rk k
    · rw [cutTo_yes h]
      show rk j ≤ rk k
      by_cases e : j = k
      · subst e; omega
      · have := ih (by omega); omega
    · rw [cutTo_no h]
      by_cases e : j = k
      · subst e; omega
      · exact ih (by omega)
theorem cutTo_bd (rk : Nat → Int) (k : Nat) : -1 ≤ (cutTo rk k).1 ∧ (cutTo rk k).1 < k ∧ -1 ≤ (cutTo rk k).2 := by
  rcases cutTo_at rk k with ⟨h1, h2⟩ | ⟨j, h1, h2, h3, h4⟩ <;> omega
/-- the plant that a rule cuts -/
def cutG (rs : List Int) (x : Int) (hs : List Int) : Int := (cutTo (rkG rs x hs) rs.length).1
theorem cutG_bd (rs : List Int) (x : Int) (hs : List Int) : -1 ≤ cutG rs x hs ∧ cutG rs x hs < rs.length := ⟨(cutTo_bd _ _).1, (cutTo_bd _ _).2.1⟩
/-- by the rule of height there is one -/
theorem cutTo_one {rk : Nat → Int} (h : 0 ≤ rk 0) : cutTo rk 1 = (0, rk 0) := by
  have : (cutTo rk 0).2 < rk 0 := by show (-1 : Int) < rk 0; omega
  rw [cutTo_yes this]; rfl
theorem cutTo_some {rk : Nat → Int} {k : Nat} (hk : 0 < k) (h : 0 ≤ rk 0) : ∃ j : Nat, j < k ∧ (cutTo rk k).1 = j ∧ (cutTo rk k).2 = rk j := by
  rcases cutTo_at rk k with ⟨h1, h2⟩ | ⟨j, h1, h2, h3, _⟩
  · have := cutTo_ge (rk := rk) hk; omega
  · exact ⟨j, h1, h2, h3⟩

/-! ### days -/
/-- the heights behind n days of a rule -/
def stG (rs : List Int) (x : Int) : Nat → List Int
  | 0 => List.replicate rs.length 0
  | n + 1 => cutAt (growL rs (stG rs x n) 1) (cutG rs x (growL rs (stG rs x n) 1))
/-- the heights ahead of the cut of the day n -/
def upG (rs : List Int) (x : Int) (n : Nat) : List Int := growL rs (stG rs x n) 1
def dayG (rs : List Int) (x : Int) (n : Nat) : Int := cutG rs x (upG rs x n)
theorem stG_succ (rs : List Int) (x : Int) (n : Nat) : stG rs x (n + 1) = cutAt (upG rs x n) (dayG rs x n) := rfl
theorem stG_length (rs : List Int) (x : Int) (n : Nat) : (stG rs x n).length = rs.length := by
  induction n with
  | zero => simp [stG]
  | succ n ih => rw [stG_succ, cutAt_length, upG, growL_length, ih]
theorem upG_length (rs : List Int) (x : Int) (n : Nat) : (upG rs x n).length = rs.length := by rw [upG, growL_length, stG_length]
theorem dayG_bd (rs : List Int) (x : Int) (n : Nat) : -1 ≤ dayG rs x n ∧ dayG rs x n < rs.length := cutG_bd _ _ _
theorem nth_zeros (n k : Nat) : nth (List.replicate n 0) k = 0 := by
  unfold nth; rw [List.getElem?_replicate]; split <;> rfl
theorem stG_bd {rs : List Int} (h : gardenOk rs = true) (x : Int) (n k : Nat) : 0 ≤ nth (stG rs x n) k ∧ nth (stG rs x n) k ≤ 20 * n := by
  induction n with
  | zero => show 0 ≤ nth (List.replicate rs.length 0) k ∧ nth (List.replicate rs.length 0) k ≤ _; rw [nth_zeros]; omega
  | succ n ih =>
    have := gardenOk_any h k
    rw [stG_succ, nth_cutAt (dayG_bd rs x n).1, upG, nth_growA (stG_length rs x n)]
    split <;> omega
theorem upG_bd {rs : List Int} (h : gardenOk rs = true) (x : Int) (n k : Nat) : 0 ≤ nth (upG rs x n) k ∧ nth (upG rs x n) k ≤ 20 * (n + 1) := by
  have := gardenOk_any h k
  have := stG_bd h x n k
  rw [upG, nth_growA (stG_length rs x n)]
  omega
/-- the cuts of the first n days -/
def cutsG (rs : List Int) (x : Int) (n : Nat) : List Int := (List.range n).map fun (i : Nat) => dayG rs x i
theorem cutsG_length (rs : List Int) (x : Int) (n : Nat) : (cutsG rs x n).length = n := by simp [cutsG]
theorem cutsG_succ (rs : List Int) (x : Int) (n : Nat) : cutsG rs x (n + 1) = cutsG rs x n ++ [dayG rs x n] := by simp [cutsG, List.range_succ]
/-- the first heights that come again behind the day n -/
def backG (rs : List Int) (x : Int) (n : Nat) : Option Nat := (List.range (n + 1)).find? fun k => decide (stG rs x k = stG rs x (n + 1))
theorem backG_none {rs : List Int} {x : Int} {n : Nat} (h : ∀ k, k ≤ n → stG rs x k ≠ stG rs x (n + 1)) : backG rs x n = none := by
  unfold backG
  rw [List.find?_eq_none]
  intro k hk
  simp only [List.mem_range] at hk
  simpa using h k (by omega)
theorem backG_ne {rs : List Int} {x : Int} {n : Nat} (h : backG rs x n = none) {k : Nat} (hk : k ≤ n) : stG rs x k ≠ stG rs x (n + 1) := by
  unfold backG at h
  rw [List.find?_eq_none] at h
  simpa using h k (by simp; omega)
theorem find_first {p : Nat → Bool} {m k : Nat} (hk : k < m) (hp : p k = true) (h : ∀ i, i < k → p i = false) : (List.range m).find? p = some k := by
  rw [List.find?_eq_some_iff_append]
  refine ⟨hp, List.range k, (List.range (m - k - 1)).map (fun i => k + 1 + i), ?_, ?_⟩
  · refine List.ext_getElem (by simp; omega) fun i h1 h2 => ?_
    rw [List.getElem_range]
    by_cases e : i < k
    · rw [List.getElem_append_left (by simpa using e)]; simp
    · rw [List.getElem_append_right (by simp; omega)]
      by_cases e2 : i = k
      · subst e2; simp
      · rw [List.getElem_cons]
        rw [dif_neg (by simp; omega)]
        simp
        omega
  · intro i hi
    have := h i (by simpa using hi)
    simp [this]
theorem backG_some {rs : List Int} {x : Int} {n k : Nat} (hk : k ≤ n) (he : stG rs x k = stG rs x (n + 1)) (h : ∀ i, i < k → stG rs x i ≠ stG rs x (n + 1)) : backG rs x n = some k :=
  find_first (by omega) (by simpa using he) (fun i hi => by simpa using h i hi)
/-- the day that ends the round, below m, and the day behind which it begins -/
def roundG (rs : List Int) (x : Int) : Nat → Option (Nat × Nat)
  | 0 => none
  | m + 1 => match roundG rs x m with
    | some r => some r
    | none => match backG rs x m with
      | some a => some (m, a)
      | none => none
theorem roundG_more {rs : List Int} {x : Int} {m : Nat} {r : Nat × Nat} (h : roundG rs x m = some r) (d : Nat) : roundG rs x (m + d) = some r := by
  induction d with
  | zero => exact h
  | succ d ih => show roundG rs x (m + d + 1) = _; unfold roundG; rw [ih]
theorem roundG_at {rs : List Int} {x : Int} {m a M : Nat} (h0 : roundG rs x m = none) (h1 : backG rs x m = some a) (hM : m < M) : roundG rs x M = some (m, a) := by
  have h2 : roundG rs x (m + 1) = some (m, a) := by unfold roundG; rw [h0, h1]
  have := roundG_more h2 (M - (m + 1))
  rwa [show m + 1 + (M - (m + 1)) = M by omega] at this
theorem roundG_next {rs : List Int} {x : Int} {m : Nat} (h0 : roundG rs x m = none) (h1 : backG rs x m = none) : roundG rs x (m + 1) = none := by unfold roundG; rw [h0, h1]
theorem roundG_back {rs : List Int} {x : Int} {m n : Nat} (h0 : roundG rs x m = none) (hn : n < m) : backG rs x n = none := by
  induction m with
  | zero => omega
  | succ m ih =>
    unfold roundG at h0
    split at h0
    · cases h0
    · rename_i h2
      split at h0
      · cases h0
      · rename_i h3
        by_cases e : n = m
        · subst e; exact h3
        · exact ih h2 (by omega)
/-- no heights have come twice so far -/
theorem fresh_ne {rs : List Int} {x : Int} {m i j : Nat} (h0 : roundG rs x m = none) (hij : i < j) (hj : j ≤ m) : stG rs x i ≠ stG rs x j := by
  cases j with
  | zero => omega
  | succ j => exact backG_ne (roundG_back h0 (show j < m by omega)) (by omega)
theorem backG_of {rs : List Int} {x : Int} {n k : Nat} (h0 : roundG rs x n = none) (hk : k ≤ n) (he : stG rs x k = stG rs x (n + 1)) : backG rs x n = some k :=
  backG_some hk he fun i hi e => fresh_ne h0 (i := i) (j := k) hi hk (e.trans he.symm)

/-- the turns of a rule, the days ahead, the code -/
def rdT (rs : List Int) (x : Int) : List Int := match roundG rs x 200 with
  | some (n, a) => (cutsG rs x (n + 1)).drop a
  | none => []
def rdD (rs : List Int) (x : Int) : Int := match roundG rs x 200 with
  | some (_, a) => (a : Int)
  | none => 0
def rdC (rs : List Int) (x : Int) : Int := match roundG rs x 200 with
  | some _ => 0
  | none => 3
theorem rd_some {rs : List Int} {x : Int} {n a : Nat} (h0 : roundG rs x n = none) (h1 : backG rs x n = some a) (hn : n < 200) : rdT rs x = (cutsG rs x (n + 1)).drop a ∧ rdD rs x = a ∧ rdC rs x = 0 := by
  have := roundG_at h0 h1 hn
  unfold rdT rdD rdC
  rw [this]
  exact ⟨rfl, rfl, rfl⟩
theorem rd_none {rs : List Int} {x : Int} (h0 : roundG rs x 200 = none) : rdT rs x = [] ∧ rdD rs x = 0 ∧ rdC rs x = 3 := by
  unfold rdT rdD rdC
  rw [h0]
  exact ⟨rfl, rfl, rfl⟩
theorem roundG_lt {rs : List Int} {x : Int} {m n a : Nat} (h : roundG rs x m = some (n, a)) : n < m ∧ a ≤ n := by
  induction m with
  | zero => cases h
  | succ m ih =>
    unfold roundG at h
    split at h
    · rename_i h2; have := ih (by rw [h2]; exact h); omega
    · split at h
      · rename_i h3
        obtain ⟨rfl, rfl⟩ : m = n ∧ _ = a := by simpa using h
        refine ⟨by omega, ?_⟩
        unfold backG at h3
        have := List.mem_of_find?_eq_some h3
        simp at this; omega
      · cases h
theorem rdT_len (rs : List Int) (x : Int) : (rdT rs x).length ≤ 200 := by
  unfold rdT
  split
  · rename_i n a h
    have := roundG_lt h
    simp [cutsG_length]; omega
  · simp

/-- the greatest height ahead of a cut in the first n days, by the rule of height -/
def hiG (rs : List Int) : Nat → Int
  | 0 => 0
  | n + 1 => max (hiG rs n) (cutTo (rkG rs 0 (upG rs 0 n)) rs.length).2
theorem hiG_bd {rs : List Int} (h : gardenOk rs = true) (n : Nat) : 0 ≤ hiG rs n ∧ hiG rs n ≤ 20 * n := by
  induction n with
  | zero => simp [hiG]
  | succ n ih =>
    unfold hiG
    obtain ⟨j, _, _, e⟩ := cutTo_some (rk := rkG rs 0 (upG rs 0 n)) (k := rs.length) (by have := gardenOk_len h; omega) (by unfold rkG; rw [if_pos rfl]; exact (upG_bd h 0 n 0).1)
    have : rkG rs 0 (upG rs 0 n) j = nth (upG rs 0 n) j := if_pos rfl
    have := upG_bd h 0 n j
    omega

/-! ### turns -/
/-- the heights behind n days of turns -/
def tnG (rs ts : List Int) : Nat → List Int
  | 0 => List.replicate rs.length 0
  | n + 1 => cutAt (growL rs (tnG rs ts n) 1) (nth ts (n % ts.length))
theorem tnG_succ (rs ts : List Int) (n : Nat) : tnG rs ts (n + 1) = cutAt (growL rs (tnG rs ts n) 1) (nth ts (n % ts.length)) := rfl
theorem tnG_length (rs ts : List Int) (n : Nat) : (tnG rs ts n).length = rs.length := by
  induction n with
  | zero => simp [tnG]
  | succ n ih => rw [tnG_succ, cutAt_length, growL_length, ih]
theorem turn_bd {ts : List Int} {k : Int} (h : turnsOk ts k = true) (n : Nat) : 0 < ts.length ∧ ts.length ≤ 120 ∧ -1 ≤ nth ts (n % ts.length) ∧ nth ts (n % ts.length) < k := by
  unfold turnsOk at h
  rw [Bool.and_eq_true, List.all_eq_true] at h
  have h1 := inB_true.1 h.2
  have h2 := inB_true.1 (h.1 _ (nth_mem (Nat.mod_lt n (show 0 < ts.length by omega))))
  omega
theorem tnG_bd {rs ts : List Int} (h : gardenOk rs = true) (ht : turnsOk ts rs.length = true) (n k : Nat) : 0 ≤ nth (tnG rs ts n) k ∧ nth (tnG rs ts n) k ≤ 20 * n := by
  induction n with
  | zero => show 0 ≤ nth (List.replicate rs.length 0) k ∧ nth (List.replicate rs.length 0) k ≤ _; rw [nth_zeros]; omega
  | succ n ih =>
    have := gardenOk_any h k
    have := turn_bd ht n
    rw [tnG_succ, nth_cutAt (by omega), nth_growA (tnG_length rs ts n)]
    split <;> omega

end Go.Proofs.Ytbhpflhopajbfaa
