/-
  Best turns, mathematics: the turns of n slots in their order, as digits; the first of the least sum of waits.
  Conditions: none but those that stand at each lemma.
-/
import Derived.Test.YtgndbifcncklgaaWmb
namespace Go.Proofs.Ytgndbifcncklgaa

/-- the digits of v to the base K, p of them, the highest first -/
def dig (K : Nat) : Nat → Nat → List Int
  | 0, _ => []
  | p + 1, v => dig K p (v / K) ++ [((v % K : Nat) : Int)]
theorem dig_len (K : Nat) : ∀ (p v : Nat), (dig K p v).length = p
  | 0, _ => rfl
  | p + 1, v => by simp [dig, dig_len K p]
theorem dig_bd {K : Nat} (hK : 0 < K) : ∀ (p v : Nat), ∀ x ∈ dig K p v, 0 ≤ x ∧ x < K
  | 0, _ => by simp [dig]
  | p + 1, v => by
    intro x hx
    simp only [dig, List.mem_append, List.mem_singleton] at hx
    rcases hx with h | h
    · exact dig_bd hK p (v / K) x h
    · subst h; have := Nat.mod_lt v hK; omega
theorem dig_nth {K : Nat} (hK : 0 < K) {p v i : Nat} (hi : i < p) : 0 ≤ nth (dig K p v) i ∧ nth (dig K p v) i < K :=
  dig_bd hK p v _ (nth_mem (by rw [dig_len]; exact hi))
theorem dig_mul {K : Nat} (hK : 0 < K) (q x : Nat) : ∀ j : Nat, dig K (q + j) (x * K ^ j) = dig K q x ++ List.replicate j 0
  | 0 => by simp
  | j + 1 => by
    have h1 : x * K ^ (j + 1) = x * K ^ j * K := by rw [Nat.pow_succ, Nat.mul_assoc]
    show dig K (q + j + 1) _ = _
    simp only [dig]
    rw [h1, Nat.mul_div_cancel _ hK, Nat.mul_mod_left, dig_mul hK q x j, List.replicate_succ']
    simp
theorem dig_zero {K : Nat} (hK : 0 < K) (n : Nat) : dig K n 0 = List.replicate n 0 := by
  have := dig_mul hK 0 0 n
  simpa [dig] using this
/-- a digit that can be raised -/
theorem dig_up {K : Nat} {q x j : Nat} (h : x % K + 1 < K) : ((dig K (q + 1) x ++ List.replicate j 0).set q ((x % K : Nat) + 1 : Int)) = dig K (q + 1) (x + 1) ++ List.replicate j 0 := by
  have h1 : (x + 1) % K = x % K + 1 := by rw [Nat.add_mod, Nat.mod_eq_of_lt (show 1 < K by omega), Nat.mod_eq_of_lt (by omega)]
  have h2 : (x + 1) / K = x / K := by
    have e1 := Nat.div_add_mod x K
    have e2 := Nat.div_add_mod (x + 1) K
    rw [h1] at e2
    have : K * ((x + 1) / K) = K * (x / K) := by omega
    exact Nat.eq_of_mul_eq_mul_left (by omega) this
  simp only [dig]
  rw [h1, h2, List.append_assoc, List.append_assoc, List.set_append_right _ _ (by rw [dig_len]; exact Nat.le_refl _), dig_len, Nat.sub_self]
  simp
/-- a digit that is carried -/
theorem dig_over {K : Nat} {q x j : Nat} : ((dig K (q + 1) x ++ List.replicate j 0).set q 0) = dig K q (x / K) ++ List.replicate (j + 1) 0 := by
  simp only [dig]
  rw [List.append_assoc, List.set_append_right _ _ (by rw [dig_len]; exact Nat.le_refl _), dig_len, Nat.sub_self, List.replicate_succ]
  simp
theorem over_next {K x : Nat} (h : x % K + 1 = K) : x + 1 = (x / K + 1) * K := by
  have := Nat.div_add_mod x K
  rw [Nat.add_mul, Nat.mul_comm (x / K)]
  omega
theorem dig_last {K q x j : Nat} : nth (dig K (q + 1) x ++ List.replicate j 0) q = ((x % K : Nat) : Int) := by
  simp only [dig]
  unfold nth
  rw [List.append_assoc, List.getElem?_append_right (by rw [dig_len]; exact Nat.le_refl _), dig_len, Nat.sub_self]
  simp
theorem up_lt {K n j x : Nat} (hK : 0 < K) (hj : j + 1 ≤ n) (hx : x < K ^ (n - j)) (h : x % K + 1 < K) : (x + 1) * K ^ j < K ^ n := by
  have h1 : (x + 1) % K = x % K + 1 := by rw [Nat.add_mod, Nat.mod_eq_of_lt (show 1 < K by omega), Nat.mod_eq_of_lt (by omega)]
  have h2 : x + 1 < K ^ (n - j) := by
    refine Nat.lt_of_le_of_ne hx fun e => ?_
    have : (x + 1) % K = 0 := by
      rw [e, show n - j = (n - j - 1) + 1 by omega, Nat.pow_succ]
      exact Nat.mul_mod_left _ _
    omega
  have h3 : (x + 1) * K ^ j < K ^ (n - j) * K ^ j := Nat.mul_lt_mul_of_pos_right h2 (Nat.pow_pos hK)
  rw [← Nat.pow_add, show n - j + j = n by omega] at h3
  exact h3

/-! ### the best so far -/
abbrev Bst := Option (List Int × Nat)
def comb : Bst → Bst → Bst
  | none, y => y
  | some x, none => some x
  | some x, some y => if y.2 < x.2 then some y else some x
theorem comb_none (x : Bst) : comb x none = x := by cases x <;> rfl
theorem none_comb (x : Bst) : comb none x = x := rfl
theorem comb_lt {x y : List Int × Nat} (h : y.2 < x.2) : comb (some x) (some y) = some y := if_pos h
theorem comb_ge {x y : List Int × Nat} (h : ¬ y.2 < x.2) : comb (some x) (some y) = some x := if_neg h
theorem comb_assoc (x y z : Bst) : comb (comb x y) z = comb x (comb y z) := by
  cases x with
  | none => rfl
  | some x =>
    cases y with
    | none => rfl
    | some y =>
      cases z with
      | none => rw [comb_none, comb_none]
      | some z =>
        by_cases h1 : y.2 < x.2
        · rw [comb_lt h1]
          by_cases h2 : z.2 < y.2
          · rw [comb_lt h2, comb_lt (show z.2 < x.2 by omega)]
          · rw [comb_ge h2, comb_lt h1]
        · rw [comb_ge h1]
          by_cases h2 : z.2 < y.2
          · rw [comb_lt h2]
          · rw [comb_ge h2, comb_ge h1, comb_ge (show ¬ z.2 < x.2 by omega)]
/-- what the turns t are worth -/
def leafB (ws t : List Int) : Bst := if hasAll t (twL ws) then some (t, suB (wS t) (wQ ws) ws.length) else none
/-- the best of c turns from the number lo on -/
def segB (ws : List Int) (n lo : Nat) : Nat → Bst
  | 0 => none
  | c + 1 => comb (segB ws n lo c) (leafB ws (dig ws.length n (lo + c)))
theorem segB_add (ws : List Int) (n lo a : Nat) : ∀ b : Nat, segB ws n lo (a + b) = comb (segB ws n lo a) (segB ws n (lo + a) b)
  | 0 => by simp [segB, comb_none]
  | b + 1 => by
    show comb (segB ws n lo (a + b)) (leafB ws (dig ws.length n (lo + (a + b)))) = comb (segB ws n lo a) (comb (segB ws n (lo + a) b) (leafB ws (dig ws.length n (lo + a + b))))
    rw [segB_add ws n lo a b, comb_assoc, Nat.add_assoc]
/-- the turns that begin with the digits of v: r further slots -/
def subB (ws : List Int) (n v r : Nat) : Bst := segB ws n (v * ws.length ^ r) (ws.length ^ r)
theorem subB_zero (ws : List Int) (n v : Nat) : subB ws n v 0 = leafB ws (dig ws.length n v) := by
  simp [subB, segB, none_comb]
/-- .. over the first i of the next digits -/
def midB (ws : List Int) (n v r i : Nat) : Bst := segB ws n (v * ws.length ^ (r + 1)) (i * ws.length ^ r)
theorem midB_zero (ws : List Int) (n v r : Nat) : midB ws n v r 0 = none := by simp [midB, segB]
theorem midB_succ (ws : List Int) (n v r i : Nat) : midB ws n v r (i + 1) = comb (midB ws n v r i) (subB ws n (v * ws.length + i) r) := by
  unfold midB subB
  rw [Nat.add_mul, Nat.one_mul, segB_add]
  congr 2
  rw [Nat.add_mul, Nat.pow_succ, Nat.mul_comm (ws.length ^ r) ws.length, Nat.mul_assoc]
theorem midB_all (ws : List Int) (n v r : Nat) : midB ws n v r ws.length = subB ws n v (r + 1) := by
  unfold midB subB
  rw [Nat.pow_succ, Nat.mul_comm (ws.length ^ r) ws.length]
theorem subB_all (ws : List Int) (n : Nat) : subB ws n 0 n = segB ws n 0 (ws.length ^ n) := by simp [subB]
theorem segB_some {ws : List Int} {n lo c : Nat} {x : List Int × Nat} (h : segB ws n lo c = some x) : ∃ m, m < c ∧ x = (dig ws.length n (lo + m), suB (wS (dig ws.length n (lo + m))) (wQ ws) ws.length) ∧ hasAll (dig ws.length n (lo + m)) (twL ws) = true := by
  induction c generalizing x with
  | zero => cases h
  | succ c ih =>
    simp only [segB] at h
    have hleaf : ∀ y, leafB ws (dig ws.length n (lo + c)) = some y → y = (dig ws.length n (lo + c), suB (wS (dig ws.length n (lo + c))) (wQ ws) ws.length) ∧ hasAll (dig ws.length n (lo + c)) (twL ws) = true := fun y hy => by
      unfold leafB at hy
      split at hy
      · rename_i hh; cases hy; exact ⟨rfl, hh⟩
      · cases hy
    cases h1 : segB ws n lo c with
    | none =>
      rw [h1, none_comb] at h
      exact ⟨c, by omega, hleaf x h⟩
    | some y =>
      rw [h1] at h
      cases h2 : leafB ws (dig ws.length n (lo + c)) with
      | none =>
        rw [h2, comb_none] at h
        cases h
        obtain ⟨m, hm, h3⟩ := ih h1
        exact ⟨m, by omega, h3⟩
      | some z =>
        rw [h2] at h
        simp only [comb] at h
        split at h
        · cases h; exact ⟨c, by omega, hleaf _ h2⟩
        · cases h
          obtain ⟨m, hm, h3⟩ := ih h1
          exact ⟨m, by omega, h3⟩
theorem low_lt {a c b : Nat} (hb : 0 < b) : lowN a b * lowD c b < lowN c b * lowD a b ↔ a < c := by
  have h1 := low_mul a b hb
  have h2 := low_mul c b hb
  have pa : 0 < lowD a b := lowD_pos hb
  have pc : 0 < lowD c b := lowD_pos hb
  have e1 : lowN a b * lowD c b * b = a * (lowD a b * lowD c b) := by
    rw [Nat.mul_right_comm, h1, Nat.mul_assoc]
  have e2 : lowN c b * lowD a b * b = c * (lowD a b * lowD c b) := by
    rw [Nat.mul_right_comm, h2, Nat.mul_assoc, Nat.mul_comm (lowD c b)]
  rw [← Nat.mul_lt_mul_right hb, e1, e2, Nat.mul_lt_mul_right (Nat.mul_pos pa pc)]

end Go.Proofs.Ytgndbifcncklgaa
