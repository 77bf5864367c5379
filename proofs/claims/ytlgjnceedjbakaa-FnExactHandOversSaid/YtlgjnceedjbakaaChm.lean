/-
  Channels: lists of turns, all with as many slots; on which of them a task has a turn in a slot; clashes; the turns of all together. Mathematics.
-/
import Derived.Test.YtlgjnceedjbakaaLlh
import Derived.Test.YtlgjnceedjbakaaShares
namespace Go.Proofs.Ytlgjnceedjbakaa
open Go.RowKit Go.Shelf

/-- what channels for k tasks are -/
def chOk (k : Int) (xss : List (List Int)) : Bool := inB k 1 8 && inB xss.length 1 4 && (List.range xss.length).all fun c => turnsOk (lst xss c) k && (lst xss c).length == (lst xss 0).length
structure Chans (k : Int) (xss : List (List Int)) : Prop where
  k0 : 1 ≤ k
  k8 : k ≤ 8
  m0 : 1 ≤ xss.length
  m4 : xss.length ≤ 4
  turns : ∀ c, c < xss.length → turnsOk (lst xss c) k = true
  len : ∀ c, c < xss.length → (lst xss c).length = (lst xss 0).length
theorem chOk_iff {k : Int} {xss : List (List Int)} : chOk k xss = true ↔ Chans k xss := by
  unfold chOk
  rw [Bool.and_eq_true, Bool.and_eq_true, inB_true, inB_true, List.all_eq_true]
  constructor
  · rintro ⟨⟨h1, h2⟩, h3⟩
    have h4 : ∀ c, c < xss.length → turnsOk (lst xss c) k = true ∧ (lst xss c).length = (lst xss 0).length := fun c hc => by
      have := h3 c (List.mem_range.2 hc)
      simpa using this
    exact ⟨h1.1, h1.2, by omega, by omega, fun c hc => (h4 c hc).1, fun c hc => (h4 c hc).2⟩
  · intro h
    exact ⟨⟨⟨h.k0, h.k8⟩, by have := h.m0; omega, by have := h.m4; omega⟩, fun c hc => by simp [h.turns c (List.mem_range.1 hc), h.len c (List.mem_range.1 hc)]⟩
theorem chOk_k {k : Int} {xss : List (List Int)} (h : inB k 1 8 = false) : chOk k xss = false := by unfold chOk; rw [h]; rfl
theorem chOk_m {k : Int} {xss : List (List Int)} (h : ¬ (1 ≤ xss.length ∧ xss.length ≤ 4)) : chOk k xss = false := by
  cases e : chOk k xss
  · rfl
  · have := chOk_iff.1 e
    exact absurd ⟨this.m0, this.m4⟩ h
theorem chOk_no {k : Int} {xss : List (List Int)} {c : Nat} (hc : c < xss.length) (h : turnsOk (lst xss c) k = false ∨ (lst xss c).length ≠ (lst xss 0).length) : chOk k xss = false := by
  cases e : chOk k xss
  · rfl
  · have := chOk_iff.1 e
    rcases h with h | h
    · rw [this.turns c hc] at h; cases h
    · exact absurd (this.len c hc) h
theorem chOk_yes {k : Int} {xss : List (List Int)} (h1 : inB k 1 8 = true) (h2 : 1 ≤ xss.length ∧ xss.length ≤ 4) (h3 : ∀ c, c < xss.length → turnsOk (lst xss c) k = true ∧ (lst xss c).length = (lst xss 0).length) : chOk k xss = true :=
  chOk_iff.2 ⟨(inB_true.1 h1).1, (inB_true.1 h1).2, h2.1, h2.2, fun c hc => (h3 c hc).1, fun c hc => (h3 c hc).2⟩
/-- how many slots they have -/
def chN (xss : List (List Int)) : Nat := (lst xss 0).length
theorem Chans.n {k : Int} {xss : List (List Int)} (h : Chans k xss) : 1 ≤ chN xss ∧ chN xss ≤ 120 := turnsOk_len (h.turns 0 h.m0)
theorem Chans.at_ {k : Int} {xss : List (List Int)} (h : Chans k xss) {c : Nat} (hc : c < xss.length) : (lst xss c).length = chN xss := h.len c hc

/-! ### turns of a task -/
/-- the channels below c on which the task i has a turn in the slot s -/
def chTo (xss : List (List Int)) (s : Nat) (i : Int) (c : Nat) : List Nat := (List.range c).filter fun d => nth (lst xss d) s == i
theorem chTo_zero (xss : List (List Int)) (s : Nat) (i : Int) : chTo xss s i 0 = [] := rfl
theorem chTo_yes {xss : List (List Int)} {s : Nat} {i : Int} {c : Nat} (h : nth (lst xss c) s = i) : chTo xss s i (c + 1) = chTo xss s i c ++ [c] := by simp [chTo, List.range_succ, h]
theorem chTo_no {xss : List (List Int)} {s : Nat} {i : Int} {c : Nat} (h : nth (lst xss c) s ≠ i) : chTo xss s i (c + 1) = chTo xss s i c := by simp [chTo, List.range_succ, h]
def chL (xss : List (List Int)) (s : Nat) (i : Int) : List Nat := chTo xss s i xss.length
theorem chTo_len (xss : List (List Int)) (s : Nat) (i : Int) (c : Nat) : (chTo xss s i c).length ≤ c := by
  have := List.length_filter_le (fun d => nth (lst xss d) s == i) (List.range c)
  simpa [chTo] using this
theorem chTo_lt {xss : List (List Int)} {s : Nat} {i : Int} {c d : Nat} (h : d ∈ chTo xss s i c) : d < c := by
  simp [chTo] at h; exact h.1
def asI (xs : List Nat) : List Int := xs.map fun (c : Nat) => (c : Int)
theorem asI_length (xs : List Nat) : (asI xs).length = xs.length := by simp [asI]
theorem asI_snoc (xs : List Nat) (c : Nat) : asI (xs ++ [c]) = asI xs ++ [(c : Int)] := by simp [asI]
theorem asI_append (xs ys : List Nat) : asI (xs ++ ys) = asI xs ++ asI ys := by simp [asI]

/-! ### clashes -/
/-- the place p tells the slot p / K and the task p % K -/
def clashB (K : Nat) (xss : List (List Int)) (p : Nat) : Bool := decide (1 < (chL xss (p / K) ((p % K : Nat) : Int)).length)
def clTo (K : Nat) (xss : List (List Int)) (p : Nat) : List Nat := (List.range p).filter (clashB K xss)
theorem clTo_zero (K : Nat) (xss : List (List Int)) : clTo K xss 0 = [] := rfl
theorem clTo_yes {K : Nat} {xss : List (List Int)} {p : Nat} (h : clashB K xss p = true) : clTo K xss (p + 1) = clTo K xss p ++ [p] := by simp [clTo, List.range_succ, h]
theorem clTo_no {K : Nat} {xss : List (List Int)} {p : Nat} (h : clashB K xss p = false) : clTo K xss (p + 1) = clTo K xss p := by simp [clTo, List.range_succ, h]
theorem clTo_len (K : Nat) (xss : List (List Int)) (p : Nat) : (clTo K xss p).length ≤ p := by
  have := List.length_filter_le (clashB K xss) (List.range p)
  simpa [clTo] using this
theorem clTo_prefix (K : Nat) (xss : List (List Int)) {p q : Nat} (h : p ≤ q) : clTo K xss p <+: clTo K xss q := by
  induction q with
  | zero => obtain rfl : p = 0 := by omega
            exact List.prefix_refl _
  | succ q ih =>
    by_cases e : p = q + 1
    · subst e; exact List.prefix_refl _
    · refine (ih (by omega)).trans ?_
      cases hn : clashB K xss q
      · rw [clTo_no hn]; exact List.prefix_refl _
      · rw [clTo_yes hn]; exact List.prefix_append _ _
theorem clTo_at {K : Nat} {xss : List (List Int)} {p q : Nat} (hp : p < q) (h : clashB K xss p = true) : (clTo K xss q)[(clTo K xss p).length]? = some p := by
  obtain ⟨t, ht⟩ := clTo_prefix K xss (show p + 1 ≤ q by omega)
  rw [← ht, clTo_yes h]; simp
def clL (K : Nat) (xss : List (List Int)) : List Nat := clTo K xss (chN xss * K)
def clN (K : Nat) (xss : List (List Int)) (j : Nat) : Nat := (clL K xss)[j]?.getD 0
theorem clN_eq {K : Nat} {xss : List (List Int)} {p : Nat} (hp : p < chN xss * K) (h : clashB K xss p = true) : clN K xss (clTo K xss p).length = p := by
  unfold clN clL; rw [clTo_at hp h]; rfl
theorem clTo_lt {K : Nat} {xss : List (List Int)} {p : Nat} (hp : p < chN xss * K) (h : clashB K xss p = true) : (clTo K xss p).length < (clL K xss).length :=
  (List.getElem?_eq_some_iff.1 (clTo_at hp h)).1
/-- the place of a slot and a task -/
theorem place_div {K s i : Nat} (h : i < K) : (s * K + i) / K = s := by
  rw [Nat.add_comm, Nat.add_mul_div_right _ _ (by omega), Nat.div_eq_of_lt h, Nat.zero_add]
theorem place_mod {K s i : Nat} (h : i < K) : (s * K + i) % K = i := by
  rw [Nat.add_comm, Nat.add_mul_mod_self_right, Nat.mod_eq_of_lt h]
theorem clashB_at {K s i : Nat} {xss : List (List Int)} (h : i < K) : clashB K xss (s * K + i) = decide (1 < (chL xss s (i : Int)).length) := by
  unfold clashB; rw [place_div h, place_mod h]
theorem place_lt {K s i N : Nat} (h : i < K) (hs : s < N) : s * K + i < N * K := by
  have : (s + 1) * K ≤ N * K := Nat.mul_le_mul_right K hs
  rw [Nat.succ_mul] at this; omega
/-- the first n clashes, as pairs -/
def clPairs (K : Nat) (ps : List Nat) : List (List Int) := ps.map fun p => [((p / K : Nat) : Int), ((p % K : Nat) : Int)]

/-! ### all channels together -/
def togA (xss : List (List Int)) (i : Int) (s : Nat) : Int := if 0 < (chL xss s i).length then i else -1
def togL (xss : List (List Int)) (i : Int) : List Int := (List.range (chN xss)).map (togA xss i)
theorem togL_length (xss : List (List Int)) (i : Int) : (togL xss i).length = chN xss := by simp [togL]
theorem nth_togL {xss : List (List Int)} {i : Int} {s : Nat} (h : s < chN xss) : nth (togL xss i) s = togA xss i s := by simp [togL, nth, h]

end Go.Proofs.Ytlgjnceedjbakaa
