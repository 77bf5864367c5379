/-
  Distances on a ground: the mathematics of the search in the breadth that program and model share.
-/
import Derived.Test.YtieobjoijalijaaGnd
namespace Go.Proofs.Ytieobjoijalijaa

/-- one place is looked at: it gets its distance if it has none and is near -/
def bStep (m : Nat) (f : Int) (j : Nat) (s : List Int × List Int) : List Int × List Int :=
  if nth s.1 j < 0 ∧ nearB m f.toNat j = true then (s.1.set j (nth s.1 f.toNat + 1), s.2 ++ [(j : Int)]) else s
/-- the places below j are looked at -/
def bIn (m : Nat) (f : Int) : Nat → List Int × List Int → List Int × List Int
  | 0, s => s
  | j + 1, s => bStep m f j (bIn m f j s)
/-- a list of near places is looked at -/
def bLst (f : Int) : List Nat → List Int × List Int → List Int × List Int
  | [], s => s
  | j :: js, s => bLst f js (if nth s.1 j < 0 then (s.1.set j (nth s.1 f.toNat + 1), s.2 ++ [(j : Int)]) else s)
def nearL (m f n : Nat) : List Nat := (List.range n).filter fun j => nearB m f j
theorem bLst_append (f : Int) : ∀ (xs ys : List Nat) (s : List Int × List Int), bLst f (xs ++ ys) s = bLst f ys (bLst f xs s)
  | [], _, _ => rfl
  | x :: xs, ys, s => by simp only [List.cons_append, bLst]; exact bLst_append f xs ys _
theorem bIn_lst (m : Nat) (f : Int) (s : List Int × List Int) : ∀ n, bIn m f n s = bLst f (nearL m f.toNat n) s
  | 0 => rfl
  | n + 1 => by
    have ih := bIn_lst m f s n
    simp only [bIn]
    unfold nearL
    rw [List.range_succ, List.filter_append, bLst_append]
    unfold nearL at ih
    rw [← ih]
    unfold bStep
    cases h : nearB m f.toNat n
    · simp [h, bLst]
    · simp [h, bLst]
def bInit (n : Nat) (i : Nat) : List Int × List Int := ((List.replicate n (-1 : Int)).set i 0, [(i : Int)])
/-- behind k places of the list -/
def bOut (m n i : Nat) : Nat → List Int × List Int
  | 0 => bInit n i
  | k + 1 => bIn m (nth (bOut m n i k).2 k) n (bOut m n i k)
/-- how many have a distance -/
def bCnt (ds : List Int) : Nat := (ds.filter fun d => decide (0 ≤ d)).length
theorem bCnt_set : ∀ (ds : List Int) (j : Nat) (v : Int), j < ds.length → nth ds j < 0 → 0 ≤ v → bCnt (ds.set j v) = bCnt ds + 1
  | [], j, v, h, _, _ => by simp at h
  | d :: ds, 0, v, _, h1, h2 => by
    have h1 : d < 0 := by simpa [nth] using h1
    simp [bCnt, h2, show ¬ 0 ≤ d by omega]
  | d :: ds, j + 1, v, h, h1, h2 => by
    have ih := bCnt_set ds j v (by simpa using h) (by simpa [nth] using h1) h2
    unfold bCnt at ih ⊢
    simp only [List.set_cons_succ, List.filter_cons]
    split <;> simp [ih]
/-- what stands in the search -/
structure BInv (n : Nat) (s : List Int × List Int) : Prop where
  len : s.1.length = n
  low : ∀ j, j < n → -1 ≤ nth s.1 j ∧ nth s.1 j ≤ n
  cnt : bCnt s.1 = s.2.length
  at_ : ∀ t, t < s.2.length → 0 ≤ nth s.2 t ∧ nth s.2 t < n ∧ 0 ≤ nth s.1 (nth s.2 t).toNat ∧ nth s.1 (nth s.2 t).toNat ≤ t
theorem BInv.le {n : Nat} {s : List Int × List Int} (h : BInv n s) : s.2.length ≤ n := by
  rw [← h.cnt, ← h.len]
  exact List.length_filter_le _ _
theorem nth_set_same {ds : List Int} {j : Nat} (v : Int) (h : j < ds.length) : nth (ds.set j v) j = v := by simp [nth, h]
theorem nth_set_other {ds : List Int} {j k : Nat} (v : Int) (h : j ≠ k) : nth (ds.set j v) k = nth ds k := by simp [nth, h]
theorem nth_app_lo {xs : List Int} (y : Int) {k : Nat} (h : k < xs.length) : nth (xs ++ [y]) k = nth xs k := by unfold nth; rw [List.getElem?_append_left h]
theorem nth_app_hi (xs : List Int) (y : Int) : nth (xs ++ [y]) xs.length = y := by simp [nth]
theorem BInv.put {n : Nat} {ds qs : List Int} (h : BInv n (ds, qs)) {f : Int} {j k : Nat} (hj : j < n) (hk : k < qs.length) (hf : f = nth qs k) (h0 : nth ds j < 0) :
    BInv n (ds.set j (nth ds f.toNat + 1), qs ++ [(j : Int)]) := by
  have hfa := h.at_ k hk
  simp only at hfa
  rw [← hf] at hfa
  have hl : ds.length = n := h.len
  have hle : qs.length + 1 ≤ n := by
    have h1 := bCnt_set ds j (nth ds f.toNat + 1) (by omega) h0 (by omega)
    have h2 : bCnt (ds.set j (nth ds f.toNat + 1)) ≤ (ds.set j (nth ds f.toNat + 1)).length := List.length_filter_le _ _
    have h3 := h.cnt
    simp only [List.length_set] at h2 h3
    omega
  refine ⟨by simpa using hl, fun i hi => ?_, ?_, fun t ht => ?_⟩
  · simp only
    by_cases e : j = i
    · subst e
      rw [nth_set_same _ (by omega)]
      omega
    · rw [nth_set_other _ e]; exact h.low i hi
  · have := bCnt_set ds j (nth ds f.toNat + 1) (by omega) h0 (by omega)
    have h3 := h.cnt
    simp only [List.length_append, List.length_cons, List.length_nil] at h3 ⊢
    omega
  · simp only [List.length_append, List.length_cons, List.length_nil] at ht ⊢
    by_cases e : t < qs.length
    · rw [nth_app_lo _ e]
      have h1 := h.at_ t e
      simp only at h1
      have hne : j ≠ (nth qs t).toNat := fun e2 => by rw [e2] at h0; omega
      rw [nth_set_other _ hne]
      exact h1
    · obtain rfl : t = qs.length := by omega
      rw [nth_app_hi, Int.toNat_natCast, nth_set_same _ (by omega)]
      omega
theorem BInv.step {m n : Nat} {s : List Int × List Int} (h : BInv n s) {f : Int} {j k : Nat} (hj : j < n) (hk : k < s.2.length) (hf : f = nth s.2 k) : BInv n (bStep m f j s) ∧ s.2.length ≤ (bStep m f j s).2.length ∧ nth (bStep m f j s).2 k = nth s.2 k := by
  unfold bStep
  split
  · rename_i h1
    exact ⟨BInv.put h hj hk hf h1.1, by simp, nth_app_lo _ hk⟩
  · exact ⟨h, Nat.le_refl _, rfl⟩
theorem BInv.into {m n : Nat} {s : List Int × List Int} (h : BInv n s) {f : Int} {k : Nat} (hk : k < s.2.length) (hf : f = nth s.2 k) : ∀ j, j ≤ n → BInv n (bIn m f j s) ∧ s.2.length ≤ (bIn m f j s).2.length ∧ nth (bIn m f j s).2 k = nth s.2 k
  | 0, _ => ⟨h, Nat.le_refl _, rfl⟩
  | j + 1, hj => by
    have ih := BInv.into (m := m) h hk hf j (by omega)
    have h1 := ih.1.step (m := m) (f := f) (j := j) (k := k) (by omega) (by omega) (by rw [ih.2.2, hf])
    simp only [bIn]
    exact ⟨h1.1, by omega, by rw [h1.2.2, ih.2.2]⟩
theorem bInit_inv {n i : Nat} (h : i < n) : BInv n (bInit n i) := by
  have hn : ∀ j, nth (List.replicate n (-1 : Int)) j = -1 ∨ nth (List.replicate n (-1 : Int)) j = 0 := fun j => by
    unfold nth
    rw [List.getElem?_replicate]
    split
    · left; rfl
    · right; rfl
  have hi : nth (List.replicate n (-1 : Int)) i = -1 := by
    unfold nth
    rw [List.getElem?_replicate, if_pos h]; rfl
  have hc0 : bCnt (List.replicate n (-1 : Int)) = 0 := by simp [bCnt]
  refine ⟨by simp [bInit], fun j hj => ?_, ?_, fun t ht => ?_⟩
  · show -1 ≤ nth ((List.replicate n (-1 : Int)).set i 0) j ∧ nth ((List.replicate n (-1 : Int)).set i 0) j ≤ n
    by_cases e : i = j
    · subst e; rw [nth_set_same _ (by simpa using h)]; omega
    · rw [nth_set_other _ e]; rcases hn j with h1 | h1 <;> omega
  · show bCnt ((List.replicate n (-1 : Int)).set i 0) = 1
    rw [bCnt_set _ _ _ (by simpa using h) (by omega) (by omega), hc0]
  · have ht : t = 0 := by simp [bInit] at ht; exact ht
    subst ht
    show 0 ≤ nth [(i : Int)] 0 ∧ nth [(i : Int)] 0 < n ∧ 0 ≤ nth ((List.replicate n (-1 : Int)).set i 0) (nth [(i : Int)] 0).toNat ∧ nth ((List.replicate n (-1 : Int)).set i 0) (nth [(i : Int)] 0).toNat ≤ (0 : Nat)
    rw [show nth [(i : Int)] 0 = (i : Int) from rfl, Int.toNat_natCast, nth_set_same _ (by simpa using h)]
    omega
theorem bOut_inv (m : Nat) {n i : Nat} (h : i < n) : ∀ k, (∀ t, t < k → t < (bOut m n i t).2.length) → BInv n (bOut m n i k)
  | 0, _ => bInit_inv h
  | k + 1, hk => (BInv.into (m := m) (bOut_inv m h k fun t ht => hk t (by omega)) (hk k (by omega)) rfl n (Nat.le_refl _)).1

/-- the search till its list ends -/
def bGo (m n i : Nat) : Nat → Nat → List Int
  | 0, k => (bOut m n i k).1
  | f + 1, k => if k < (bOut m n i k).2.length then bGo m n i f (k + 1) else (bOut m n i k).1
theorem bGo_eq {m n i K : Nat} (h1 : ∀ t, t < K → t < (bOut m n i t).2.length) (h2 : (bOut m n i K).2.length = K) : ∀ f k, k ≤ K → K ≤ k + f → bGo m n i f k = (bOut m n i K).1
  | 0, k, h3, h4 => by
    obtain rfl : k = K := by omega
    rfl
  | f + 1, k, h3, h4 => by
    simp only [bGo]
    by_cases e : k = K
    · subst e; rw [if_neg (by omega)]
    · rw [if_pos (h1 k (by omega))]
      exact bGo_eq h1 h2 f (k + 1) (by omega) (by omega)
/-- the distances from the place i -/
def dL (m n i : Nat) : List Int := bGo m n i (n + 1) 0
theorem dL_eq {m n i K : Nat} (hi : i < n) (h1 : ∀ t, t < K → t < (bOut m n i t).2.length) (h2 : (bOut m n i K).2.length = K) : dL m n i = (bOut m n i K).1 := by
  have := (bOut_inv m hi K h1).le
  exact bGo_eq h1 h2 (n + 1) 0 (by omega) (by omega)
theorem bIn_len (m : Nat) (f : Int) (s : List Int × List Int) : ∀ j, (bIn m f j s).1.length = s.1.length
  | 0 => rfl
  | j + 1 => by
    simp only [bIn]
    unfold bStep
    split
    · simp only [List.length_set]; exact bIn_len m f s j
    · exact bIn_len m f s j
theorem bOut_len (m n i : Nat) : ∀ k, (bOut m n i k).1.length = n
  | 0 => by simp [bOut, bInit]
  | k + 1 => by
    simp only [bOut]
    rw [bIn_len]
    exact bOut_len m n i k
theorem dL_len (m n i : Nat) : (dL m n i).length = n := by
  have : ∀ f k, (bGo m n i f k).length = n := by
    intro f
    induction f with
    | zero => intro k; exact bOut_len m n i k
    | succ f ih =>
      intro k
      simp only [bGo]
      split
      · exact ih _
      · exact bOut_len m n i k
  exact this _ _

end Go.Proofs.Ytieobjoijalijaa
