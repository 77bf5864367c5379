/-
  Splits of classes: SplitClass of both.
  Conditions: lists of at most 1048576 elements.
-/
import Derived.Test.YtbhpflhopajbfaaClE
import Derived.Test.YtbhpflhopajbfaaClh
namespace Go.Proofs.Ytbhpflhopajbfaa
open Go.RowKit Go.Shelf
attribute [local go_sem] Oper.semAt_some

/-! ### appends of classes -/
theorem ownC_app {B n m : Nat} {W : World} {v : Value} {xs ys : List Int} (h : W.ownsRow B 106 2 v (n + m) (xs.map (Value.int .i64) ++ ys.map (.int .i64))) : OwnC B W v (n + m) (xs ++ ys) := by
  unfold OwnC; rw [List.map_append]; exact h
theorem ownC_snoc {B : Nat} {W : World} {v : Value} {cs : List (Int × Int)} {x y : Int} (h : W.ownsRow B 106 2 v (cs.length + 1) ((flat cs).map (Value.int .i64) ++ [.int .i64 x, .int .i64 y])) : OwnC B W v (cs ++ [(x, y)]).length (flat (cs ++ [(x, y)])) := by
  rw [flat_append, List.length_append]
  exact ownC_app (ys := [x, y]) h
theorem ownC_cat {B : Nat} {W : World} {v : Value} {cs ds : List (Int × Int)} (h : W.ownsRow B 106 2 v (cs.length + ds.length) ((flat cs).map (Value.int .i64) ++ (flat ds).map (.int .i64))) : OwnC B W v (cs ++ ds).length (flat (cs ++ ds)) := by
  rw [flat_append, List.length_append]
  exact ownC_app h
theorem cls_src {n₀ : Nat} {W : World} {b off n cap : Nat} {cs : List (Int × Int)} (h : Cls n₀ W (.slice (some ⟨b, off, none⟩) n cap) cs) (hn : n = cs.length) :
    ∀ j u, ((flat cs).map (Value.int .i64))[j]? = some u → W.cell? ((⟨b, off, none⟩ : Addr).add j) = some u := by
  intro j u hu
  subst hn
  have hj : j < (flat cs).length := by
    have := (List.getElem?_eq_some_iff.1 hu).1
    simpa using this
  have hl := flat_length cs
  obtain ⟨b2, off2, e, _, hc⟩ := Prs.at_ h (k := 0) (by omega)
  cases e
  rw [Go.WideShapes.add_plain, hc j (by omega)]
  rw [List.getElem?_map, getElem?_nth hj] at hu
  exact hu
theorem cell_two_new (w : World) (x y : Value) (t : TypeId) : ∀ j u, [x, y][j]? = some u → (w.alloc (.cells #[x, y] t)).cell? ((⟨w.heap.size, 0, none⟩ : Addr).add j) = some u := by
  intro j u hj
  match j, hj with
  | 0, hj =>
    simp at hj
    subst hj
    simp [Addr.add]
  | 1, hj =>
    simp at hj
    subst hj
    simp [Addr.add]
  | j + 2, hj => simp at hj
theorem splitL_eq (cs : List (Int × Int)) (i m : Nat) : splitL cs i m = cs.take i ++ partsTo (rst cs i) (gp cs i) m m ++ cs.drop (i + 1) := rfl
theorem splitL_length {cs : List (Int × Int)} {i m : Nat} (h : i < cs.length) : (splitL cs i m).length = cs.length + m - 1 := by
  rw [splitL_eq]; simp [partsTo_length]; omega
theorem flat_drop : ∀ (cs : List (Int × Int)) (k : Nat), flat (cs.drop k) = (flat cs).drop (k * 2)
  | [], k => by simp [flat]
  | c :: cs, 0 => by simp
  | c :: cs, k + 1 => by
    rw [show (k + 1) * 2 = k * 2 + 1 + 1 by omega]
    simp [flat, flat_drop cs k]
theorem cls_drop {n₀ k : Nat} {W : World} {b off cap len : Nat} {cs : List (Int × Int)} (h : Cls n₀ W (.slice (some ⟨b, off, none⟩) len cap) cs) (hk : k ≤ cs.length) : Cls n₀ W (.slice (some ⟨b, off + k * 2, none⟩) (cs.length - k) (cap - k)) (cs.drop k) := by
  have hl : (cs.drop k).length = cs.length - k := by simp
  obtain ⟨a', c', e, _, h2⟩ := h
  cases e
  refine ⟨_, cap - k, by rw [hl], flat_length _, ?_⟩
  rw [hl]
  by_cases h0 : cs.length - k = 0
  · exact .inl h0
  · rcases h2 with h2 | ⟨b2, off2, ha, hb, hc⟩
    · omega
    · cases ha
      refine .inr ⟨b, off + k * 2, rfl, hb, fun j hj => ?_⟩
      rw [Nat.add_assoc, hc (k * 2 + j) (by omega), flat_drop]
      unfold nth
      rw [List.getElem?_drop]

/-! ### SplitClass -/
def spC (cs : List (Int × Int)) (i m : Int) : Int := if clsOk cs then (if inB i 0 (cs.length - 1) && inB m 2 8 then (if 8 < (cs.length : Int) + m - 1 ∨ 40 < m * gp cs i.toNat then 3 else 0) else 2) else 1
def spR (cs : List (Int × Int)) (i m : Int) : List (Int × Int) := if spC cs i m = 0 then splitL cs i.toNat m.toNat else []
theorem spC_zero {cs : List (Int × Int)} {i m : Int} (h : spC cs i m = 0) : clsOk cs = true ∧ (0 ≤ i ∧ i < cs.length) ∧ (2 ≤ m ∧ m ≤ 8) ∧ cs.length + m ≤ 9 ∧ m * gp cs i.toNat ≤ 40 := by
  unfold spC at h
  cases h1 : clsOk cs
  · rw [h1] at h; simp at h
  · rw [h1, if_pos rfl] at h
    cases h2 : inB i 0 (cs.length - 1) && inB m 2 8
    · rw [h2] at h; simp at h
    · rw [h2, if_pos rfl] at h
      rw [Bool.and_eq_true, inB_true, inB_true] at h2
      by_cases h3 : 8 < (cs.length : Int) + m - 1 ∨ 40 < m * gp cs i.toNat
      · rw [if_pos h3] at h; simp at h
      · exact ⟨rfl, by omega, by omega, by omega, by omega⟩
theorem spR_len (cs : List (Int × Int)) (i m : Int) : (spR cs i m).length * 16 ≤ 140737488351232 := by
  unfold spR
  split
  · rename_i h
    obtain ⟨h1, h2, h3, h4, h5⟩ := spC_zero h
    rw [splitL_length (by omega)]; omega
  · simp
theorem spR_no {cs : List (Int × Int)} {i m : Int} (h : spC cs i m ≠ 0) : spR cs i m = [] := by unfold spR; rw [if_neg h]
theorem ret_vi2 {v : Value} {a b : Int} (h : a = b) : Ending.returned (.tuple #[v, .int .i64 a]) = .returned (.tuple #[v, .int .i64 b]) := by rw [h]

end Go.Proofs.Ytbhpflhopajbfaa
