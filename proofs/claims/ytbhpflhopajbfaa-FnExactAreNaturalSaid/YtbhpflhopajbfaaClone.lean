/-
  Copies of lists: slices.Clone, the model's l01Own; slices.Reverse in place.
  Conditions: lists of 1 to 1048576 elements; what is turned round is owned.
-/
import Derived.Test.YtbhpflhopajbfaaGreat
import Derived.Lib.SliceRun
namespace Go.Proofs.Ytbhpflhopajbfaa
open Go.RowKit Go.Shelf

theorem cells_src {n₀ : Nat} {W : World} {b off len cap : Nat} {zs : List Int} (h : Ints n₀ W (.slice (some ⟨b, off, none⟩) len cap) zs) :
    ∀ j u, (zs.map (Value.int .i64))[j]? = some u → W.cell? ((⟨b, off, none⟩ : Addr).add j) = some u := by
  intro j u hj
  rw [List.getElem?_map] at hj
  by_cases hlt : j < zs.length
  · obtain ⟨b2, off2, hs, _, hc⟩ := h.at_ hlt
    cases hs
    have := hc j hlt
    rw [getElem?_nth hlt] at hj
    simp at hj
    subst hj
    simp only [Addr.add]
    split <;> simp_all
  · rw [List.getElem?_eq_none (by omega)] at hj; simp at hj
theorem cells_one (zs : List Int) : ∀ u ∈ zs.map (Value.int .i64), u.oneCell' = true := by
  intro u hu; obtain ⟨z, _, rfl⟩ := List.mem_map.1 hu; rfl
theorem ownI_app {B : Nat} {W : World} {v : Value} {xs ys : List Int} (h : W.ownsRow B 2 1 v (xs.length + ys.length) (xs.map (Value.int .i64) ++ ys.map (Value.int .i64))) : OwnI B W v (xs ++ ys) := by
  unfold OwnI; simpa using h

set_option maxRecDepth 100000 in
set_option maxHeartbeats 8000000 in
theorem clone_c (sv : Value) (zs : List Int) (w : World) (hI : Ints w.heap.size w sv zs) (h0 : 0 < zs.length) (hl : zs.length ≤ 1048576) :
    Calls Try.prog 159 #[sv] w (GivesI w zs id) := by
  obtain ⟨a, cap, rfl⟩ := hI.shape
  obtain ⟨i0, hi, hz0, hz1, hz2⟩ := info_parts Try.infoI2
  obtain ⟨b, off, rfl, hb, hc⟩ := hI.at_ h0
  have hB0 : Below w.heap.size w (w.alloc (.cells #[] 2)) := (Below.refl _ w).alloc (Nat.le_refl _) _
  clear hc
  have hnil : ∀ W, (binOp .eql 22 (.slice (some ⟨b, off, none⟩) zs.length cap) (.slice none 0 0)).run Try.prog W = .ok (.bool false) W := fun W => Lib.run_eql_slice_nil W _ _ _ _ _ _ _ Try.underlying22
  go_enter Try.func159, Try.ntmps159
  go_wp2_with (at_builtin; refine wpList_append_own _ rfl _ _ 22 rfl w.heap.size 2 i0 (.int .i64 0) 1 8 Try.underlying22 hi hz0 hz1 hz2 rfl (by decide) _ _ _ rfl (ownI_empty w) ⟨b, off, none⟩ zs.length cap (zs.map (.int .i64)) rfl (by simp) (cells_src (hI.below hB0)) (cells_one zs) (by unfold maxLen; simp; omega) (by simp; omega) (by simp) ?_)
  intro v' w1 hown' hgrow _
  have ho : OwnI w.heap.size w1 v' zs := by have := ownI_app (xs := []) (ys := zs) (by simpa using hown'); simpa using this
  have hB : Below w.heap.size w w1 := hB0.grown hgrow (by simp) (fun j e => by simp [Value.ownBlock] at e; omega)
  clear hown' hgrow
  go_wp2
  go_ret
  exact ⟨_, rfl, ho, hB⟩

set_option maxRecDepth 100000 in
set_option maxHeartbeats 8000000 in
theorem l01Own_c (sv : Value) (zs : List Int) (w : World) (hI : Ints w.heap.size w sv zs) (h0 : 0 < zs.length) (hl : zs.length ≤ 1048576) :
    Calls Try.prog 101 #[sv] w (GivesI w zs id) := by
  obtain ⟨a, cap, rfl⟩ := hI.shape
  obtain ⟨i0, hi, hz0, hz1, hz2⟩ := info_parts Try.infoI2
  obtain ⟨b, off, rfl, hb, hc⟩ := hI.at_ h0
  have hB0 : Below w.heap.size w (w.alloc (.cells #[] 2)) := (Below.refl _ w).alloc (Nat.le_refl _) _
  clear hc
  go_enter Try.func101, Try.ntmps101
  go_wp2_with (at_builtin; refine wpList_append_own _ rfl _ _ 22 rfl w.heap.size 2 i0 (.int .i64 0) 1 8 Try.underlying22 hi hz0 hz1 hz2 rfl (by decide) _ _ _ rfl (ownI_empty w) ⟨b, off, none⟩ zs.length cap (zs.map (.int .i64)) rfl (by simp) (cells_src (hI.below hB0)) (cells_one zs) (by unfold maxLen; simp; omega) (by simp; omega) (by simp) ?_)
  intro v' w1 hown' hgrow _
  have ho : OwnI w.heap.size w1 v' zs := by have := ownI_app (xs := []) (ys := zs) (by simpa using hown'); simpa using this
  have hB : Below w.heap.size w w1 := hB0.grown hgrow (by simp) (fun j e => by simp [Value.ownBlock] at e; omega)
  clear hown' hgrow
  go_wp2
  go_ret
  exact ⟨_, rfl, ho, hB⟩

/-! ### turned round -/
def revTo (zs : List Int) (k : Nat) : List Int := (List.range zs.length).map fun (m : Nat) => if m < k ∨ zs.length - k ≤ m then nth zs (zs.length - 1 - m) else nth zs m
theorem revTo_length (zs : List Int) (k : Nat) : (revTo zs k).length = zs.length := by simp [revTo]
theorem nth_revTo {zs : List Int} {k m : Nat} (h : m < zs.length) : nth (revTo zs k) m = if m < k ∨ zs.length - k ≤ m then nth zs (zs.length - 1 - m) else nth zs m := by simp [nth, revTo, h]
theorem revTo_zero (zs : List Int) : revTo zs 0 = zs := ext_nth (revTo_length _ _) fun m hm => by
  rw [revTo_length] at hm; rw [nth_revTo hm, if_neg (by omega)]
theorem nth_reverse {zs : List Int} {m : Nat} (h : m < zs.length) : nth zs.reverse m = nth zs (zs.length - 1 - m) := by
  rw [nth_lt (by simpa using h), nth_lt (by omega)]; simp
theorem revTo_all (zs : List Int) {k : Nat} (h : zs.length ≤ 2 * k + 1) : revTo zs k = zs.reverse := ext_nth (by simp [revTo_length]) fun m hm => by
  rw [revTo_length] at hm
  rw [nth_revTo hm, nth_reverse hm]
  split
  · rfl
  · congr 1; omega
theorem nth_set {zs : List Int} {k m : Nat} {x : Int} (h : m < zs.length) : nth (zs.set k x) m = if k = m then x else nth zs m := by
  unfold nth; rw [List.getElem?_set]; split <;> simp_all
theorem revTo_succ (zs : List Int) {k : Nat} (h : 2 * k + 1 < zs.length) : revTo zs (k + 1) = ((revTo zs k).set k (nth zs (zs.length - 1 - k))).set (zs.length - 1 - k) (nth zs k) := by
  refine ext_nth (by simp [revTo_length]) fun m hm => ?_
  rw [revTo_length] at hm
  rw [nth_revTo hm, nth_set (by simp [revTo_length]; omega), nth_set (by simp [revTo_length]; omega), nth_revTo hm]
  by_cases h1 : zs.length - 1 - k = m
  · rw [if_pos h1, if_pos (by omega)]; congr 1; omega
  · rw [if_neg h1]
    by_cases h2 : k = m
    · rw [if_pos h2, if_pos (by omega), h2]
    · rw [if_neg h2]
      by_cases h3 : m < k ∨ zs.length - k ≤ m
      · rw [if_pos h3, if_pos (by omega)]
      · rw [if_neg h3, if_neg (by omega)]

/-! ### ReverseTurns -/
def revR (ts : List Int) : List Int := if turnsOk ts 8 then ts.reverse else []
theorem revR_len (ts : List Int) : (revR ts).length * 8 ≤ 140737488351232 := by
  unfold revR; split
  · rename_i h; have := turnsOk_len h; simp; omega
  · simp
theorem reverse_take {zs : List Int} {k : Nat} (h : k < zs.length) : zs.reverse.take (k + 1) = zs.reverse.take k ++ [nth zs (zs.length - 1 - k)] := by
  rw [take_snoc (by simpa using h), nth_reverse h]

end Go.Proofs.Ytbhpflhopajbfaa
