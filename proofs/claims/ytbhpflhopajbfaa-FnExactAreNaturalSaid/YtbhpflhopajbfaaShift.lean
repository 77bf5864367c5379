/-
  Shifts: slices.Grow of nil, slices.Concat of two, twice, shiftIn, the model's l01Shifted; ShiftTurns of both.
  Conditions: lists of 1 to 1048576 elements.
-/
import Derived.Test.YtbhpflhopajbfaaClone
import Derived.Test.YtbhpflhopajbfaaReg
namespace Go.Proofs.Ytbhpflhopajbfaa
open Go.RowKit Go.Shelf

/-- a slice value's capacity holds its length -/
def CapOk (v : Value) (n : Nat) : Prop := ∃ a c, v = .slice a n c ∧ n ≤ c ∧ c ≤ maxLen
theorem OwnI.capOk {B : Nat} {W : World} {v : Value} {zs : List Int} (h : OwnI B W v zs) : CapOk v zs.length := by
  obtain ⟨_, h2⟩ := h
  rcases h2 with ⟨e, h0⟩ | ⟨g, cap, cur, e, _, _, hn, hm, _⟩
  · exact ⟨none, 0, by rw [e, h0], by omega, Nat.zero_le _⟩
  · exact ⟨_, cap, e, hn, hm⟩
theorem nth_append_left {xs ys : List Int} {m : Nat} (h : m < xs.length) : nth (xs ++ ys) m = nth xs m := by
  unfold nth; rw [List.getElem?_append_left h]
theorem nth_append_right {xs ys : List Int} {m : Nat} (h : xs.length ≤ m) : nth (xs ++ ys) m = nth ys (m - xs.length) := by
  unfold nth; rw [List.getElem?_append_right h]
theorem nth_take {xs : List Int} {n m : Nat} (h : m < n) : nth (xs.take n) m = nth xs m := by
  unfold nth; rw [List.getElem?_take_of_lt h]
theorem nth_drop {xs : List Int} {n m : Nat} : nth (xs.drop n) m = nth xs (n + m) := by
  unfold nth; rw [List.getElem?_drop]
/-- turns shifted by n -/
def shiftL (ts : List Int) (n : Nat) : List Int := ts.drop n ++ ts.take n
theorem shiftL_length {ts : List Int} {n : Nat} (h : n ≤ ts.length) : (shiftL ts n).length = ts.length := by simp [shiftL]; omega
theorem shiftL_zero (ts : List Int) : shiftL ts 0 = ts := by simp [shiftL]
theorem nth_shiftL {ts : List Int} {n m : Nat} (hn : n ≤ ts.length) (hm : m < ts.length) : nth (shiftL ts n) m = nth ts ((n + m) % ts.length) := by
  unfold shiftL
  by_cases h : m < ts.length - n
  · rw [nth_append_left (by simpa using h), nth_drop, Nat.mod_eq_of_lt (by omega)]
  · rw [nth_append_right (by simp; omega), nth_take (by simp; omega), List.length_drop]
    congr 1
    rw [show n + m = (m - (ts.length - n)) + ts.length by omega, Nat.add_mod_right, Nat.mod_eq_of_lt (by omega)]
theorem ownI_zero {B : Nat} {W : World} {g n cap : Nat} {zs : List Int} (h : OwnI B W (.slice (some ⟨g, 0, none⟩) n cap) zs) : OwnI B W (.slice (some ⟨g, 0, none⟩) 0 cap) [] := by
  obtain ⟨h1, h2⟩ := h
  refine ⟨by simp, .inr ?_⟩
  rcases h2 with ⟨e, _⟩ | ⟨g', cap', cur, e, hg, hh, hn, hm, hs, ht⟩
  · simp at e
  · simp only [Value.slice.injEq, Option.some.injEq, Addr.mk.injEq, and_true] at e
    obtain ⟨rfl, rfl, rfl⟩ := e
    exact ⟨g, cap, cur, rfl, hg, hh, Nat.zero_le _, hm, hs, by simp⟩

/-! ### two of them, one behind the other -/
def twiceTo (zs : List Int) (k : Nat) : List Int := (List.replicate k zs).flatten
theorem twiceTo_zero (zs : List Int) : twiceTo zs 0 = [] := rfl
theorem twiceTo_succ (zs : List Int) (k : Nat) : twiceTo zs (k + 1) = twiceTo zs k ++ zs := by
  unfold twiceTo; rw [List.replicate_succ']; simp
theorem twiceTo_length (zs : List Int) (k : Nat) : (twiceTo zs k).length = k * zs.length := by simp [twiceTo]
theorem twiceTo_two (zs : List Int) : twiceTo zs 2 = zs ++ zs := by simp [twiceTo]

theorem nth_twice {zs : List Int} {n j : Nat} (hn : n ≤ zs.length) (hj : j < zs.length) : nth (zs ++ zs) (n + j) = nth (shiftL zs n) j := by
  rw [nth_shiftL hn hj]
  by_cases h : n + j < zs.length
  · rw [nth_append_left h, Nat.mod_eq_of_lt h]
  · rw [nth_append_right (by omega)]
    congr 1
    rw [show n + j = (n + j - zs.length) + zs.length by omega, Nat.add_mod_right, Nat.add_sub_cancel, Nat.mod_eq_of_lt (by omega)]
theorem ints_drop {n₀ n : Nat} {W : World} {b off cap : Nat} {zs : List Int} (h : Ints n₀ W (.slice (some ⟨b, off, none⟩) zs.length cap) zs) (hn : n ≤ zs.length) :
    Ints n₀ W (.slice (some ⟨b, off + n, none⟩) (zs.drop n).length (cap - n)) (zs.drop n) := by
  refine ⟨_, _, rfl, ?_⟩
  by_cases e : n = zs.length
  · left; rw [e]; simp
  · obtain ⟨b2, off2, hs, hb, hc⟩ := h.at_ (show 0 < zs.length by omega)
    cases hs
    refine .inr ⟨b, off + n, rfl, hb, fun j hj => ?_⟩
    rw [List.length_drop] at hj
    rw [nth_drop, Nat.add_assoc]
    exact hc _ (by omega)
theorem ints_take {n₀ n : Nat} {W : World} {b off len cap : Nat} {zs : List Int} (h : Ints n₀ W (.slice (some ⟨b, off, none⟩) len cap) zs) (hn : n ≤ zs.length) :
    Ints n₀ W (.slice (some ⟨b, off, none⟩) n cap) (zs.take n) := by
  have hl : (zs.take n).length = n := by simp; omega
  refine ⟨_, _, by rw [hl], ?_⟩
  by_cases e : n = 0
  · left; rw [e]; simp
  · obtain ⟨b2, off2, hs, hb, hc⟩ := h.at_ (show 0 < zs.length by omega)
    cases hs
    refine .inr ⟨b, off, rfl, hb, fun j hj => ?_⟩
    rw [hl] at hj
    rw [nth_take hj]
    exact hc _ (by omega)

set_option maxRecDepth 100000 in
set_option maxHeartbeats 8000000 in
theorem l01OwnS_c (b off cap : Nat) (zs : List Int) (w : World) (hI : Ints w.heap.size w (.slice (some ⟨b, off, none⟩) zs.length cap) zs) (hl : zs.length ≤ 1048576) :
    Calls Try.prog 101 #[.slice (some ⟨b, off, none⟩) zs.length cap] w (GivesI w zs id) := by
  obtain ⟨i0, hi, hz0, hz1, hz2⟩ := info_parts Try.infoI2
  have hB0 : Below w.heap.size w (w.alloc (.cells #[] 2)) := (Below.refl _ w).alloc (Nat.le_refl _) _
  go_enter Try.func101, Try.ntmps101
  go_wp2_with (at_builtin; refine wpList_append_own _ rfl _ _ 22 rfl w.heap.size 2 i0 (.int .i64 0) 1 8 Try.underlying22 hi hz0 hz1 hz2 rfl (by decide) _ _ _ rfl (ownI_empty w) ⟨b, off, none⟩ zs.length cap (zs.map (.int .i64)) rfl (by simp) (cells_src (hI.below hB0)) (cells_one zs) (by unfold maxLen; simp; omega) (by simp; omega) (by simp) ?_)
  intro v' w1 hown' hgrow _
  have ho : OwnI w.heap.size w1 v' zs := by have := ownI_app (xs := []) (ys := zs) (by simpa using hown'); simpa using this
  have hB : Below w.heap.size w w1 := hB0.grown hgrow (by simp) (fun j e => by simp [Value.ownBlock] at e; omega)
  clear hown' hgrow
  go_wp2
  go_ret
  exact ⟨_, rfl, ho, hB⟩

/-! ### ShiftTurns -/
def shiftOk (ts : List Int) (n : Int) : Bool := turnsOk ts 8 && inB n 0 ts.length
def shiftR (ts : List Int) (n : Int) : List Int := if shiftOk ts n then shiftL ts n.toNat else []
def shiftC (ts : List Int) (n : Int) : Int := if shiftOk ts n then 0 else 2
theorem shiftR_len (ts : List Int) (n : Int) : (shiftR ts n).length * 8 ≤ 140737488351232 := by
  unfold shiftR; split
  · rename_i h
    unfold shiftOk at h
    rw [Bool.and_eq_true, inB_true] at h
    have := turnsOk_len h.1
    rw [shiftL_length (by omega)]; omega
  · simp

end Go.Proofs.Ytbhpflhopajbfaa
