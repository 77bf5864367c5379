/-
  An order of the tasks by their gaps: put in one after the other, by swaps and by moves (no program yet).
  Conditions: lists of at most 1048576 elements.
-/
import Derived.Test.YtbhpflhopajbfaaClone
import Derived.Test.YtbhpflhopajbfaaReg
namespace Go.Proofs.Ytbhpflhopajbfaa
open Go.RowKit Go.Shelf
attribute [local go_sem] Oper.semAt_some

/-- place j of the list o with x put in ahead of place p -/
def insN (o : List Int) (p : Nat) (x : Int) (m : Nat) : Int := if m < p then nth o m else if m = p then x else nth o (m - 1)
def insAt (o : List Int) (p : Nat) (x : Int) : List Int := (List.range (o.length + 1)).map (insN o p x)
theorem insAt_length (o : List Int) (p : Nat) (x : Int) : (insAt o p x).length = o.length + 1 := by simp [insAt]
theorem nth_insAt {o : List Int} {p : Nat} {x : Int} {m : Nat} (h : m < o.length + 1) : nth (insAt o p x) m = insN o p x m := by simp [nth, insAt, h]
/-- the gap of the task at a place of an order -/
def gapAt (zs o : List Int) (m : Nat) : Int := nth zs (nth o m).toNat
/-- where the task x goes, from place j down -/
def posOf (zs o : List Int) (x : Nat) : Nat → Nat
  | 0 => 0
  | j + 1 => if nth zs x < gapAt zs o j then posOf zs o x j else j + 1
theorem posOf_le (zs o : List Int) (x j : Nat) : posOf zs o x j ≤ j := by
  induction j with
  | zero => simp [posOf]
  | succ j ih => unfold posOf; split <;> omega
theorem posOf_yes {zs o : List Int} {x j : Nat} (h : nth zs x < gapAt zs o j) : posOf zs o x (j + 1) = posOf zs o x j := by simp [posOf, h]
theorem posOf_no {zs o : List Int} {x j : Nat} (h : ¬ nth zs x < gapAt zs o j) : posOf zs o x (j + 1) = j + 1 := by simp [posOf, h]
/-- the order of the first k tasks by their gaps -/
def ordTo (zs : List Int) : Nat → List Int
  | 0 => []
  | k + 1 => insAt (ordTo zs k) (posOf zs (ordTo zs k) k k) (k : Int)
theorem ordTo_length (zs : List Int) (k : Nat) : (ordTo zs k).length = k := by
  induction k with
  | zero => rfl
  | succ k ih => rw [ordTo, insAt_length, ih]
theorem ordTo_bd (zs : List Int) (k : Nat) {m : Nat} (h : m < k) : 0 ≤ nth (ordTo zs k) m ∧ nth (ordTo zs k) m < k := by
  induction k generalizing m with
  | zero => omega
  | succ k ih =>
    rw [ordTo, nth_insAt (by rw [ordTo_length]; exact h)]
    have hp := posOf_le zs (ordTo zs k) k k
    unfold insN
    split
    · have := ih (m := m) (by omega); omega
    · split
      · omega
      · have := ih (m := m - 1) (by omega); omega
/-- the program's list while task k goes down: at place j now -/
def midI (zs : List Int) (n k j : Nat) : List Int := (List.range n).map fun m => if m < k + 1 then insN (ordTo zs k) j k m else (m : Int)
theorem midI_length (zs : List Int) (n k j : Nat) : (midI zs n k j).length = n := by simp [midI]
theorem nth_midI {zs : List Int} {n k j m : Nat} (h : m < n) : nth (midI zs n k j) m = if m < k + 1 then insN (ordTo zs k) j k m else (m : Int) := by simp [nth, midI, h]
/-- .. between two tasks -/
def stI (zs : List Int) (n k : Nat) : List Int := (List.range n).map fun m => if m < k then nth (ordTo zs k) m else (m : Int)
theorem stI_length (zs : List Int) (n k : Nat) : (stI zs n k).length = n := by simp [stI]
theorem nth_stI {zs : List Int} {n k m : Nat} (h : m < n) : nth (stI zs n k) m = if m < k then nth (ordTo zs k) m else (m : Int) := by simp [nth, stI, h]
theorem stI_mid {zs : List Int} {n k : Nat} : midI zs n k k = stI zs n k := by
  refine ext_nth (by rw [midI_length, stI_length]) fun m hm => ?_
  rw [midI_length] at hm
  rw [nth_midI hm, nth_stI hm]
  unfold insN
  split
  · split
    · rfl
    · rw [if_pos (by omega)]; omega
  · rw [if_neg (by omega)]
theorem mid_stI {zs : List Int} {n k : Nat} : midI zs n k (posOf zs (ordTo zs k) k k) = stI zs n (k + 1) := by
  refine ext_nth (by rw [midI_length, stI_length]) fun m hm => ?_
  rw [midI_length] at hm
  rw [nth_midI hm, nth_stI hm]
  split
  · rw [ordTo, nth_insAt (by rw [ordTo_length]; omega)]
  · rfl
theorem midI_swap {zs : List Int} {n k j : Nat} (hj : j < k) (hk : k < n) : midI zs n k j = ((midI zs n k (j + 1)).set (j + 1) (nth (midI zs n k (j + 1)) j)).set j (nth (midI zs n k (j + 1)) (j + 1)) := by
  refine ext_nth (by simp [midI_length]) fun m hm => ?_
  rw [midI_length] at hm
  rw [nth_set (by simp [midI_length]; exact hm), nth_set (by rw [midI_length]; exact hm), nth_midI hm, nth_midI (by omega), nth_midI (by omega), nth_midI hm]
  unfold insN
  by_cases h1 : j = m
  · subst h1; simp; omega
  · by_cases h2 : j + 1 = m
    · subst h2; simp; omega
    · rw [if_neg h1, if_neg h2]
      split
      · split
        · rw [if_pos (by omega)]
        · rw [if_neg (by omega), if_neg (by omega), if_neg (by omega)]
      · rfl
theorem midI_at {zs : List Int} {n k j : Nat} (hj : j ≤ k) (hk : k < n) : nth (midI zs n k j) j = k := by
  rw [nth_midI (by omega), if_pos (by omega)]; simp [insN]
theorem midI_before {zs : List Int} {n k j : Nat} (hj : j < k) (hk : k < n) : nth (midI zs n k (j + 1)) j = nth (ordTo zs k) j := by
  rw [nth_midI (by omega), if_pos (by omega)]; simp [insN]
/-- the model's list while task k goes down: place j is open -/
def midS (zs : List Int) (k j : Nat) (x : Int) : List Int := (List.range (k + 1)).map fun m => if m = j then x else insN (ordTo zs k) j k m
theorem midS_length (zs : List Int) (k j : Nat) (x : Int) : (midS zs k j x).length = k + 1 := by simp [midS]
theorem nth_midS {zs : List Int} {k j m : Nat} {x : Int} (h : m < k + 1) : nth (midS zs k j x) m = if m = j then x else insN (ordTo zs k) j k m := by simp [nth, midS, h]
theorem midS_start {zs : List Int} {k : Nat} : ordTo zs k ++ [(k : Int)] = midS zs k k k := by
  refine ext_nth (by simp [midS_length, ordTo_length]) fun m hm => ?_
  rw [nth_midS (by simpa [ordTo_length] using hm)]
  simp [ordTo_length] at hm
  unfold insN
  by_cases h : m < k
  · rw [if_neg (by omega), if_pos h]; unfold nth; rw [List.getElem?_append_left (by rw [ordTo_length]; exact h)]
  · rw [if_pos (by omega)]; unfold nth; rw [List.getElem?_append_right (by rw [ordTo_length]; omega), ordTo_length, show m - k = 0 by omega]; rfl
theorem midS_before {zs : List Int} {k j : Nat} {x : Int} (hj : j < k) : nth (midS zs k (j + 1) x) j = nth (ordTo zs k) j := by
  rw [nth_midS (by omega), if_neg (by omega)]; simp [insN]
theorem midS_step {zs : List Int} {k j : Nat} {x : Int} (hj : j < k) : (midS zs k (j + 1) x).set (j + 1) (nth (ordTo zs k) j) = midS zs k j (nth (ordTo zs k) j) := by
  refine ext_nth (by simp [midS_length]) fun m hm => ?_
  simp [midS_length] at hm
  rw [nth_set (by rw [midS_length]; exact hm), nth_midS hm, nth_midS hm]
  unfold insN
  by_cases h2 : j + 1 = m
  · subst h2; simp; omega
  · rw [if_neg h2]
    by_cases h1 : m = j
    · subst h1; simp
    · rw [if_neg (by omega), if_neg h1]
      split
      · rw [if_pos (by omega)]
      · rw [if_neg (by omega), if_neg (by omega)]
theorem midS_end {zs : List Int} {k : Nat} {x : Int} : (midS zs k (posOf zs (ordTo zs k) k k) x).set (posOf zs (ordTo zs k) k k) k = ordTo zs (k + 1) := by
  have hp := posOf_le zs (ordTo zs k) k k
  refine ext_nth (by simp [midS_length, ordTo_length]) fun m hm => ?_
  simp [midS_length] at hm
  rw [nth_set (by rw [midS_length]; exact hm), nth_midS hm, ordTo, nth_insAt (by rw [ordTo_length]; exact hm)]
  unfold insN
  by_cases h : posOf zs (ordTo zs k) k k = m
  · rw [if_pos h, if_neg (by omega), if_pos (by omega)]
  · rw [if_neg h, if_neg (by omega)]
/-- the gaps in an order -/
def gapsBy (zs o : List Int) (k : Nat) : List Int := (List.range k).map fun m => gapAt zs o m
theorem gapsBy_zero (zs o : List Int) : gapsBy zs o 0 = [] := rfl
theorem gapsBy_succ (zs o : List Int) (k : Nat) : gapsBy zs o (k + 1) = gapsBy zs o k ++ [gapAt zs o k] := by simp [gapsBy, List.range_succ]
theorem gapsBy_length (zs o : List Int) (k : Nat) : (gapsBy zs o k).length = k := by simp [gapsBy]
/-- 0, 1, .., n - 1 -/
theorem stI_zero (zs : List Int) (n : Nat) : stI zs n 1 = (List.range n).map fun (m : Nat) => (m : Int) := by
  unfold stI
  refine List.map_congr_left fun m _ => ?_
  split
  · rename_i h; obtain rfl : m = 0 := by omega
    rfl
  · rfl
theorem stI_all (zs : List Int) (n : Nat) : stI zs n n = ordTo zs n := by
  refine ext_nth (by rw [stI_length, ordTo_length]) fun m hm => ?_
  rw [stI_length] at hm
  rw [nth_stI hm, if_pos hm]

end Go.Proofs.Ytbhpflhopajbfaa
