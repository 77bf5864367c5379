/-
  The contracts of the laws' own helpers: sizes, copies, comparisons, marks.
  Conditions: lists of at most 1048576 elements where a copy is made, less than 2^60 elsewhere.
-/
import Derived.Test.YtahleajedgehlaaBase
namespace Go.Proofs.Ytahleajedgehlaa
open Go.RowKit Go.Shelf

theorem ret_bool {a b : Bool} (h : a = b) : Ending.returned (.bool a) = .returned (.bool b) := by rw [h]
theorem ret_int {k : IntKind} {a b : Int} (h : a = b) : Ending.returned (.int k a) = .returned (.int k b) := by rw [h]

/-! ### copies -/
/-- the first k elements of zs, and zeros behind them -/
def fillTo (zs : List Int) (k : Nat) : List Int := zs.take k ++ List.replicate (zs.length - k) 0
theorem fillTo_length (zs : List Int) {k : Nat} (h : k ≤ zs.length) : (fillTo zs k).length = zs.length := by simp [fillTo]; omega
theorem fillTo_zero (zs : List Int) : fillTo zs 0 = List.replicate zs.length 0 := by simp [fillTo]
theorem fillTo_all (zs : List Int) : fillTo zs zs.length = zs := by simp [fillTo]
theorem fillTo_succ (zs : List Int) {k : Nat} (h : k < zs.length) : fillTo zs (k + 1) = (fillTo zs k).set k (nth zs k) := by
  apply List.ext_getElem?
  intro i
  unfold fillTo
  rw [List.getElem?_set]
  by_cases e : k = i
  · subst e
    simp only [List.length_append, List.length_take, List.length_replicate, if_true]
    rw [if_pos (by omega), List.getElem?_append_left (by simp; omega)]
    simp [getElem?_nth h]
  · rw [if_neg e]
    by_cases hi : i < k
    · rw [List.getElem?_append_left (by simp; omega), List.getElem?_append_left (by simp; omega)]
      simp [hi, show i < k + 1 by omega]
    · rw [List.getElem?_append_right (by simp; omega), List.getElem?_append_right (by simp; omega)]
      simp only [List.getElem?_replicate, List.length_take]
      split <;> split <;> first | rfl | omega

theorem Try.infoI : (Try.prog.info? 2).map (fun i => (i.zero, i.size, i.bytes)) = some (some (.int .i64 0), 1, 8) := by kernel_rfl
theorem madeI (n : Nat) : (madeCells #[Value.int .i64 0] n).toList = (List.replicate n (0 : Int)).map (.int .i64) := by
  have := toList_madeCells_one (.int .i64 0) n
  simpa [Value.cells] using this

/-! ### marks -/
/-- k, k + 1, .. : n numbers -/
def ups (k : Int) (n : Nat) : List Int := (List.range n).map fun (j : Nat) => k + (j : Int)
theorem ups_length (k : Int) (n : Nat) : (ups k n).length = n := by simp [ups]
theorem nth_ups (k : Int) {n j : Nat} (h : j < n) : nth (ups k n) j = k + j := by simp [nth, ups, h]
/-- the first j of them over the elements of zs -/
def upsTo (k : Int) (zs : List Int) (j : Nat) : List Int := (List.range zs.length).map fun (i : Nat) => if i < j then k + (i : Int) else nth zs i
theorem upsTo_length (k : Int) (zs : List Int) (j : Nat) : (upsTo k zs j).length = zs.length := by simp [upsTo]
theorem upsTo_zero (k : Int) (zs : List Int) : upsTo k zs 0 = zs := by
  apply ext_nth (upsTo_length _ _ _)
  intro i hi
  rw [upsTo_length] at hi
  simp [nth, upsTo, hi]
theorem upsTo_all (k : Int) (zs : List Int) : upsTo k zs zs.length = ups k zs.length := by
  unfold upsTo ups
  refine List.map_congr_left fun i hi => ?_
  rw [if_pos (by simpa using hi)]
theorem upsTo_succ (k : Int) (zs : List Int) {j : Nat} (h : j < zs.length) : upsTo k zs (j + 1) = (upsTo k zs j).set j (k + j) := by
  apply List.ext_getElem?
  intro i
  rw [List.getElem?_set]
  by_cases e : j = i
  · subst e; simp [upsTo, h]
  · rw [if_neg e]
    by_cases hi : i < zs.length
    · simp only [upsTo, List.getElem?_map, List.getElem?_range hi, Option.map_some]
      by_cases h2 : i < j
      · rw [if_pos (by omega), if_pos h2]
      · rw [if_neg (by omega), if_neg h2]
    · rw [List.getElem?_eq_none (by rw [upsTo_length]; omega), List.getElem?_eq_none (by rw [upsTo_length]; omega)]

theorem grownBy_tr {a w w' : World} {row : Option Nat} (h : a.grownBy w row) (k : w.grownBy w' row) : a.grownBy w' row :=
  ⟨k.os.trans h.os, k.tape.trans h.tape, k.output.trans h.output, Nat.le_trans h.size k.size, fun i hi hr => (k.block i (Nat.lt_of_lt_of_le hi h.size) hr).trans (h.block i hi hr)⟩
def Marks (B : Nat) (w : World) (v : Value) (n : Nat) (k : Int) (e : Ending) (w' : World) : Prop :=
  e = .returned (.int .i64 (k + n)) ∧ OwnI B w' v (ups k n) ∧ w.grownBy w' v.ownBlock

end Go.Proofs.Ytahleajedgehlaa
