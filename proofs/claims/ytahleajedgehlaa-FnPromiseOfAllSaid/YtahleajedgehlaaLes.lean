/-
  LessenGaps of both: doubling, the kinds of gaps, tasks of a kind.
  Conditions: lists of at most 1048576 elements.
-/
import Derived.Test.YtahleajedgehlaaLog
import Derived.Test.YtahleajedgehlaaRen
namespace Go.Proofs.Ytahleajedgehlaa
open Go.RowKit Go.Shelf
attribute [local go_sem] Oper.semAt_some

/-- o, doubled as long as it is at most g -/
def dblF : Nat → Int → Int → Int
  | 0, o, _ => o
  | n + 1, o, g => if 2 * o ≤ g then dblF n (2 * o) g else o
/-- a gap lessened to x -/
def les (x g : Int) : Int := dblF 64 x g
theorem dblF_step {n : Nat} {o g : Int} (h : 2 * o ≤ g) : dblF (n + 1) o g = dblF n (2 * o) g := by simp [dblF, h]
theorem dblF_stop {n : Nat} {o g : Int} (h : ¬ 2 * o ≤ g) : dblF n o g = o := by cases n <;> simp [dblF, h]
theorem dblF_le {n : Nat} {o g : Int} (h0 : 1 ≤ o) (h : o ≤ g) : o ≤ dblF n o g ∧ dblF n o g ≤ g := by
  induction n generalizing o with
  | zero => simp [dblF]; omega
  | succ n ih =>
    unfold dblF
    split
    · have := ih (o := 2 * o) (by omega) (by omega); omega
    · omega
def lesL (x : Int) (zs : List Int) : List Int := zs.map (les x)
def lesTo (x : Int) (zs : List Int) (k : Nat) : List Int := (List.range k).map fun (m : Nat) => les x (nth zs m)
theorem lesTo_zero (x : Int) (zs : List Int) : lesTo x zs 0 = [] := rfl
theorem lesTo_succ (x : Int) (zs : List Int) (k : Nat) : lesTo x zs (k + 1) = lesTo x zs k ++ [les x (nth zs k)] := by simp [lesTo, List.range_succ]
theorem lesTo_length (x : Int) (zs : List Int) (k : Nat) : (lesTo x zs k).length = k := by simp [lesTo]
def lesC (zs : List Int) (x : Int) : Int := if tasksOk zs then (if inB x 1 40 then (if leastL zs < x then 5 else 0) else 2) else 1
def lesR (zs : List Int) (x : Int) : List Int := if lesC zs x = 0 then lesTo x zs zs.length else []
theorem lesR_len (zs : List Int) (x : Int) : (lesR zs x).length * 8 ≤ 140737488351232 := by
  unfold lesR
  split
  · rename_i h
    have ht : tasksOk zs = true := by
      cases e : tasksOk zs
      · unfold lesC at h; rw [e] at h; simp at h
      · rfl
    have := tasksOk_len ht
    rw [lesTo_length]; omega
  · simp

theorem gapFor_own (g : Int) (w : World) :
    Calls Try.prog 105 #[.agg #[], .int .i64 g] w fun e w' => e = .returned (.int .i64 g) ∧ Below w.heap.size w w' := by
  go_enter Try.func105, Try.ntmps105
  go_wp2
  go_ret
  exact ⟨rfl, (Below.refl _ w).alloc (Nat.le_refl _) _⟩

end Go.Proofs.Ytahleajedgehlaa
