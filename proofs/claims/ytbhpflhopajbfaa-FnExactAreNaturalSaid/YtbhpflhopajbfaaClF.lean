/-
  The tasks of classes, spans: both; AreExact of both.
  Conditions: lists of at most 1048576 elements.
-/
import Derived.Test.YtbhpflhopajbfaaClE
import Derived.Test.YtbhpflhopajbfaaLog
namespace Go.Proofs.Ytbhpflhopajbfaa
open Go.RowKit Go.Shelf
attribute [local go_sem] Oper.semAt_some

/-! ### the gaps -/
def gapsL (cs : List (Int × Int)) : List Int := cs.map (·.2)
theorem gapsL_length (cs : List (Int × Int)) : (gapsL cs).length = cs.length := by simp [gapsL]
theorem nth_gapsL (cs : List (Int × Int)) (k : Nat) : nth (gapsL cs) k = gp cs k := by
  unfold nth gp gapsL
  rw [List.getElem?_map]
  cases cs[k]? <;> rfl
theorem gapsL_take {cs : List (Int × Int)} {k : Nat} (h : k < cs.length) : (gapsL cs).take (k + 1) = (gapsL cs).take k ++ [gp cs k] := by
  rw [take_snoc (by rw [gapsL_length]; exact h), nth_gapsL]
theorem gapsL_all (cs : List (Int × Int)) : (gapsL cs).take cs.length = gapsL cs := by rw [← gapsL_length cs, List.take_length]
theorem gapsL_ok {cs : List (Int × Int)} (h : clsOk cs = true) : tasksOk (gapsL cs) = true := by
  unfold tasksOk
  rw [Bool.and_eq_true, inB_true, gapsL_length]
  have := clsOk_len h
  refine ⟨all_true_of fun j hj => ?_, by omega⟩
  rw [gapsL_length] at hj
  rw [nth_gapsL, inB_true]
  have := clsOk_at h hj
  omega
theorem gapsL_64 {cs : List (Int × Int)} (h : C64 cs) : I64s (gapsL cs) := by
  intro z hz
  unfold gapsL at hz
  rw [List.mem_map] at hz
  obtain ⟨c, hc, rfl⟩ := hz
  exact (h c hc).2

/-! ### spans -/
/-- the span of classes -/
def spanN (cs : List (Int × Int)) : Nat := lcmTo (natsTo (gapsL cs) cs.length)
theorem spanN_bd {cs : List (Int × Int)} (h : clsOk cs = true) : 1 ≤ spanN cs ∧ spanN cs ≤ 5342931457063200 := by
  have ht := gapsL_ok h
  have hp : ∀ g ∈ natsTo (gapsL cs) cs.length, 0 < g ∧ g ≤ 40 := fun g hg => by
    have := natsTo_bd (zs := gapsL cs) ht (k := cs.length) g hg
    omega
  exact ⟨lcmTo_pos fun g hg => (hp g hg).1, lcmTo_le hp⟩
theorem logB_gaps {cs : List (Int × Int)} (h : clsOk cs = true) : logB (gapsL cs) = (spanN cs : Nat) := by
  unfold logB spanN
  rw [gapsL_ok h, gapsL_length]
  rfl

end Go.Proofs.Ytbhpflhopajbfaa
