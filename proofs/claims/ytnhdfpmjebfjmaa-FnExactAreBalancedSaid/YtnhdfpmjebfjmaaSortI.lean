/-
  SortTasks of the program: the comparison that the program hands over, the library's stable sort of at most eight elements.
  Conditions: at most eight tasks.
-/
import Derived.Test.YtnhdfpmjebfjmaaSort
import Derived.Deep.RegionHeld3
namespace Go.Proofs.Ytnhdfpmjebfjmaa
open Go.RowKit Go.Shelf
attribute [local go_sem] Oper.semAt_some

theorem isNaN_c (x : Int) (w : World) : Calls Try.prog 128 #[.int .i64 x] w fun e w' => e = .returned (.bool false) ∧ w = w' := by
  go_enter Try.func128, Try.ntmps128
  go_wp2
  go_ret
  simp

def cmpI (x y : Int) : Int := if x < y then -1 else if y < x then 1 else 0
theorem compare_c (x y : Int) (w : World) : Calls Try.prog 118 #[.int .i64 x, .int .i64 y] w fun e w' => e = .returned (.int .i64 (cmpI x y)) ∧ w = w' := by
  by_cases h1 : x < y
  · have Hc := Lib.hid (show cmpI x y = -1 by unfold cmpI; rw [if_pos h1])
    go_enter Try.func118, Try.ntmps118
    go_wp2_with (go_at_call 128; refine (isNaN_c _ _).mono ?_; rintro e w' ⟨rfl, rfl⟩)
    go_ret
    exact ⟨ret_int Hc.out.symm, rfl⟩
  · by_cases h2 : y < x
    · have Hc := Lib.hid (show cmpI x y = 1 by unfold cmpI; rw [if_neg h1, if_pos h2])
      go_enter Try.func118, Try.ntmps118
      go_wp2_with (go_at_call 128; refine (isNaN_c _ _).mono ?_; rintro e w' ⟨rfl, rfl⟩)
      go_ret
      exact ⟨ret_int Hc.out.symm, rfl⟩
    · have Hc := Lib.hid (show cmpI x y = 0 by unfold cmpI; rw [if_neg h1, if_neg h2])
      go_enter Try.func118, Try.ntmps118
      go_wp2_with (go_at_call 128; refine (isNaN_c _ _).mono ?_; rintro e w' ⟨rfl, rfl⟩)
      go_ret
      exact ⟨ret_int Hc.out.symm, rfl⟩

end Go.Proofs.Ytnhdfpmjebfjmaa
