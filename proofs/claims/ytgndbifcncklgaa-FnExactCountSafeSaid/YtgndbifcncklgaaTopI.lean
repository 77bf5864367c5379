/-
  IsLasting and CanServe of the program.
  Conditions: lists of at most 1048576 elements.
-/
import Derived.Test.YtgndbifcncklgaaTop
namespace Go.Proofs.Ytgndbifcncklgaa
open Go.RowKit Go.Shelf Go.Maps
attribute [local go_sem] Oper.semAt_some

open Classical in
noncomputable def isLastR (zs st : List Int) : Bool := if givenC zs st = 0 then decide (Lasting zs st) else false
open Classical in
noncomputable def canR (zs : List Int) : Bool := if fewC zs = 0 then decide (CanL zs) else false
theorem ret_b2' {a a' : Bool} {b b' : Int} (h : a = a') (k : b = b') : Ending.returned (.tuple #[.bool a, .int .i64 b]) = .returned (.tuple #[.bool a', .int .i64 b']) := by rw [h, k]
theorem bytes_st {zs st : List Int} (ht : tasksOk zs = true) (hs : IsSt zs st) : st.length ≤ 8 ∧ ∀ k, k < st.length → 0 ≤ nth st k ∧ nth st k ≤ 255 := by
  have h8 := tasksOk_len ht
  refine ⟨by rw [hs.1]; omega, fun k hk => ?_⟩
  have h1 := hs.2 k (by rw [← hs.1]; exact hk)
  have h2 := tasksOk_nth ht (k := k) (by rw [← hs.1]; exact hk)
  omega

end Go.Proofs.Ytgndbifcncklgaa
