/-
  The model's waits: l01Waits, l01Greatest; WaitsOf of both.
  Conditions: lists of at most 1048576 elements.
-/
import Derived.Test.YtgndbifcncklgaaWaits
namespace Go.Proofs.Ytgndbifcncklgaa
open Go.RowKit Go.Shelf

theorem stF_bd {zs : List Int} {i : Int} {c : Nat} (hc : c ≤ (slotsL zs i).length) : -1 ≤ stF zs i c ∧ stF zs i c < (zs.length : Int) + 1 := by
  unfold stF; split
  · omega
  · have := slotN_lt (zs := zs) (i := i) (c := 0) (by omega); omega
theorem stL_bd {zs : List Int} {i : Int} {c : Nat} (hc : c ≤ (slotsL zs i).length) : -1 ≤ stL zs i c ∧ stL zs i c < (zs.length : Int) + 1 := by
  unfold stL; split
  · omega
  · have := slotN_lt (zs := zs) (i := i) (c := c - 1) (by omega); omega
theorem slotsTo_len (zs : List Int) (i : Int) {k : Nat} (hk : k ≤ zs.length) : (slotsTo zs i k).length ≤ (slotsL zs i).length := (slotsTo_prefix zs i hk).length_le

theorem ownI_empty (w : World) : OwnI w.heap.size (w.alloc (.cells #[] 2)) (.slice (some ⟨w.heap.size, 0, none⟩) 0 0) [] :=
  World.ownsRow_made w #[] 0 (Nat.le_refl _) (by unfold maxLen; omega) rfl

/-! ### greatest waits -/
def maxTo (l : List Int) : Int := l.foldl max 0
theorem maxTo_snoc (l : List Int) (x : Int) : maxTo (l ++ [x]) = max (maxTo l) x := by simp [maxTo]
theorem maxTo_ge (l : List Int) : 0 ≤ maxTo l ∧ ∀ x ∈ l, x ≤ maxTo l := by
  suffices h : ∀ (l : List Int) (a : Int), a ≤ l.foldl max a ∧ ∀ x ∈ l, x ≤ l.foldl max a from h l 0
  intro l
  induction l with
  | nil => intro a; simp
  | cons y l ih =>
    intro a
    have h := ih (max a y)
    simp only [List.foldl_cons]
    refine ⟨by omega, fun x hx => ?_⟩
    rcases List.mem_cons.1 hx with rfl | hx
    · omega
    · exact h.2 x hx
def greatW (zs : List Int) (i : Int) : Int := maxTo (waitsL zs i)

end Go.Proofs.Ytgndbifcncklgaa
