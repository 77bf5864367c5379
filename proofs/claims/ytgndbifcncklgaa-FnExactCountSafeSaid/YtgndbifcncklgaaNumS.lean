/-
  The model's numbers of states, and which states are lasting.
  Conditions: tasks, and their states.
-/
import Derived.Test.YtgndbifcncklgaaTop
import Derived.Test.YtgndbifcncklgaaRen
namespace Go.Proofs.Ytgndbifcncklgaa
open Go.RowKit Go.Shelf
attribute [local go_sem] Oper.semAt_some

theorem numP_step {zs st : List Int} (ht : tasksOk zs = true) (hs : IsSt zs st) {k : Nat} (hk : k < zs.length) :
    (0 ≤ numP zs st k * nth zs k ∧ numP zs st k * nth zs k ≤ 6553600000000) ∧ (1 ≤ nth st k ∧ nth st k ≤ 40) ∧ numP zs st (k + 1) = numP zs st k * nth zs k + nth st k - 1 := by
  obtain ⟨h1, h2⟩ := numP_bd hs (k := k) (by omega)
  have h3 := hs.2 k hk
  have h4 := tasksOk_nth ht hk
  have h5 := cntP_top ht (k := k + 1) (by omega)
  refine ⟨⟨Int.mul_nonneg h1 (by omega), ?_⟩, by omega, rfl⟩
  have h6 : numP zs st k * nth zs k ≤ cntP zs k * nth zs k := Int.mul_le_mul_of_nonneg_right (by omega) (by omega)
  have h7 : cntP zs (k + 1) = cntP zs k * nth zs k := rfl
  omega

/-- the state with a number, while it is made from its end on -/
def ofK (zs : List Int) (n : Int) (k : Nat) : List Int := (List.range zs.length).map fun (i : Nat) => if zs.length - k ≤ i then nth (ofL zs n) i else 0
theorem ofK_length (zs : List Int) (n : Int) (k : Nat) : (ofK zs n k).length = zs.length := by simp [ofK]
theorem nth_ofK {zs : List Int} {n : Int} {k i : Nat} (h : i < zs.length) : nth (ofK zs n k) i = if zs.length - k ≤ i then nth (ofL zs n) i else 0 := by simp [nth, ofK, h]
theorem ofK_zero (zs : List Int) (n : Int) : ofK zs n 0 = List.replicate zs.length 0 := by
  refine List.ext_getElem (by simp [ofK]) fun i h1 h2 => ?_
  simp only [ofK, List.getElem_map, List.getElem_range, List.getElem_replicate]
  rw [if_neg (by simp [ofK] at h1; omega)]
theorem ofK_all (zs : List Int) (n : Int) : ofK zs n zs.length = ofL zs n := ext_nth (by rw [ofK_length, ofL_length]) fun i hi => by
  rw [ofK_length] at hi
  rw [nth_ofK hi, if_pos (by omega)]
theorem ofK_succ {zs : List Int} (n : Int) {k : Nat} (hk : k < zs.length) : ofK zs n (k + 1) = (ofK zs n k).set (zs.length - (k + 1)) (nth (ofL zs n) (zs.length - (k + 1))) := ext_nth (by rw [List.length_set, ofK_length, ofK_length]) fun i hi => by
  rw [ofK_length] at hi
  rw [nth_set (by rw [ofK_length]; exact hi), nth_ofK hi, nth_ofK hi]
  by_cases e : zs.length - (k + 1) = i
  · rw [if_pos e, if_pos (by omega), e]
  · rw [if_neg e]
    by_cases h : zs.length - k ≤ i
    · rw [if_pos h, if_pos (by omega)]
    · rw [if_neg h, if_neg (by omega)]

end Go.Proofs.Ytgndbifcncklgaa
