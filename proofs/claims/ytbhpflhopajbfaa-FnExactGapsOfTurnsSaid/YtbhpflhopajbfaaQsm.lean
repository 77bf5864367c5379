/-
  The model's slots by deadlines, the mathematics: the two lists as the loops have them.
  Conditions: none.
-/
import Derived.Test.YtbhpflhopajbfaaQi
namespace Go.Proofs.Ytbhpflhopajbfaa

/-- the first K values of a function -/
def lst (f : Nat → Int) (K : Nat) : List Int := (List.range K).map f
theorem lst_length (f : Nat → Int) (K : Nat) : (lst f K).length = K := by simp [lst]
theorem nth_lst {f : Nat → Int} {K k : Nat} (h : k < K) : nth (lst f K) k = f k := by simp [nth, lst, h]
theorem lst_ext {f g : Nat → Int} {K : Nat} (h : ∀ k, k < K → f k = g k) : lst f K = lst g K := ext_nth (by simp [lst]) fun k hk => by
  rw [lst_length] at hk; rw [nth_lst hk, nth_lst hk, h k hk]
theorem lst_set {f : Nat → Int} {K i : Nat} {v : Int} : (lst f K).set i v = lst (fun j => if j = i then v else f j) K := by
  refine ext_nth (by simp [lst]) fun k hk => ?_
  rw [List.length_set, lst_length] at hk
  rw [nth_set (by rw [lst_length]; exact hk), nth_lst hk, nth_lst hk]
  by_cases h : i = k
  · subst h; simp
  · rw [if_neg h, if_neg (by omega)]
theorem lst_zero (K : Nat) : lst (fun _ => 0) K = List.replicate K 0 := by
  refine ext_nth (by simp [lst]) fun k hk => ?_
  rw [lst_length] at hk
  rw [nth_lst hk]; simp [nth, hk]

section
variable (ls ps ds : List Int)
def CL (s : Nat) : Nat → Int := comeL (nth ps) (nth ls) (edS ls ps ds s).1 (s : Int)
def CD (s : Nat) : Nat → Int := comeD (nth ps) (nth ds) (edS ls ps ds s).2 (s : Int)
end
variable {ls ps ds : List Int} {s i K : Nat}
theorem cLT_zero : lst (cLT ls ps ds s 0) K = lst (edS ls ps ds s).1 K := lst_ext fun k _ => by simp [cLT]
theorem cDT_zero : lst (cDT ls ps ds s 0) K = lst (edS ls ps ds s).2 K := lst_ext fun k _ => by simp [cDT]
theorem cLT_all : lst (cLT ls ps ds s K) K = lst (CL ls ps ds s) K := lst_ext fun k hk => by unfold cLT; rw [if_pos hk]; rfl
theorem cDT_all : lst (cDT ls ps ds s K) K = lst (CD ls ps ds s) K := lst_ext fun k hk => by unfold cDT; rw [if_pos hk]; rfl
theorem cLT_yes (h : (s : Int) % nth ps i = 0) : lst (cLT ls ps ds s (i + 1)) K = (lst (cLT ls ps ds s i) K).set i (nth ls i) := by
  rw [lst_set, cLT_upd h]; rfl
theorem cDT_yes (h : (s : Int) % nth ps i = 0) : lst (cDT ls ps ds s (i + 1)) K = (lst (cDT ls ps ds s i) K).set i ((s : Int) + nth ds i) := by
  rw [lst_set, cDT_upd h]; rfl
theorem cLT_no (h : (s : Int) % nth ps i ≠ 0) : lst (cLT ls ps ds s (i + 1)) K = lst (cLT ls ps ds s i) K := lst_ext fun k _ => by
  unfold cLT comeL
  by_cases e : k = i
  · subst e; rw [if_pos (by omega), if_neg h, if_neg (by omega)]
  · by_cases h2 : k < i
    · rw [if_pos (show k < i + 1 by omega), if_pos h2]
    · rw [if_neg (show ¬ k < i + 1 by omega), if_neg h2]
theorem cDT_no (h : (s : Int) % nth ps i ≠ 0) : lst (cDT ls ps ds s (i + 1)) K = lst (cDT ls ps ds s i) K := lst_ext fun k _ => by
  unfold cDT comeD
  by_cases e : k = i
  · subst e; rw [if_pos (by omega), if_neg h, if_neg (by omega)]
  · by_cases h2 : k < i
    · rw [if_pos (show k < i + 1 by omega), if_pos h2]
    · rw [if_neg (show ¬ k < i + 1 by omega), if_neg h2]
theorem nth_cLT {j : Nat} (hj : j < i) (hk : j < K) : nth (lst (cLT ls ps ds s i) K) j = CL ls ps ds s j := by rw [nth_lst hk]; unfold cLT; rw [if_pos hj]; rfl
theorem nth_cDT {j : Nat} (hj : j < i) (hk : j < K) : nth (lst (cDT ls ps ds s i) K) j = CD ls ps ds s j := by rw [nth_lst hk]; unfold cDT; rw [if_pos hj]; rfl
theorem best_succ (s i : Nat) : bestTo (CL ls ps ds s) (CD ls ps ds s) (i + 1) = if 0 < CL ls ps ds s i ∧ (bestTo (CL ls ps ds s) (CD ls ps ds s) i < 0 ∨ CD ls ps ds s i < CD ls ps ds s (bestTo (CL ls ps ds s) (CD ls ps ds s) i).toNat) then (i : Int) else bestTo (CL ls ps ds s) (CD ls ps ds s) i := rfl
theorem best_bd (s i : Nat) : bestTo (CL ls ps ds s) (CD ls ps ds s) i = -1 ∨ ∃ q : Nat, bestTo (CL ls ps ds s) (CD ls ps ds s) i = q ∧ q < i ∧ 0 < CL ls ps ds s q := by
  rcases bestTo_spec (CL ls ps ds s) (CD ls ps ds s) i with ⟨h, _⟩ | ⟨q, h1, h2, h3, _⟩
  · exact .inl h
  · exact .inr ⟨q, h2, h1, h3⟩
theorem edB_best : edB ls ps ds s = bestTo (CL ls ps ds s) (CD ls ps ds s) ls.length := rfl
theorem edS_idle (h : edB ls ps ds s = -1) : edS ls ps ds (s + 1) = (CL ls ps ds s, CD ls ps ds s) := by
  unfold edB at h
  simp only [edS, h]
  rfl
theorem edS_give {q : Nat} (h : edB ls ps ds s = q) : (edS ls ps ds (s + 1)).2 = CD ls ps ds s ∧ lst (edS ls ps ds (s + 1)).1 K = (lst (CL ls ps ds s) K).set q (CL ls ps ds s q - 1) := by
  unfold edB at h
  refine ⟨rfl, ?_⟩
  rw [lst_set]
  have : (edS ls ps ds (s + 1)).1 = upd (CL ls ps ds s) q (CL ls ps ds s q - 1) := by
    simp only [edS, h]
    rw [if_neg (by omega)]
    rfl
  rw [this]; rfl
theorem late_no (h : ∀ i, i < ls.length → ¬ (0 < (edS ls ps ds s).1 i ∧ (edS ls ps ds s).2 i = (s : Int))) : edLate ls ps ds s = -1 := lateTo_no h
theorem late_at (hi : i < ls.length) (h : 0 < (edS ls ps ds s).1 i ∧ (edS ls ps ds s).2 i = (s : Int)) (hj : ∀ j, j < i → ¬ (0 < (edS ls ps ds s).1 j ∧ (edS ls ps ds s).2 j = (s : Int))) : edLate ls ps ds s = i := lateTo_yes hi h hj
theorem CL_bd (hP : JobsP ls ps ds) (hi : i < ls.length) : CL ls ps ds s i ≤ 20 := comeL_bd hP (edS_bd hP s) _ i hi

end Go.Proofs.Ytbhpflhopajbfaa
