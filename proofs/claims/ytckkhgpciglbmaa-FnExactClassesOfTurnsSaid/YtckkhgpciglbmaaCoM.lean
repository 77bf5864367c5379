/-
  The mathematics of the classes of turns: the slots of a task in two rounds, its waits, the class that they tell.
-/
import Derived.Test.YtckkhgpciglbmaaWaitsI
import Derived.Test.YtckkhgpciglbmaaShift
import Derived.Test.YtckkhgpciglbmaaCls
namespace Go.Proofs.Ytckkhgpciglbmaa
open Go.RowKit Go.Shelf

/-! ### slots in two rounds -/
theorem nth_app_lt {xs ys : List Int} {k : Nat} (h : k < xs.length) : nth (xs ++ ys) k = nth xs k := nth_append_left h
theorem slotsTo_two (ts : List Int) (i : Int) : slotsL (ts ++ ts) i = slotsL ts i ++ (slotsL ts i).map (ts.length + ·) := by
  unfold slotsL slotsTo
  rw [List.length_append, List.range_add, List.filter_append]
  congr 1
  · refine List.filter_congr fun j hj => ?_
    rw [nth_append_left (by simpa using hj)]
  · rw [List.filter_map]
    congr 1
    refine List.filter_congr fun j hj => ?_
    simp only [Function.comp]
    rw [nth_append_right (by omega), Nat.add_sub_cancel_left]
theorem two_length (ts : List Int) (i : Int) : (slotsL (ts ++ ts) i).length = (slotsL ts i).length * 2 := by
  rw [slotsTo_two]; simp; omega
theorem slotN_lo {ts : List Int} {i : Int} {j : Nat} (h : j < (slotsL ts i).length) : slotN (ts ++ ts) i j = slotN ts i j := by
  unfold slotN
  rw [slotsTo_two, List.getElem?_append_left h]
theorem slotN_hi {ts : List Int} {i : Int} {j : Nat} (h : j < (slotsL ts i).length) : slotN (ts ++ ts) i ((slotsL ts i).length + j) = ts.length + slotN ts i j := by
  unfold slotN
  rw [slotsTo_two, List.getElem?_append_right (by omega), Nat.add_sub_cancel_left, List.getElem?_map, List.getElem?_eq_getElem h]
  rfl
/-- the wait behind turn j of the two rounds -/
def wt (ts : List Int) (i : Int) (j : Nat) : Int := (slotN (ts ++ ts) i (j + 1) : Int) - (slotN (ts ++ ts) i j : Int)
theorem wt_wait {ts : List Int} {i : Int} {j : Nat} (h : j < (slotsL ts i).length) : nth (waitsL ts i) j = wt ts i j := by
  unfold waitsL wt
  rw [if_neg (by omega)]
  by_cases e : j + 1 < (slotsL ts i).length
  · rw [nth_append_left (by rw [diffs_length]; omega), slotN_lo e, slotN_lo h]
    simp [diffs, nth, show j < (slotsL ts i).length - 1 by omega]
  · obtain ⟨c, hc⟩ : ∃ c, (slotsL ts i).length = c := ⟨_, rfl⟩
    have hj : j = c - 1 := by omega
    rw [nth_append_right (by rw [diffs_length]; omega), diffs_length, hc]
    have h1 := slotN_hi (ts := ts) (i := i) (j := 0) (by omega)
    rw [hc] at h1
    rw [show j + 1 = c + 0 by omega, h1, slotN_lo h, show j - (c - 1) = 0 by omega, hj]
    simp [nth]
    omega
theorem wt_again {ts : List Int} {i : Int} {j : Nat} (h : j + 1 < (slotsL ts i).length) : wt ts i ((slotsL ts i).length + j) = wt ts i j := by
  unfold wt
  rw [Nat.add_assoc, slotN_hi h, slotN_hi (show j < _ by omega), slotN_lo h, slotN_lo (show j < _ by omega)]
  omega
theorem slotN_mono {ts : List Int} {i : Int} {j k : Nat} (hjk : j < k) (hk : k < (slotsL ts i).length) : slotN ts i j < slotN ts i k := by
  have hs : (slotsL ts i).Pairwise (· < ·) := by
    unfold slotsL slotsTo
    exact List.Pairwise.filter _ List.pairwise_lt_range
  have := List.pairwise_iff_getElem.1 hs j k (by omega) hk hjk
  simpa [slotN, List.getElem?_eq_getElem (show j < (slotsL ts i).length by omega), List.getElem?_eq_getElem hk] using this
theorem wt_pos {ts : List Int} {i : Int} {j : Nat} (h : j + 1 < (slotsL ts i).length * 2) : 1 ≤ wt ts i j ∧ wt ts i j ≤ 2 * ts.length := by
  have e := two_length ts i
  have h1 := slotN_mono (ts := ts ++ ts) (i := i) (j := j) (k := j + 1) (by omega) (by omega)
  have h2 := slotN_lt (zs := ts ++ ts) (i := i) (c := j + 1) (by omega)
  rw [List.length_append] at h2
  unfold wt
  omega

/-! ### the class -/
/-- do all waits of a task agree, and has it a turn? -/
def okT (ts : List Int) (i : Int) : Bool := decide (0 < (slotsL ts i).length ∧ ∀ j, j < (slotsL ts i).length → nth (waitsL ts i) j = nth (waitsL ts i) 0)
def ctF (ts : List Int) (i : Int) : Int := (slotN ts i 0 : Int)
def ctG (ts : List Int) (i : Int) : Int := nth (waitsL ts i) 0
/-- the class that turn j of two rounds and the next one tell -/
def clF (ts : List Int) (i : Int) (j : Nat) : Int := (slotN (ts ++ ts) i j : Int) % wt ts i j
theorem ok_wt {ts : List Int} {i : Int} (h : okT ts i = true) {j : Nat} (hj : j + 1 < (slotsL ts i).length * 2) : wt ts i j = ctG ts i := by
  obtain ⟨h0, h1⟩ := of_decide_eq_true h
  by_cases e : j < (slotsL ts i).length
  · rw [← wt_wait e]; exact h1 j e
  · obtain ⟨k, rfl⟩ : ∃ k, j = (slotsL ts i).length + k := ⟨j - (slotsL ts i).length, by omega⟩
    rw [wt_again (by omega), ← wt_wait (by omega)]
    exact h1 k (by omega)
theorem ok_slot {ts : List Int} {i : Int} (h : okT ts i = true) {j : Nat} (hj : j < (slotsL ts i).length * 2) : (slotN (ts ++ ts) i j : Int) = ctF ts i + (j : Int) * ctG ts i := by
  have h0 := (of_decide_eq_true h).1
  induction j with
  | zero => unfold ctF; rw [slotN_lo h0]; simp
  | succ j ih =>
    have h1 := ih (by omega)
    have h2 := ok_wt h (j := j) hj
    unfold wt at h2
    have : ((j + 1 : Nat) : Int) * ctG ts i = (j : Int) * ctG ts i + ctG ts i := by
      rw [show ((j + 1 : Nat) : Int) = (j : Int) + 1 by omega, Int.add_mul, Int.one_mul]
    omega
theorem ok_bd {ts : List Int} {i : Int} (h : okT ts i = true) : 0 ≤ ctF ts i ∧ ctF ts i < ctG ts i ∧ ctG ts i ≤ 2 * ts.length := by
  have h0 := (of_decide_eq_true h).1
  have hp := wt_pos (ts := ts) (i := i) (j := 0) (by omega)
  rw [ok_wt h (by omega)] at hp
  have hlt := slotN_lt (zs := ts) (i := i) (c := (slotsL ts i).length - 1) (by omega)
  have h1 := ok_slot h (j := (slotsL ts i).length - 1) (by omega)
  rw [slotN_lo (by omega)] at h1
  have h2 := ok_slot h (j := (slotsL ts i).length) (by omega)
  have h3 := slotN_hi (ts := ts) (i := i) (j := 0) h0
  rw [Nat.add_zero] at h3
  have h4 : ctF ts i = (slotN ts i 0 : Int) := rfl
  have : (((slotsL ts i).length : Nat) : Int) * ctG ts i = (((slotsL ts i).length - 1 : Nat) : Int) * ctG ts i + ctG ts i := by
    rw [show (((slotsL ts i).length : Nat) : Int) = (((slotsL ts i).length - 1 : Nat) : Int) + 1 by omega, Int.add_mul, Int.one_mul]
  omega
theorem ok_cl {ts : List Int} {i : Int} (h : okT ts i = true) {j : Nat} (hj : j + 1 < (slotsL ts i).length * 2) : clF ts i j = ctF ts i ∧ wt ts i j = ctG ts i := by
  refine ⟨?_, ok_wt h hj⟩
  unfold clF
  rw [ok_wt h hj, ok_slot h (by omega)]
  have := ok_bd h
  rw [Int.add_mul_emod_self_right]
  exact Int.emod_eq_of_lt this.1 this.2.1
/-- if all classes agree, so do all waits -/
theorem ok_of {ts : List Int} {i : Int} (h0 : 0 < (slotsL ts i).length) (h : ∀ j, j + 1 < (slotsL ts i).length * 2 → wt ts i j = wt ts i 0) : okT ts i = true := by
  refine decide_eq_true ⟨h0, fun j hj => ?_⟩
  rw [wt_wait hj, wt_wait h0]
  by_cases e : j + 1 < (slotsL ts i).length * 2
  · exact h j e
  · have : j = 0 := by omega
    rw [this]
theorem no_of {ts : List Int} {i : Int} {j k : Nat} (hj : j + 1 < (slotsL ts i).length * 2) (hk : k + 1 < (slotsL ts i).length * 2) (h : ¬ (clF ts i j = clF ts i k ∧ wt ts i j = wt ts i k)) : okT ts i = false := by
  cases e : okT ts i
  · rfl
  · exfalso
    have h1 := ok_cl e hj
    have h2 := ok_cl e hk
    exact h ⟨by rw [h1.1, h2.1], by rw [h1.2, h2.2]⟩

/-! ### ClassesOfTurns -/
def allOk (ts : List Int) (k : Nat) : Bool := decide (∀ i : Nat, i < k → okT ts (i : Int) = true)
def smallG (ts : List Int) (k : Nat) : Bool := decide (∀ i : Nat, i < k → ctG ts (i : Int) ≤ 40)
def ctL (ts : List Int) (k : Nat) : List (Int × Int) := (List.range k).map fun (i : Nat) => (ctF ts (i : Int), ctG ts (i : Int))
theorem ctL_succ (ts : List Int) (k : Nat) : ctL ts (k + 1) = ctL ts k ++ [(ctF ts (k : Int), ctG ts (k : Int))] := by simp [ctL, List.range_succ]
theorem ctL_length (ts : List Int) (k : Nat) : (ctL ts k).length = k := by simp [ctL]
theorem gp_ctL {ts : List Int} {k i : Nat} (h : i < k) : gp (ctL ts k) i = ctG ts (i : Int) := by simp [gp, ctL, h]
def cotC (ts : List Int) (k : Int) : Int := if inB k 1 8 && turnsOk ts k then (if allOk ts k.toNat then (if smallG ts k.toNat then 0 else 3) else 4) else 2
def cotR (ts : List Int) (k : Int) : List (Int × Int) := if cotC ts k = 0 then ctL ts k.toNat else []
theorem cotR_no {ts : List Int} {k : Int} (h : cotC ts k ≠ 0) : cotR ts k = [] := by unfold cotR; rw [if_neg h]
theorem cotR_len (ts : List Int) (k : Int) : (cotR ts k).length * 16 ≤ 140737488351232 := by
  unfold cotR
  split
  · rename_i h
    have hk : inB k 1 8 = true := by
      cases e : inB k 1 8
      · unfold cotC at h; rw [e] at h; simp at h
      · rfl
    rw [inB_true] at hk
    rw [ctL_length]; omega
  · simp

end Go.Proofs.Ytckkhgpciglbmaa
