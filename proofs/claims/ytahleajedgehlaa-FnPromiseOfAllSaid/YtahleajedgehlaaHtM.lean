/-
  Harmonic turns (no program): the least free slot, the slots that a task takes, the turns of the first k tasks.
-/
import Derived.Test.YtahleajedgehlaaSrtM
namespace Go.Proofs.Ytahleajedgehlaa
open Go.RowKit Go.Shelf

/-- the least slot that nobody has (behind the last one if there is none) -/
def freeF : List Int → Nat
  | [] => 0
  | z :: l => if z = -1 then 0 else freeF l + 1
theorem freeF_le (l : List Int) : freeF l ≤ l.length := by
  induction l with
  | nil => simp [freeF]
  | cons z l ih => unfold freeF; split <;> simp <;> omega
theorem freeF_at {l : List Int} : ∀ {k : Nat}, k < l.length → nth l k = -1 → (∀ m, m < k → nth l m ≠ -1) → freeF l = k := by
  induction l with
  | nil => intro k h; simp at h
  | cons z l ih =>
    intro k hk he hall
    cases k with
    | zero =>
      have : z = -1 := by simpa [nth] using he
      unfold freeF; rw [if_pos this]
    | succ k =>
      have h0 : z ≠ -1 := by have := hall 0 (by omega); simpa [nth] using this
      unfold freeF
      rw [if_neg h0, ih (k := k) (by simpa using hk) (by simpa [nth] using he) (fun m hm => by have := hall (m + 1) (by omega); simpa [nth] using this)]
theorem freeF_none {l : List Int} (h : ∀ m, m < l.length → nth l m ≠ -1) : freeF l = l.length := by
  induction l with
  | nil => rfl
  | cons z l ih =>
    have h0 : z ≠ -1 := by have := h 0 (by simp); simpa [nth] using this
    unfold freeF
    rw [if_neg h0, ih (fun m hm => by have := h (m + 1) (by simp; omega); simpa [nth] using this)]
    rfl
/-- i in slot s, and in every gap-th one behind it -/
def putF : Nat → List Int → Int → Nat → Nat → List Int
  | 0, l, _, _, _ => l
  | n + 1, l, i, gap, s => if s < l.length then putF n (l.set s i) i gap (s + gap) else l
theorem putF_step {n : Nat} {l : List Int} {i : Int} {gap s : Nat} (h : s < l.length) : putF (n + 1) l i gap s = putF n (l.set s i) i gap (s + gap) := by simp [putF, h]
theorem putF_stop {n : Nat} {l : List Int} {i : Int} {gap s : Nat} (h : ¬ s < l.length) : putF n l i gap s = l := by cases n <;> simp [putF, h]
theorem putF_length (n : Nat) (l : List Int) (i : Int) (gap s : Nat) : (putF n l i gap s).length = l.length := by
  induction n generalizing l s with
  | zero => rfl
  | succ n ih => unfold putF; split; rw [ih, List.length_set]; rfl
theorem putF_ge {n : Nat} {l : List Int} {i : Int} {gap s : Nat} (hi : -1 ≤ i) (h : ∀ z ∈ l, -1 ≤ z) : ∀ z ∈ putF n l i gap s, -1 ≤ z := by
  induction n generalizing l s with
  | zero => exact h
  | succ n ih =>
    unfold putF
    split
    · refine ih fun z hz => ?_
      rcases List.mem_or_eq_of_mem_set hz with hz | rfl
      · exact h z hz
      · exact hi
    · exact h
def takeL (l : List Int) (i : Int) (gap : Nat) : List Int := putF l.length l i gap (freeF l)
theorem takeL_length (l : List Int) (i : Int) (gap : Nat) : (takeL l i gap).length = l.length := putF_length _ _ _ _ _
/-- the turns of the first k tasks of an order; none if one of them finds no slot -/
def harmTo (zs o : List Int) (L : Nat) : Nat → Option (List Int)
  | 0 => some (List.replicate L (-1))
  | k + 1 => match harmTo zs o L k with
    | none => none
    | some l => if freeF l < l.length then some (takeL l (nth o k) (gapAt zs o k).toNat) else none
theorem harmTo_some {zs o : List Int} {L k : Nat} {l : List Int} (h : harmTo zs o L k = some l) (hf : freeF l < l.length) : harmTo zs o L (k + 1) = some (takeL l (nth o k) (gapAt zs o k).toNat) := by
  unfold harmTo; rw [h]; simp [hf]
theorem harmTo_stop {zs o : List Int} {L k : Nat} {l : List Int} (h : harmTo zs o L k = some l) (hf : ¬ freeF l < l.length) : harmTo zs o L (k + 1) = none := by
  unfold harmTo; rw [h]; simp [hf]
theorem harmTo_none {zs o : List Int} {L k n : Nat} (hk : k ≤ n) (h : harmTo zs o L k = none) : harmTo zs o L n = none := by
  induction n with
  | zero => obtain rfl : k = 0 := by omega
            exact h
  | succ n ih =>
    by_cases e : k = n + 1
    · subst e; exact h
    · unfold harmTo; rw [ih (by omega)]
theorem harmTo_length {zs o : List Int} {L : Nat} : ∀ {k : Nat} {l : List Int}, harmTo zs o L k = some l → l.length = L := by
  intro k
  induction k with
  | zero => intro l h; simp [harmTo] at h; subst h; simp
  | succ k ih =>
    intro l h
    unfold harmTo at h
    split at h
    · cases h
    · rename_i l' h'
      split at h
      · simp at h; subst h; rw [takeL_length]; exact ih h'
      · cases h
theorem harmTo_ge {zs o : List Int} {L : Nat} (ho : ∀ k, -1 ≤ nth o k) : ∀ {k : Nat} {l : List Int}, harmTo zs o L k = some l → ∀ z ∈ l, -1 ≤ z := by
  intro k
  induction k with
  | zero => intro l h z hz; simp [harmTo] at h; subst h; simp at hz; omega
  | succ k ih =>
    intro l h
    unfold harmTo at h
    split at h
    · cases h
    · rename_i l' h'
      split at h
      · simp at h; subst h; exact putF_ge (ho k) (ih h')
      · cases h
/-- the turns of the first k tasks of an order, where there are any -/
def harmF (zs o : List Int) (L k : Nat) : List Int := (harmTo zs o L k).getD []
def harmIs (zs o : List Int) (L k : Nat) : Prop := harmTo zs o L k = some (harmF zs o L k)
theorem harmIs_zero (zs o : List Int) (L : Nat) : harmIs zs o L 0 := rfl
theorem harmF_zero (zs o : List Int) (L : Nat) : harmF zs o L 0 = List.replicate L (-1) := rfl
theorem harmIs_length {zs o : List Int} {L k : Nat} (h : harmIs zs o L k) : (harmF zs o L k).length = L := harmTo_length h
theorem harmF_succ {zs o : List Int} {L k : Nat} (h : harmIs zs o L k) (hf : freeF (harmF zs o L k) < (harmF zs o L k).length) : harmF zs o L (k + 1) = takeL (harmF zs o L k) (nth o k) (gapAt zs o k).toNat := by
  have := harmTo_some h hf
  unfold harmF at this ⊢; rw [this]; rfl
theorem harmIs_succ {zs o : List Int} {L k : Nat} (h : harmIs zs o L k) (hf : freeF (harmF zs o L k) < (harmF zs o L k).length) : harmIs zs o L (k + 1) := by
  unfold harmIs; rw [harmTo_some h hf, harmF_succ h hf]
theorem harmF_ge {zs : List Int} {L k : Nat} (h : harmIs zs (ordTo zs zs.length) L k) : ∀ z ∈ harmF zs (ordTo zs zs.length) L k, -1 ≤ z := harmTo_ge (fun m => by
  by_cases hm : m < zs.length
  · have := ordTo_bd zs zs.length hm; omega
  · have : nth (ordTo zs zs.length) m = 0 := by
      unfold nth; rw [List.getElem?_eq_none (by rw [ordTo_length]; omega)]; rfl
    omega) h
/-- the harmonic turns, if there are any -/
def harmT (zs : List Int) : Option (List Int) := harmTo zs (ordTo zs zs.length) (nth (sortV zs) (zs.length - 1)).toNat zs.length
def htC (zs : List Int) : Int := if tasksOk zs then (if harmB zs then (match harmT zs with | some _ => 0 | none => 4) else 5) else 1
def htR (zs : List Int) : List Int := if tasksOk zs && harmB zs then (match harmT zs with | some l => l | none => []) else []

end Go.Proofs.Ytahleajedgehlaa
