/-
  Divided turns (no program): the number that each slot gets; what the program has set behind some of the slots.
-/
import Derived.Test.YtoflgfenlbibpaaWaits
import Derived.Test.YtoflgfenlbibpaaGreat
namespace Go.Proofs.Ytoflgfenlbibpaa
open Go.RowKit Go.Shelf

/-- how often the task i has had a turn ahead of slot n -/
def seenN (R : List Int) (i : Int) (n : Nat) : Nat := (slotsTo R i n).length
theorem seenN_yes {R : List Int} {i : Int} {n : Nat} (h : nth R n = i) : seenN R i (n + 1) = seenN R i n + 1 := by unfold seenN; rw [slotsTo_yes h]; simp
theorem seenN_no {R : List Int} {i : Int} {n : Nat} (h : nth R n ≠ i) : seenN R i (n + 1) = seenN R i n := by unfold seenN; rw [slotsTo_no h]
/-- the number that slot n gets -/
def divN (R : List Int) (i : Int) (m : Nat) (M : Int) (n : Nat) : Int := if nth R n = i then (if seenN R i n % m = 0 then i else M + ((seenN R i n % m : Nat) : Int)) else nth R n
def divTo (R : List Int) (i : Int) (m : Nat) (M : Int) (p : Nat) : List Int := (List.range p).map fun (n : Nat) => divN R i m M n
def divL (R : List Int) (i : Int) (m : Nat) (M : Int) : List Int := divTo R i m M R.length
theorem divTo_zero (R : List Int) (i : Int) (m : Nat) (M : Int) : divTo R i m M 0 = [] := rfl
theorem divTo_succ (R : List Int) (i : Int) (m : Nat) (M : Int) (p : Nat) : divTo R i m M (p + 1) = divTo R i m M p ++ [divN R i m M p] := by simp [divTo, List.range_succ]
theorem divTo_length (R : List Int) (i : Int) (m : Nat) (M : Int) (p : Nat) : (divTo R i m M p).length = p := by simp [divTo]
/-- behind the first k slots of the task -/
def setTo (R : List Int) (i : Int) (m : Nat) (M : Int) (k : Nat) : List Int := (List.range R.length).map fun (n : Nat) => if nth R n = i ∧ seenN R i n < k then divN R i m M n else nth R n
theorem setTo_length (R : List Int) (i : Int) (m : Nat) (M : Int) (k : Nat) : (setTo R i m M k).length = R.length := by simp [setTo]
theorem nth_setTo {R : List Int} {i : Int} {m : Nat} {M : Int} {k n : Nat} (h : n < R.length) : nth (setTo R i m M k) n = if nth R n = i ∧ seenN R i n < k then divN R i m M n else nth R n := by simp [nth, setTo, h]
theorem setTo_zero (R : List Int) (i : Int) (m : Nat) (M : Int) : setTo R i m M 0 = R := ext_nth (setTo_length _ _ _ _ _) fun n hn => by
  rw [setTo_length] at hn
  rw [nth_setTo hn, if_neg (by omega)]
theorem seenN_lt {R : List Int} {i : Int} {n : Nat} (hn : n < R.length) (h : nth R n = i) : seenN R i n < (slotsL R i).length := (List.getElem?_eq_some_iff.1 (slotsTo_at hn h)).1
theorem setTo_all (R : List Int) (i : Int) (m : Nat) (M : Int) : setTo R i m M (slotsL R i).length = divL R i m M := by
  refine ext_nth (by rw [setTo_length]; unfold divL; rw [divTo_length]) fun n hn => ?_
  rw [setTo_length] at hn
  rw [nth_setTo hn]
  have e : nth (divL R i m M) n = divN R i m M n := by simp [nth, divL, divTo, hn]
  rw [e]
  by_cases h : nth R n = i
  · rw [if_pos ⟨h, seenN_lt hn h⟩]
  · rw [if_neg (by simp [h])]; unfold divN; rw [if_neg h]
theorem slotN_at {R : List Int} {i : Int} {k : Nat} (hk : k < (slotsL R i).length) : nth R (slotN R i k) = i ∧ seenN R i (slotN R i k) = k ∧ slotN R i k < R.length := by
  have hlt := slotN_lt hk
  have hmem : slotN R i k ∈ slotsL R i := by unfold slotN; rw [List.getElem?_eq_getElem hk]; exact List.getElem_mem hk
  have hi : nth R (slotN R i k) = i := by unfold slotsL slotsTo at hmem; simp at hmem; exact hmem.2
  refine ⟨hi, ?_, hlt⟩
  have h1 := slotN_eq hlt hi
  have h2 := seenN_lt hlt hi
  have hnd : (slotsL R i).Nodup := (List.nodup_range).filter _
  have e0 : ∀ c (hc : c < (slotsL R i).length), (slotsL R i)[c]'hc = slotN R i c := fun c hc => by unfold slotN; rw [List.getElem?_eq_getElem hc]; rfl
  have e1 := (e0 _ h2).trans h1
  have e2 := e0 k hk
  have hp := List.pairwise_iff_getElem.1 hnd
  show (slotsTo R i (slotN R i k)).length = k
  rcases Nat.lt_trichotomy (slotsTo R i (slotN R i k)).length k with h | h | h
  · exact absurd (e1.trans e2.symm) (hp _ _ h2 hk h)
  · exact h
  · exact absurd (e2.trans e1.symm) (hp _ _ hk h2 h)
theorem nth_set2 {zs : List Int} {k m : Nat} {x : Int} (h : m < zs.length) : nth (zs.set k x) m = if k = m then x else nth zs m := by
  simp only [nth, List.getElem?_set]
  split
  · rename_i e; subst e; simp [h]
  · rfl
theorem setTo_step {R : List Int} {i : Int} {m : Nat} {M : Int} {k : Nat} (hk : k < (slotsL R i).length) :
    setTo R i m M (k + 1) = if k % m = 0 then setTo R i m M k else (setTo R i m M k).set (slotN R i k) (M + ((k % m : Nat) : Int)) := by
  obtain ⟨h1, h2, h3⟩ := slotN_at hk
  have hd : divN R i m M (slotN R i k) = if k % m = 0 then i else M + ((k % m : Nat) : Int) := by unfold divN; rw [if_pos h1, h2]
  have huniq : ∀ n, n < R.length → nth R n = i → seenN R i n = k → n = slotN R i k := fun n hn hi hs => by
    have := slotN_eq hn hi
    rw [show (slotsTo R i n).length = k from hs] at this
    exact this.symm
  split
  · rename_i h0
    refine ext_nth (by rw [setTo_length, setTo_length]) fun n hn => ?_
    rw [setTo_length] at hn
    rw [nth_setTo hn, nth_setTo hn]
    by_cases hc : nth R n = i ∧ seenN R i n < k
    · rw [if_pos hc, if_pos ⟨hc.1, by omega⟩]
    · rw [if_neg hc]
      by_cases hc2 : nth R n = i ∧ seenN R i n < k + 1
      · have hs : seenN R i n = k := by omega
        obtain rfl := huniq n hn hc2.1 hs
        rw [if_pos hc2, hd, if_pos h0, h1]
      · rw [if_neg hc2]
  · rename_i h0
    refine ext_nth (by rw [List.length_set, setTo_length, setTo_length]) fun n hn => ?_
    rw [setTo_length] at hn
    rw [nth_setTo hn, nth_set2 (by rw [setTo_length]; exact hn), nth_setTo hn]
    by_cases he : slotN R i k = n
    · subst he
      rw [if_pos ⟨h1, by omega⟩, hd, if_neg h0, if_pos rfl]
    · rw [if_neg he]
      by_cases hc : nth R n = i ∧ seenN R i n < k
      · rw [if_pos hc, if_pos ⟨hc.1, by omega⟩]
      · rw [if_neg hc, if_neg]
        rintro ⟨hi, hs⟩
        exact he (huniq n hn hi (by omega)).symm
/-! ### the greatest number, from i on -/
def mostI (ts : List Int) (i : Int) (k : Nat) : Int := (ts.take k).foldl max i
theorem mostI_zero (ts : List Int) (i : Int) : mostI ts i 0 = i := rfl
theorem mostI_succ {ts : List Int} {i : Int} {k : Nat} (h : k < ts.length) : mostI ts i (k + 1) = max (mostI ts i k) (nth ts k) := by
  unfold mostI; rw [take_snoc h]; simp
theorem mostI_eq {ts : List Int} {i : Int} (hi : -1 ≤ i) (k : Nat) (hk : k ≤ ts.length) : mostI ts i k = max i (mostTo ts k) := by
  induction k with
  | zero => simp [mostI, mostTo]; omega
  | succ k ih => rw [mostI_succ (by omega), mostTo_succ (by omega), ih (by omega)]; omega
theorem most_ge {ts : List Int} {k j : Nat} (hk : k ≤ ts.length) (h : j < k) : nth ts j ≤ mostTo ts k := by
  induction k with
  | zero => omega
  | succ k ih =>
    rw [mostTo_succ (by omega)]
    by_cases e : j = k
    · subst e; omega
    · have := ih (by omega) (by omega); omega
theorem mostI_most {ts : List Int} {i : Int} (hi : 0 ≤ i) (h : 0 < (slotsL ts i).length) : mostI ts i ts.length = most ts := by
  obtain ⟨h1, _, h3⟩ := slotN_at h
  have := most_ge (Nat.le_refl _) h3
  rw [h1] at this
  rw [mostI_eq (by omega) _ (Nat.le_refl _)]
  unfold most
  omega
/-! ### codes -/
def divOk (ts : List Int) (i m : Int) : Bool := turnsOk ts 8 && inB i 0 7 && inB m 2 8
def timesN (ts : List Int) (i m : Int) : Nat := m.toNat / Nat.gcd (slotsL ts i).length m.toNat
def divC (ts : List Int) (i m : Int) : Int :=
  if divOk ts i m then (if (slotsL ts i).length = 0 then 4 else if most ts + m ≤ 8 ∧ ts.length * timesN ts i m ≤ 120 then 0 else 3) else 2
end Go.Proofs.Ytoflgfenlbibpaa
