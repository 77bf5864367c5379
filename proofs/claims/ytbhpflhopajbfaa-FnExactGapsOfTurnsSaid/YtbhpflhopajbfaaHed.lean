/-
  Slots by deadlines: the lists that the program and the model tell, slot by slot; and what the queue knows of them.
  Conditions: none.
-/
import Derived.Test.YtbhpflhopajbfaaJobM
import Derived.Test.YtbhpflhopajbfaaHep
namespace Go.Proofs.Ytbhpflhopajbfaa

/-- the model's state ahead of slot s: slots left, deadlines -/
def edS (ls ps ds : List Int) : Nat → (Nat → Int) × (Nat → Int)
  | 0 => (fun _ => 0, fun _ => 0)
  | s + 1 => (let L := comeL (nth ps) (nth ls) (edS ls ps ds s).1 (s : Int); let b := bestTo L (comeD (nth ps) (nth ds) (edS ls ps ds s).2 (s : Int)) ls.length
      if b < 0 then L else upd L b.toNat (L b.toNat - 1), comeD (nth ps) (nth ds) (edS ls ps ds s).2 (s : Int))
/-- who has slot s -/
def edB (ls ps ds : List Int) (s : Nat) : Int := bestTo (comeL (nth ps) (nth ls) (edS ls ps ds s).1 (s : Int)) (comeD (nth ps) (nth ds) (edS ls ps ds s).2 (s : Int)) ls.length
/-- the least of the first k tasks that is late in slot s, -1 for none -/
def lateTo (L D : Nat → Int) (s : Int) : Nat → Int
  | 0 => -1
  | k + 1 => if 0 ≤ lateTo L D s k then lateTo L D s k else if 0 < L k ∧ D k = s then (k : Int) else -1
def edLate (ls ps ds : List Int) (s : Nat) : Int := lateTo (edS ls ps ds s).1 (edS ls ps ds s).2 (s : Int) ls.length
def edEnd (ls ps ds : List Int) : Nat → Nat → Nat
  | 0, s => s
  | f + 1, s => if 0 ≤ edLate ls ps ds s then s else edEnd ls ps ds f (s + 1)
/-- how many slots there are -/
def edN (ls ps ds : List Int) (whole : Nat) : Nat := edEnd ls ps ds whole 0
/-- the first n slots -/
def edTo (ls ps ds : List Int) (n : Nat) : List Int := (List.range n).map (edB ls ps ds)
theorem edTo_succ (ls ps ds : List Int) (n : Nat) : edTo ls ps ds (n + 1) = edTo ls ps ds n ++ [edB ls ps ds n] := by simp [edTo, List.range_succ]
theorem edTo_length (ls ps ds : List Int) (n : Nat) : (edTo ls ps ds n).length = n := by simp [edTo]
theorem nth_edTo {ls ps ds : List Int} {n k : Nat} (h : k < n) : nth (edTo ls ps ds n) k = edB ls ps ds k := by simp [nth, edTo, h]
theorem edTo_take {ls ps ds : List Int} {n k : Nat} (h : k ≤ n) : (edTo ls ps ds n).take k = edTo ls ps ds k := by
  simp [edTo, ← List.map_take, List.take_range, Nat.min_eq_left h]

theorem lateTo_spec (L D : Nat → Int) (s : Int) (k : Nat) : (lateTo L D s k = -1 ∧ ∀ i, i < k → ¬ (0 < L i ∧ D i = s)) ∨
    ∃ i : Nat, i < k ∧ lateTo L D s k = i ∧ (0 < L i ∧ D i = s) ∧ ∀ j, j < i → ¬ (0 < L j ∧ D j = s) := by
  induction k with
  | zero => exact .inl ⟨rfl, fun i hi => by omega⟩
  | succ k ih =>
    rcases ih with ⟨h1, h2⟩ | ⟨i, hi, h1, h2, h3⟩
    · by_cases h : 0 < L k ∧ D k = s
      · refine .inr ⟨k, by omega, ?_, h, h2⟩
        unfold lateTo; rw [h1, if_neg (by omega), if_pos h]
      · refine .inl ⟨?_, fun i hi => ?_⟩
        · unfold lateTo; rw [h1, if_neg (by omega), if_neg h]
        · by_cases e : i = k
          · subst e; exact h
          · exact h2 i (by omega)
    · refine .inr ⟨i, by omega, ?_, h2, h3⟩
      unfold lateTo; rw [h1, if_pos (by omega)]
theorem lateTo_no {L D : Nat → Int} {s : Int} {k : Nat} (h : ∀ i, i < k → ¬ (0 < L i ∧ D i = s)) : lateTo L D s k = -1 := by
  rcases lateTo_spec L D s k with ⟨h1, _⟩ | ⟨i, hi, _, h2, _⟩
  · exact h1
  · exact absurd h2 (h i hi)
theorem lateTo_yes {L D : Nat → Int} {s : Int} {k i : Nat} (hi : i < k) (h : 0 < L i ∧ D i = s) (hj : ∀ j, j < i → ¬ (0 < L j ∧ D j = s)) : lateTo L D s k = i := by
  rcases lateTo_spec L D s k with ⟨_, h2⟩ | ⟨i2, hi2, h1, h2, h3⟩
  · exact absurd h (h2 i hi)
  · rw [h1]
    have a : ¬ i < i2 := fun e => h3 i e h
    have b : ¬ i2 < i := fun e => hj i2 e h2
    omega
theorem edLate_cases (ls ps ds : List Int) (s : Nat) : edLate ls ps ds s = -1 ∨ (0 ≤ edLate ls ps ds s ∧ edLate ls ps ds s < ls.length) := by
  unfold edLate
  rcases lateTo_spec (edS ls ps ds s).1 (edS ls ps ds s).2 (s : Int) ls.length with ⟨h1, _⟩ | ⟨i, hi, h1, _⟩ <;> rw [h1] <;> omega
theorem edEnd_spec (ls ps ds : List Int) (f s : Nat) : s ≤ edEnd ls ps ds f s ∧ edEnd ls ps ds f s ≤ s + f ∧ (∀ j, s ≤ j → j < edEnd ls ps ds f s → edLate ls ps ds j < 0) ∧ (edEnd ls ps ds f s = s + f ∨ 0 ≤ edLate ls ps ds (edEnd ls ps ds f s)) := by
  induction f generalizing s with
  | zero => exact ⟨Nat.le_refl _, Nat.le_refl _, fun j h1 h2 => by simp only [edEnd] at h2; omega, .inl rfl⟩
  | succ f ih =>
    by_cases h : 0 ≤ edLate ls ps ds s
    · have e : edEnd ls ps ds (f + 1) s = s := by unfold edEnd; rw [if_pos h]
      rw [e]
      exact ⟨by omega, by omega, fun j h1 h2 => by omega, .inr h⟩
    · have e : edEnd ls ps ds (f + 1) s = edEnd ls ps ds f (s + 1) := by simp only [edEnd]; rw [if_neg h]
      obtain ⟨h1, h2, h3, h4⟩ := ih (s + 1)
      rw [e]
      refine ⟨by omega, by omega, fun j j1 j2 => ?_, h4.imp (fun h => by omega) id⟩
      by_cases ej : j = s
      · subst ej; omega
      · exact h3 j (by omega) j2
theorem edN_le (ls ps ds : List Int) (n : Nat) : edN ls ps ds n ≤ n := by have := (edEnd_spec ls ps ds n 0).2.1; unfold edN; omega
theorem edN_not {ls ps ds : List Int} {n j : Nat} (h : j < edN ls ps ds n) : edLate ls ps ds j < 0 := (edEnd_spec ls ps ds n 0).2.2.1 j (by omega) h
theorem edN_stop (ls ps ds : List Int) (n : Nat) : edN ls ps ds n = n ∨ 0 ≤ edLate ls ps ds (edN ls ps ds n) := by
  rcases (edEnd_spec ls ps ds n 0).2.2.2 with h | h
  · left; unfold edN; omega
  · exact .inr h
/-- told by where it ends -/
theorem edN_eq {ls ps ds : List Int} {n m : Nat} (hm : m ≤ n) (h : ∀ j, j < m → edLate ls ps ds j < 0) (he : m = n ∨ 0 ≤ edLate ls ps ds m) : edN ls ps ds n = m := by
  have h1 := edN_le ls ps ds n
  have a : ¬ m < edN ls ps ds n := fun e => by
    rcases he with he | he
    · omega
    · have := edN_not e; omega
  have b : ¬ edN ls ps ds n < m := fun e => by
    rcases edN_stop ls ps ds n with h2 | h2
    · omega
    · have := h _ e; omega
  omega

/-! ### the queue as a list -/
def pz : Pend := ⟨0, 0, 0⟩
def pat (qs : List Pend) (i : Nat) : Pend := qs[i]?.getD pz
theorem pat_lt {qs : List Pend} {i : Nat} (h : i < qs.length) : qs[i]? = some (pat qs i) := by simp [pat, h]
theorem pat_app {qs : List Pend} {x : Pend} {i : Nat} (h : i < qs.length) : pat (qs ++ [x]) i = pat qs i := by simp [pat, List.getElem?_append_left h]
theorem pat_last {qs : List Pend} {x : Pend} : pat (qs ++ [x]) qs.length = x := by simp [pat]
def swpL (qs : List Pend) (i j : Nat) : List Pend := (qs.set i (pat qs j)).set j (pat qs i)
theorem swpL_length (qs : List Pend) (i j : Nat) : (swpL qs i j).length = qs.length := by simp [swpL]
theorem pat_set {qs : List Pend} {i k : Nat} {x : Pend} (h : i < qs.length) : pat (qs.set i x) k = if k = i then x else pat qs k := by
  unfold pat
  rw [List.getElem?_set]
  by_cases e : i = k
  · subst e; simp [h]
  · rw [if_neg e, if_neg (by omega)]
theorem pat_swpL {qs : List Pend} {i j : Nat} (hi : i < qs.length) (hj : j < qs.length) : pat (swpL qs i j) = swp (pat qs) i j := by
  funext k
  unfold swpL swp
  rw [pat_set (by simpa using hj), pat_set hi]
  by_cases e : k = i
  · subst e
    rw [if_pos rfl, if_pos rfl]
    split
    · rename_i h; subst h; rfl
    · rfl
  · rw [if_neg e, if_neg e]
theorem pat_take {qs : List Pend} {n i : Nat} (h : i < n) : pat (qs.take n) i = pat qs i := by unfold pat; rw [List.getElem?_take_of_lt h]
theorem pat_ext {xs ys : List Pend} (hl : xs.length = ys.length) (h : ∀ i, i < xs.length → pat xs i = pat ys i) : xs = ys := by
  refine List.ext_getElem? fun i => ?_
  by_cases hi : i < xs.length
  · rw [pat_lt hi, pat_lt (by omega), h i hi]
  · rw [List.getElem?_eq_none (by omega), List.getElem?_eq_none (by omega)]

theorem IsHeap.congr {f g : Nat → Pend} {n : Nat} (h : IsHeap ahead f n) (e : ∀ j, j < n → (g j).task = (f j).task ∧ (g j).due = (f j).due) : IsHeap ahead g n := fun k h0 h1 => by
  have h2 := h k h0 h1
  have h3 := hpar_lt h0
  obtain ⟨a1, a2⟩ := e k h1
  obtain ⟨b1, b2⟩ := e (hpar k) (by omega)
  unfold ahead at h2 ⊢
  rw [a1, a2, b1, b2]
  exact h2
theorem HDown.congr {f g : Nat → Pend} {n i : Nat} (h : HDown ahead f n i) (e : ∀ j, j < n → g j = f j) : HDown ahead g n i := by
  refine ⟨fun k h1 h2 h3 => ?_, fun k h1 h2 h3 h4 => ?_⟩
  · have := hpar_lt h1; rw [e k h2, e (hpar k) (by omega)]; exact h.rest k h1 h2 h3
  · have := hpar_lt h1; have h5 := hpar_lt h4; rw [e k h2, e (hpar i) (by omega)]; exact h.kids k h1 h2 h3 h4
theorem Bag.congr {f g : Nat → Pend} {n k : Nat} {L D : Nat → Int} (h : Bag f n L D k) (e : ∀ j, j < n → g j = f j) : Bag g n L D k := by
  refine ⟨fun x => (h.mem x).symm.trans ?_ |>.symm, fun a b ha hb he => h.once a b ha hb (by rw [← e a ha, ← e b hb]; exact he)⟩
  constructor
  · rintro ⟨a, ha, rfl⟩; exact ⟨a, ha, e a ha⟩
  · rintro ⟨a, ha, rfl⟩; exact ⟨a, ha, (e a ha).symm⟩

/-- what the heap's repairs keep: the list is a heap, with the same items among the first n, and the same ones behind -/
structure Mend (qs qs' : List Pend) (n : Nat) : Prop where
  len : qs'.length = qs.length
  heap : IsHeap ahead (pat qs') n
  bag : ∀ L D k, Bag (pat qs) n L D k → Bag (pat qs') n L D k
  back : ∀ i, n ≤ i → pat qs' i = pat qs i
theorem Mend.refl {qs : List Pend} {n : Nat} (h : IsHeap ahead (pat qs) n) : Mend qs qs n := ⟨rfl, h, fun _ _ _ h => h, fun _ _ => rfl⟩
theorem Mend.after {qs qs1 qs' : List Pend} {n i j : Nat} (h1 : qs1 = swpL qs i j) (hi : i < n) (hj : j < n) (hn : n ≤ qs.length) (h : Mend qs1 qs' n) : Mend qs qs' n := by
  subst h1
  have e := pat_swpL (qs := qs) (i := i) (j := j) (by omega) (by omega)
  refine ⟨h.len.trans (swpL_length _ _ _), h.heap, fun L D k hb => h.bag L D k (by rw [e]; exact hb.swp hi hj), fun m hm => (h.back m hm).trans ?_⟩
  rw [e, swp_o _ (by omega) (by omega)]

/-! ### what the queue knows -/
/-- ahead of slot s the queue holds who has slots left -/
structure QAt (ls ps ds : List Int) (qs : List Pend) (s : Nat) : Prop where
  heap : IsHeap ahead (pat qs) qs.length
  bag : Bag (pat qs) qs.length (edS ls ps ds s).1 (edS ls ps ds s).2 ls.length
  due : Due (nth ps) (edS ls ps ds s).1 (edS ls ps ds s).2 ls.length (s : Int)
theorem qAt_zero (ls ps ds : List Int) : QAt ls ps ds [] 0 := by
  refine ⟨fun k _ h => by simp at h, Bag.nil fun i _ h => ?_, fun i _ h => ?_⟩
  · simp [edS] at h
  · simp [edS] at h
/-- somebody is late: the first of the queue -/
theorem QAt.late {ls ps ds : List Int} {qs : List Pend} {s : Nat} (h : QAt ls ps ds qs s) (hn : 0 < qs.length) (hd : (pat qs 0).due ≤ (s : Int)) : edLate ls ps ds s = (pat qs 0).task ∧ 0 ≤ edLate ls ps ds s := by
  obtain ⟨i, hi, e, h1, h2, h3⟩ := h.bag.late h.heap h.due hn hd
  have e2 : edLate ls ps ds s = i := lateTo_yes hi ⟨h1, h2⟩ fun j hj ⟨a, b⟩ => h3 j hj a b
  rw [e, e2]; omega
theorem QAt.notLate {ls ps ds : List Int} {qs : List Pend} {s : Nat} (h : QAt ls ps ds qs s) (h0 : 0 < qs.length → ¬ (pat qs 0).due ≤ (s : Int)) : edLate ls ps ds s = -1 :=
  lateTo_no fun i hi ⟨a, b⟩ => h.bag.notLate h.heap h0 i hi a b
/-- at the end of the whole period: who waits first is late -/
theorem QAt.whole {ls ps ds : List Int} {qs : List Pend} {s : Nat} (h : QAt ls ps ds qs s) (hs : ∀ i, i < ls.length → 1 ≤ nth ps i ∧ (s : Int) % nth ps i = 0) :
    edLate ls ps ds s = if 0 < qs.length then (pat qs 0).task else -1 := by
  split
  · rename_i hn
    refine (h.late hn ?_).1
    obtain ⟨i, hi, e, hl⟩ := h.bag.at_ hn
    rw [e]
    have := h.due.whole hs hi hl
    simp only
    omega
  · refine h.notLate fun hn => absurd hn (by assumption)

/-- behind the first i tasks of those that come in slot s -/
def cLT (ls ps ds : List Int) (s i : Nat) : Nat → Int := fun j => if j < i then comeL (nth ps) (nth ls) (edS ls ps ds s).1 (s : Int) j else (edS ls ps ds s).1 j
def cDT (ls ps ds : List Int) (s i : Nat) : Nat → Int := fun j => if j < i then comeD (nth ps) (nth ds) (edS ls ps ds s).2 (s : Int) j else (edS ls ps ds s).2 j
structure QCome (ls ps ds : List Int) (qs : List Pend) (s i : Nat) : Prop where
  heap : IsHeap ahead (pat qs) qs.length
  bag : Bag (pat qs) qs.length (cLT ls ps ds s i) (cDT ls ps ds s i) ls.length
theorem QAt.come {ls ps ds : List Int} {qs : List Pend} {s : Nat} (h : QAt ls ps ds qs s) : QCome ls ps ds qs s 0 := ⟨h.heap, by
  have e1 : cLT ls ps ds s 0 = (edS ls ps ds s).1 := by funext j; simp [cLT]
  have e2 : cDT ls ps ds s 0 = (edS ls ps ds s).2 := by funext j; simp [cDT]
  rw [e1, e2]; exact h.bag⟩
theorem QCome.skip {ls ps ds : List Int} {qs : List Pend} {s i : Nat} (h : QCome ls ps ds qs s i) (hs : (s : Int) % nth ps i ≠ 0) : QCome ls ps ds qs s (i + 1) := by
  have e1 : cLT ls ps ds s (i + 1) = cLT ls ps ds s i := by
    funext j; unfold cLT comeL
    by_cases e : j = i
    · subst e; rw [if_pos (by omega), if_neg hs, if_neg (by omega)]
    · by_cases h : j < i
      · rw [if_pos (show j < i + 1 by omega), if_pos h]
      · rw [if_neg (show ¬ j < i + 1 by omega), if_neg h]
  have e2 : cDT ls ps ds s (i + 1) = cDT ls ps ds s i := by
    funext j; unfold cDT comeD
    by_cases e : j = i
    · subst e; rw [if_pos (by omega), if_neg hs, if_neg (by omega)]
    · by_cases h : j < i
      · rw [if_pos (show j < i + 1 by omega), if_pos h]
      · rw [if_neg (show ¬ j < i + 1 by omega), if_neg h]
  exact ⟨h.heap, by rw [e1, e2]; exact h.bag⟩
theorem cLT_upd {ls ps ds : List Int} {s i : Nat} (hs : (s : Int) % nth ps i = 0) : cLT ls ps ds s (i + 1) = upd (cLT ls ps ds s i) i (nth ls i) := by
  funext j; unfold cLT comeL upd; dsimp only
  by_cases e : j = i
  · subst e; rw [if_pos (by omega), if_pos hs, if_pos rfl]
  · rw [if_neg e]
    by_cases h : j < i
    · rw [if_pos (show j < i + 1 by omega), if_pos h]
    · rw [if_neg (show ¬ j < i + 1 by omega), if_neg h]
theorem cDT_upd {ls ps ds : List Int} {s i : Nat} (hs : (s : Int) % nth ps i = 0) : cDT ls ps ds s (i + 1) = upd (cDT ls ps ds s i) i ((s : Int) + nth ds i) := by
  funext j; unfold cDT comeD upd; dsimp only
  by_cases e : j = i
  · subst e; rw [if_pos (by omega), if_pos hs, if_pos rfl]
  · rw [if_neg e]
    by_cases h : j < i
    · rw [if_pos (show j < i + 1 by omega), if_pos h]
    · rw [if_neg (show ¬ j < i + 1 by omega), if_neg h]
/-- a task that comes is put behind, then the heap is mended -/
theorem QCome.push {ls ps ds : List Int} {qs qs0 qs' : List Pend} {s i : Nat} (hP : JobsP ls ps ds) (h : QCome ls ps ds qs s i) (h0 : QAt ls ps ds qs0 s) (hlate : edLate ls ps ds s = -1) (hi : i < ls.length) (hs : (s : Int) % nth ps i = 0)
    (hm : Mend (qs ++ [⟨(i : Int), (s : Int) + nth ds i, nth ls i⟩]) qs' (qs.length + 1)) : QCome ls ps ds qs' s (i + 1) := by
  have hl := hm.len
  rw [List.length_append, List.length_singleton] at hl
  have hno : ¬ 0 < cLT ls ps ds s i i := by
    have e : cLT ls ps ds s i i = (edS ls ps ds s).1 i := by unfold cLT; rw [if_neg (by omega)]
    rw [e]
    refine h0.due.come (fun j hj hl2 e2 => ?_) hi (hP.p i hi).1 hs
    have hz := lateTo_spec (edS ls ps ds s).1 (edS ls ps ds s).2 (s : Int) ls.length
    unfold edLate at hlate
    rw [hlate] at hz
    rcases hz with ⟨_, hz⟩ | ⟨i2, _, hz, _⟩
    · exact hz j hj ⟨hl2, e2⟩
    · omega
  refine ⟨by rw [hl]; exact hm.heap, ?_⟩
  rw [hl, cLT_upd hs, cDT_upd hs]
  refine hm.bag _ _ _ (h.bag.push hi hno (by have := (hP.l i hi).1; omega) (fun j hj => pat_app hj) pat_last)
/-- all have come -/
structure QAll (ls ps ds : List Int) (qs : List Pend) (s : Nat) : Prop where
  heap : IsHeap ahead (pat qs) qs.length
  bag : Bag (pat qs) qs.length (comeL (nth ps) (nth ls) (edS ls ps ds s).1 (s : Int)) (comeD (nth ps) (nth ds) (edS ls ps ds s).2 (s : Int)) ls.length
theorem QCome.all {ls ps ds : List Int} {qs : List Pend} {s : Nat} (h : QCome ls ps ds qs s ls.length) : QAll ls ps ds qs s := by
  refine ⟨h.heap, fun x => ⟨fun hx => ?_, fun hx => ?_⟩, h.bag.once⟩
  · obtain ⟨i, hi, e, hl⟩ := (h.bag.mem x).1 hx
    unfold cLT at hl e
    unfold cDT at e
    rw [if_pos hi] at hl e
    rw [if_pos hi] at e
    exact ⟨i, hi, e, hl⟩
  · obtain ⟨i, hi, e, hl⟩ := hx
    refine (h.bag.mem x).2 ⟨i, hi, ?_, ?_⟩
    · unfold cLT cDT; rw [if_pos hi, if_pos hi]; exact e
    · unfold cLT; rw [if_pos hi]; exact hl
/-- a next slot's state -/
theorem QAt.of {ls ps ds : List Int} {qs qs0 : List Pend} {s : Nat} (hP : JobsP ls ps ds) (h0 : QAt ls ps ds qs0 s) (hlate : edLate ls ps ds s = -1) (hh : IsHeap ahead (pat qs) qs.length) (hb : Bag (pat qs) qs.length (edS ls ps ds (s + 1)).1 (edS ls ps ds (s + 1)).2 ls.length) : QAt ls ps ds qs (s + 1) := by
  refine ⟨hh, hb, ?_⟩
  rw [Int.natCast_add]
  refine h0.due.next (l := nth ls) (fun i hi hl e => ?_) (fun i hi => ⟨(hP.p i hi).1, (hP.d i hi).1, (hP.d i hi).2⟩) fun i hi hl => ?_
  · have hz := lateTo_spec (edS ls ps ds s).1 (edS ls ps ds s).2 (s : Int) ls.length
    unfold edLate at hlate
    rw [hlate] at hz
    rcases hz with ⟨_, hz⟩ | ⟨i2, _, hz, _⟩
    · exact hz i hi ⟨hl, e⟩
    · omega
  · simp only [edS] at hl
    split at hl
    · exact hl
    · unfold upd at hl
      split at hl
      · rename_i e; subst e; omega
      · exact hl
/-- nobody waits: the slot is idle -/
theorem QAll.idle {ls ps ds : List Int} {qs : List Pend} {s : Nat} (h : QAll ls ps ds qs s) (h0 : qs.length = 0) : edB ls ps ds s = -1 := by
  have hb := h.bag
  rw [h0] at hb
  exact hb.idle
theorem QAll.idleNext {ls ps ds : List Int} {qs qs0 : List Pend} {s : Nat} (hP : JobsP ls ps ds) (hq : QAt ls ps ds qs0 s) (hlate : edLate ls ps ds s = -1) (h : QAll ls ps ds qs s) (h0 : qs.length = 0) : QAt ls ps ds qs (s + 1) := by
  have hb := h.idle h0
  refine hq.of hP hlate h.heap ?_
  have e : edS ls ps ds (s + 1) = (comeL (nth ps) (nth ls) (edS ls ps ds s).1 (s : Int), comeD (nth ps) (nth ds) (edS ls ps ds s).2 (s : Int)) := by
    unfold edB at hb
    simp only [edS, hb]
    rfl
  rw [e]; exact h.bag
/-- the first of the queue has the slot -/
theorem QAll.first {ls ps ds : List Int} {qs : List Pend} {s : Nat} (h : QAll ls ps ds qs s) (h0 : 0 < qs.length) : ∃ i : Nat, i < ls.length ∧ edB ls ps ds s = i ∧ (pat qs 0).task = i ∧ 0 < (pat qs 0).left ∧
    pat qs 0 = ⟨i, comeD (nth ps) (nth ds) (edS ls ps ds s).2 (s : Int) i, comeL (nth ps) (nth ls) (edS ls ps ds s).1 (s : Int) i⟩ ∧
    edS ls ps ds (s + 1) = (upd (comeL (nth ps) (nth ls) (edS ls ps ds s).1 (s : Int)) i ((pat qs 0).left - 1), comeD (nth ps) (nth ds) (edS ls ps ds s).2 (s : Int)) := by
  obtain ⟨i, hi, e, hl, hb⟩ := h.bag.best h.heap h0
  refine ⟨i, hi, hb, by rw [e], by rw [e]; exact hl, e, ?_⟩
  simp only [edS, hb]
  rw [if_neg (by omega), e]
  simp
/-- .. and keeps some -/
theorem QAll.give {ls ps ds : List Int} {qs qs0 : List Pend} {s : Nat} (hP : JobsP ls ps ds) (hq : QAt ls ps ds qs0 s) (hlate : edLate ls ps ds s = -1) (h : QAll ls ps ds qs s) (h0 : 0 < qs.length) (hl : (pat qs 0).left - 1 ≠ 0) :
    QAt ls ps ds (qs.set 0 ⟨(pat qs 0).task, (pat qs 0).due, (pat qs 0).left - 1⟩) (s + 1) := by
  obtain ⟨i, hi, hb, ht, hp, e, he⟩ := h.first h0
  have hs : ∀ j, pat (qs.set 0 ⟨(pat qs 0).task, (pat qs 0).due, (pat qs 0).left - 1⟩) j = if j = 0 then ⟨(pat qs 0).task, (pat qs 0).due, (pat qs 0).left - 1⟩ else pat qs j := fun j => pat_set h0
  refine hq.of hP hlate ?_ ?_
  · rw [List.length_set]
    refine h.heap.congr fun j hj => ?_
    rw [hs]
    split
    · rename_i e2; subst e2; exact ⟨rfl, rfl⟩
    · exact ⟨rfl, rfl⟩
  · rw [List.length_set, he]
    refine h.bag.give h0 e (show 0 < (pat qs 0).left - 1 by omega) hi (fun j j0 hj => by rw [hs, if_neg (by omega)]) ?_
    rw [hs, if_pos rfl, e]
/-- .. and goes -/
theorem QAll.pop {ls ps ds : List Int} {qs qs0 qs' : List Pend} {s n : Nat} (hP : JobsP ls ps ds) (hq : QAt ls ps ds qs0 s) (hlate : edLate ls ps ds s = -1) (h : QAll ls ps ds qs s) (h0 : qs.length = n + 1) (hl : (pat qs 0).left - 1 = 0)
    (hm : Mend (swpL (qs.set 0 ⟨(pat qs 0).task, (pat qs 0).due, (pat qs 0).left - 1⟩) 0 n) qs' n) : QAt ls ps ds (qs'.take n) (s + 1) := by
  obtain ⟨i, hi, hb, ht, hp, e, he⟩ := h.first (by omega)
  have hlen : (qs'.take n).length = n := by have := hm.len; rw [swpL_length, List.length_set] at this; simp; omega
  refine hq.of hP hlate ?_ ?_
  · rw [hlen]; exact hm.heap.congr fun j hj => by rw [pat_take hj]; exact ⟨rfl, rfl⟩
  · rw [hlen, he, hl]
    refine (hm.bag _ _ _ ?_).congr fun j hj => pat_take hj
    have hbag := h.bag
    rw [h0] at hbag
    have h1 := hbag.swp (i := 0) (j := n) (by omega) (by omega)
    refine (h1.drop (g := swp (pat qs) 0 n) (c := i) ?_ fun _ _ => rfl).congr fun j hj => ?_
    · rw [swp_r]; exact e
    · rw [pat_swpL (by rw [List.length_set]; omega) (by rw [List.length_set]; omega)]
      unfold swp
      have hs : ∀ j, pat (qs.set 0 ⟨(pat qs 0).task, (pat qs 0).due, (pat qs 0).left - 1⟩) j = if j = 0 then ⟨(pat qs 0).task, (pat qs 0).due, (pat qs 0).left - 1⟩ else pat qs j := fun j => pat_set (by omega)
      by_cases ej : j = 0
      · subst ej
        rw [if_pos rfl, if_pos rfl, hs, if_neg (by omega)]
      · rw [if_neg ej, if_neg ej, if_neg (by omega), if_neg (by omega), hs, if_neg ej]
/-- the start of the repair behind a swap -/
theorem QAll.down {ls ps ds : List Int} {qs : List Pend} {s n : Nat} (h : QAll ls ps ds qs s) (h0 : qs.length = n + 1) (x : Int) :
    HDown ahead (pat (swpL (qs.set 0 ⟨(pat qs 0).task, (pat qs 0).due, x⟩) 0 n)) n 0 := by
  have hh : IsHeap ahead (pat (qs.set 0 ⟨(pat qs 0).task, (pat qs 0).due, x⟩)) (n + 1) := by
    rw [← h0]
    refine h.heap.congr fun j hj => ?_
    rw [pat_set (by omega)]
    split
    · rename_i e2; subst e2; exact ⟨rfl, rfl⟩
    · exact ⟨rfl, rfl⟩
  rw [pat_swpL (by rw [List.length_set]; omega) (by rw [List.length_set]; omega)]
  exact HDown.start hh

end Go.Proofs.Ytbhpflhopajbfaa
