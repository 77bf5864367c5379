/-
  States of waiting, lasting states, the search that remembers, numbers of states, least plays, shortest rounds: the mathematics, apart from any program.
  Conditions: none but those of each line.
-/
import Derived.Test.YtgndbifcncklgaaBase
namespace Go.Proofs.Ytgndbifcncklgaa

/-! ### states and steps -/
/-- a state of the tasks with the gaps gs -/
def IsSt (gs st : List Int) : Prop := st.length = gs.length ∧ ∀ i, i < gs.length → 1 ≤ nth st i ∧ nth st i ≤ nth gs i
/-- a slot for the choice c is open -/
def Opn (st : List Int) (c : Int) : Prop := ∀ i : Nat, i < st.length → (i : Int) ≠ c → nth st i ≠ 1
/-- the state behind it -/
def stepL (gs st : List Int) (c : Int) : List Int := (List.range st.length).map fun i : Nat => if (i : Int) = c then nth gs i else nth st i - 1
theorem stepL_length (gs st : List Int) (c : Int) : (stepL gs st c).length = st.length := by simp [stepL]
theorem nth_stepL {gs st : List Int} {c : Int} {i : Nat} (h : i < st.length) : nth (stepL gs st c) i = if (i : Int) = c then nth gs i else nth st i - 1 := by
  simp [nth, stepL, h]
theorem IsSt.step {gs st : List Int} {c : Int} (h : IsSt gs st) (ho : Opn st c) : IsSt gs (stepL gs st c) := by
  refine ⟨by rw [stepL_length, h.1], fun i hi => ?_⟩
  have h1 := h.2 i hi
  have hi' : i < st.length := by rw [h.1]; exact hi
  rw [nth_stepL hi']
  split
  · omega
  · rename_i hc
    have := ho i hi' hc
    omega
/-- c is a choice among k tasks -/
def IsCh (k : Nat) (c : Int) : Prop := -1 ≤ c ∧ c < k
/-- a state is lasting: open slots can be chosen for ever -/
def Lasting (gs st : List Int) : Prop := ∃ S : List Int → Prop, S st ∧ ∀ x, S x → ∃ c, IsCh gs.length c ∧ Opn x c ∧ S (stepL gs x c)
theorem lasting_step {gs st : List Int} (h : Lasting gs st) : ∃ c, IsCh gs.length c ∧ Opn st c ∧ Lasting gs (stepL gs st c) := by
  obtain ⟨S, h0, hS⟩ := h
  obtain ⟨c, hc, ho, hs⟩ := hS _ h0
  exact ⟨c, hc, ho, S, hs, hS⟩
theorem lasting_of {gs st : List Int} (S : List Int → Prop) (h0 : S st) (hS : ∀ x, S x → ∃ c, IsCh gs.length c ∧ Opn x c ∧ (S (stepL gs x c) ∨ Lasting gs (stepL gs x c))) : Lasting gs st := by
  refine ⟨fun x => S x ∨ Lasting gs x, .inl h0, fun x hx => ?_⟩
  rcases hx with hx | hx
  · exact hS x hx
  · obtain ⟨c, hc, ho, hl⟩ := lasting_step hx
    exact ⟨c, hc, ho, .inr hl⟩
/-- c keeps a lasting state -/
def Kpc (gs st : List Int) (c : Int) : Prop := Opn st c ∧ Lasting gs (stepL gs st c)
open Classical in
/-- the choices that keep a state, ascending, among those from -1 to n - 2 -/
noncomputable def keepN (gs st : List Int) (n : Nat) : List Int := ((List.range n).map fun j : Nat => (j : Int) - 1).filter fun c => decide (Kpc gs st c)
noncomputable def keepL (gs st : List Int) : List Int := keepN gs st (gs.length + 1)
theorem keepN_succ (gs st : List Int) (n : Nat) : keepN gs st (n + 1) = keepN gs st n ++ (open Classical in if Kpc gs st ((n : Int) - 1) then [(n : Int) - 1] else []) := by
  unfold keepN
  rw [List.range_succ, List.map_append, List.filter_append]
  congr 1
  by_cases h : Kpc gs st ((n : Int) - 1) <;> simp [h]
theorem mem_keepL {gs st : List Int} {c : Int} : c ∈ keepL gs st ↔ IsCh gs.length c ∧ Kpc gs st c := by
  unfold keepL keepN IsCh
  simp only [List.mem_filter, List.mem_map, List.mem_range, decide_eq_true_eq]
  constructor
  · rintro ⟨⟨j, hj, rfl⟩, h⟩
    exact ⟨by omega, h⟩
  · rintro ⟨⟨h1, h2⟩, h⟩
    exact ⟨⟨(c + 1).toNat, by omega, by omega⟩, h⟩
theorem lasting_iff_keep {gs st : List Int} : Lasting gs st ↔ keepL gs st ≠ [] := by
  constructor
  · intro h
    obtain ⟨c, hc, ho, hl⟩ := lasting_step h
    exact List.ne_nil_of_mem (mem_keepL.2 ⟨hc, ho, hl⟩)
  · intro h
    obtain ⟨c, hcm⟩ := List.exists_mem_of_ne_nil _ h
    obtain ⟨hc, ho, hl⟩ := mem_keepL.1 hcm
    exact ⟨fun x => x = st ∨ Lasting gs x, .inl rfl, fun x hx => by
      rcases hx with rfl | hx
      · exact ⟨_, hc, ho, .inr hl⟩
      · obtain ⟨c, hc, ho, hl⟩ := lasting_step hx
        exact ⟨c, hc, ho, .inr hl⟩⟩

/-! ### the search that remembers -/
/-- what is known of states -/
abbrev Known := List Int → Option Bool
/-- nothing is known falsely to be no lasting state; and only states are known -/
structure KOk (gs : List Int) (K : Known) : Prop where
  st : ∀ x, K x ≠ none → IsSt gs x
  no : ∀ x, K x = some false → ¬ Lasting gs x
/-- all that passes for lasting is -/
structure KGood (gs : List Int) (K : Known) : Prop extends KOk gs K where
  yes : ∀ x, K x = some true → Lasting gs x
/-- what a search adds -/
structure KExt (gs : List Int) (K K' : Known) : Prop where
  old : ∀ x, K x ≠ none → K' x = K x
  new : ∀ x, K' x = some true → K x = some true ∨ ∃ c, IsCh gs.length c ∧ Opn x c ∧ K' (stepL gs x c) = some true
theorem KExt.refl (gs : List Int) (K : Known) : KExt gs K K := ⟨fun _ _ => rfl, fun _ h => .inl h⟩
/-- the search of st: what it adds, and its answer -/
structure KDone (gs : List Int) (K : Known) (st : List Int) (r : Bool) (K' : Known) : Prop where
  ext : KExt gs K K'
  ok : KOk gs K'
  at_ : K' st = some r
  no : r = false → ∀ x, K' x = some true → K x = some true
theorem KGood.done {gs : List Int} {K K' : Known} {st : List Int} {r : Bool} (h : KGood gs K) (hd : KDone gs K st r K') : KGood gs K' ∧ (r = true ↔ Lasting gs st) := by
  have hy : ∀ x, K' x = some true → Lasting gs x := fun x hx => by
    refine lasting_of (fun y => K' y = some true) hx fun y hyy => ?_
    rcases hd.ext.new y hyy with h1 | ⟨c, hc, ho, h2⟩
    · obtain ⟨c, hc, ho, hl⟩ := lasting_step (h.yes y h1)
      exact ⟨c, hc, ho, .inr hl⟩
    · exact ⟨c, hc, ho, .inl h2⟩
  refine ⟨{ hd.ok with yes := hy }, fun e => hy st (e ▸ hd.at_), fun hl => ?_⟩
  cases r with
  | true => rfl
  | false => exact absurd hl (hd.ok.no st hd.at_)
/-- a place of a map is put -/
def kput (K : Known) (st : List Int) (r : Bool) : Known := fun x => if x = st then some r else K x
theorem kput_same (K : Known) (st : List Int) (r : Bool) : kput K st r st = some r := by simp [kput]
theorem kput_other {K : Known} {st x : List Int} {r : Bool} (h : x ≠ st) : kput K st r x = K x := by simp [kput, h]
/-- while the choices of st are looked at, before the choice n - 1: nothing was found -/
structure KLook (gs : List Int) (K : Known) (st : List Int) (n : Nat) (K' : Known) : Prop where
  old : ∀ x, K x ≠ none → K' x = K x
  ok : KOk gs K'
  at_ : K' st = some true
  yes : ∀ x, K' x = some true → x = st ∨ K x = some true
  past : ∀ j : Nat, j < n → Opn st ((j : Int) - 1) → K' (stepL gs st ((j : Int) - 1)) = some false
theorem KLook.start {gs : List Int} {K : Known} {st : List Int} (hK : KOk gs K) (hs : IsSt gs st) (h0 : K st = none) : KLook gs K st 0 (kput K st true) where
  old x hx := kput_other (fun e => hx (e ▸ h0))
  ok := { st := fun x hx => by
            by_cases h : x = st
            · exact h ▸ hs
            · rw [kput_other h] at hx; exact hK.st x hx
          no := fun x hx => by
            by_cases h : x = st
            · subst h; rw [kput_same] at hx; cases hx
            · rw [kput_other h] at hx; exact hK.no x hx }
  at_ := kput_same _ _ _
  yes x hx := by
    by_cases h : x = st
    · exact .inl h
    · rw [kput_other h] at hx; exact .inr hx
  past j hj := absurd hj (Nat.not_lt_zero _)
/-- .. the slot is not open -/
theorem KLook.skip {gs : List Int} {K K' : Known} {st : List Int} {n : Nat} (h : KLook gs K st n K') (ho : ¬ Opn st ((n : Int) - 1)) : KLook gs K st (n + 1) K' :=
  { h with
    past := fun j hj hoj => by
      rcases Nat.lt_succ_iff_lt_or_eq.1 hj with h1 | h1
      · exact h.past j h1 hoj
      · subst h1; exact absurd hoj ho }
/-- .. the state behind it is not lasting -/
theorem KLook.next {gs : List Int} {K K' K'' : Known} {st : List Int} {n : Nat} (h : KLook gs K st n K') (hd : KDone gs K' (stepL gs st ((n : Int) - 1)) false K'') : KLook gs K st (n + 1) K'' where
  old x hx := by rw [hd.ext.old x (by rw [h.old x hx]; exact hx), h.old x hx]
  ok := hd.ok
  at_ := by rw [hd.ext.old st (by rw [h.at_]; simp), h.at_]
  yes x hx := h.yes x (hd.no rfl x hx)
  past j hj hoj := by
    rcases Nat.lt_succ_iff_lt_or_eq.1 hj with h1 | rfl
    · rw [hd.ext.old _ (by rw [h.past j h1 hoj]; simp), h.past j h1 hoj]
    · exact hd.at_
/-- .. a choice is found -/
theorem KLook.found {gs : List Int} {K K' K'' : Known} {st : List Int} {n : Nat} (h : KLook gs K st n K') (h0 : K st = none) (hn : n < gs.length + 1) (ho : Opn st ((n : Int) - 1))
    (hd : KDone gs K' (stepL gs st ((n : Int) - 1)) true K'') : KDone gs K st true K'' where
  ext := { old := fun x hx => by rw [hd.ext.old x (by rw [h.old x hx]; exact hx), h.old x hx]
           new := fun x hx => by
             rcases hd.ext.new x hx with h1 | h1
             · rcases h.yes x h1 with rfl | h2
               · exact .inr ⟨(n : Int) - 1, ⟨by omega, by omega⟩, ho, hd.at_⟩
               · exact .inl h2
             · exact .inr h1 }
  ok := hd.ok
  at_ := by rw [hd.ext.old st (by rw [h.at_]; simp), h.at_]
  no e := by cases e
/-- .. none is -/
theorem KLook.all_ {gs : List Int} {K K' : Known} {st : List Int} (h : KLook gs K st (gs.length + 1) K') (h0 : K st = none) (hs : IsSt gs st) : KDone gs K st false (kput K' st false) where
  ext := { old := fun x hx => by rw [kput_other (by rintro rfl; exact hx h0), h.old x hx]
           new := fun x hx => by
             by_cases e : x = st
             · subst e; rw [kput_same] at hx; cases hx
             · rw [kput_other e] at hx
               exact .inl ((h.yes x hx).resolve_left e) }
  ok := { st := fun x hx => by
            by_cases e : x = st
            · exact e ▸ hs
            · rw [kput_other e] at hx; exact h.ok.st x hx
          no := fun x hx => by
            by_cases e : x = st
            · subst e
              intro hl
              obtain ⟨c, ⟨hc1, hc2⟩, ho, hl'⟩ := lasting_step hl
              have hc : (((c + 1).toNat : Nat) : Int) - 1 = c := by omega
              have := h.past (c + 1).toNat (by omega) (by rw [hc]; exact ho)
              rw [hc] at this
              exact h.ok.no _ this hl'
            · rw [kput_other e] at hx; exact h.ok.no x hx }
  at_ := kput_same _ _ _
  no _ x hx := by
    by_cases e : x = st
    · subst e; rw [kput_same] at hx; cases hx
    · rw [kput_other e] at hx
      exact (h.yes x hx).resolve_left e
/-- what is known already -/
theorem KDone.known {gs : List Int} {K : Known} {st : List Int} {r : Bool} (hK : KOk gs K) (h : K st = some r) : KDone gs K st r K := ⟨.refl _ _, hK, h, fun _ _ hx => hx⟩

/-! ### how many are unknown -/
/-- all states -/
def allSt : List Int → List (List Int)
  | [] => [[]]
  | g :: gs => (List.range g.toNat).flatMap fun j : Nat => (allSt gs).map fun st => ((j : Int) + 1) :: st
theorem mem_allSt {gs st : List Int} (h : IsSt gs st) : st ∈ allSt gs := by
  induction gs generalizing st with
  | nil =>
    have : st = [] := List.length_eq_zero_iff.1 h.1
    simp [allSt, this]
  | cons g gs ih =>
    obtain ⟨hl, hi⟩ := h
    cases st with
    | nil => simp at hl
    | cons s st =>
      have h0 := hi 0 (by simp)
      simp only [nth, List.getElem?_cons_zero, Option.getD_some] at h0
      simp only [allSt, List.mem_flatMap, List.mem_range, List.mem_map]
      refine ⟨(s - 1).toNat, by omega, st, ih ⟨by simpa using hl, fun i hi' => ?_⟩, by congr 1; omega⟩
      have := hi (i + 1) (by simp; omega)
      simpa [nth] using this
open Classical in
/-- how many states are not known -/
noncomputable def unk (gs : List Int) (K : Known) : Nat := (allSt gs).countP fun x => decide (K x = none)
theorem countP_lt {α : Type} {p q : α → Bool} {l : List α} (hpq : ∀ x ∈ l, p x = true → q x = true) {a : α} (ha : a ∈ l) (h1 : q a = true) (h2 : p a = false) : l.countP p < l.countP q := by
  induction l with
  | nil => cases ha
  | cons b l ih =>
    have hle : l.countP p ≤ l.countP q := List.countP_mono_left fun x hx => hpq x (by simp [hx])
    simp only [List.countP_cons]
    have hb := hpq b (by simp)
    rcases List.mem_cons.1 ha with rfl | ha
    · simp [h1, h2]; omega
    · have := ih (fun x hx => hpq x (by simp [hx])) ha
      by_cases hp : p b = true
      · simp [hp, hb hp]; omega
      · simp [hp]; split <;> omega
theorem unk_put {gs : List Int} {K : Known} {st : List Int} {r : Bool} (hs : IsSt gs st) (h0 : K st = none) : unk gs (kput K st r) < unk gs K := by
  unfold unk
  refine countP_lt (fun x _ hx => ?_) (mem_allSt hs) (by simp [h0]) (by simp [kput])
  simp only [decide_eq_true_eq] at hx ⊢
  by_cases e : x = st
  · subst e; exact h0
  · rwa [kput_other e] at hx
theorem unk_le {gs : List Int} {K K' : Known} (h : ∀ x, K x ≠ none → K' x = K x) : unk gs K' ≤ unk gs K := by
  unfold unk
  refine List.countP_mono_left fun x _ hx => ?_
  simp only [decide_eq_true_eq] at hx ⊢
  by_cases e : K x = none
  · exact e
  · exact absurd ((h x e).symm.trans hx) e

/-! ### the numbers of states -/
/-- how many states the first k tasks have; their number in a state -/
def cntP (gs : List Int) : Nat → Int
  | 0 => 1
  | k + 1 => cntP gs k * nth gs k
def numP (gs st : List Int) : Nat → Int
  | 0 => 0
  | k + 1 => numP gs st k * nth gs k + nth st k - 1
def cntL (gs : List Int) : Int := cntP gs gs.length
def numL (gs st : List Int) : Int := numP gs st st.length
/-- what is left of a number behind the tasks k .. -/
def restN (gs : List Int) (n : Int) : Nat → Int
  | 0 => n
  | j + 1 => restN gs n j / nth gs (gs.length - (j + 1))
def ofL (gs : List Int) (n : Int) : List Int := (List.range gs.length).map fun i : Nat => restN gs n (gs.length - (i + 1)) % nth gs i + 1
theorem ofL_length (gs : List Int) (n : Int) : (ofL gs n).length = gs.length := by simp [ofL]
theorem nth_ofL {gs : List Int} {n : Int} {i : Nat} (h : i < gs.length) : nth (ofL gs n) i = restN gs n (gs.length - (i + 1)) % nth gs i + 1 := by simp [nth, ofL, h]
theorem restN_at {gs : List Int} {n : Int} {i : Nat} (h : i < gs.length) : restN gs n (gs.length - i) = restN gs n (gs.length - (i + 1)) / nth gs i := by
  rw [show gs.length - i = (gs.length - (i + 1)) + 1 by omega]
  show restN gs n (gs.length - (i + 1)) / nth gs (gs.length - (gs.length - (i + 1) + 1)) = _
  rw [show gs.length - (gs.length - (i + 1) + 1) = i by omega]
/-- gaps of tasks: each at least 1 -/
def Pos (gs : List Int) : Prop := ∀ i, i < gs.length → 1 ≤ nth gs i
theorem cntP_pos {gs : List Int} (h : Pos gs) {k : Nat} (hk : k ≤ gs.length) : 1 ≤ cntP gs k := by
  induction k with
  | zero => simp [cntP]
  | succ k ih =>
    have h1 := ih (by omega)
    have h2 := h k (by omega)
    have := Int.mul_le_mul h1 h2 (by omega) (by omega)
    simpa [cntP] using this
theorem numP_bd {gs st : List Int} (h : IsSt gs st) {k : Nat} (hk : k ≤ gs.length) : 0 ≤ numP gs st k ∧ numP gs st k < cntP gs k := by
  induction k with
  | zero => simp [numP, cntP]
  | succ k ih =>
    obtain ⟨h1, h2⟩ := ih (by omega)
    obtain ⟨h3, h4⟩ := h.2 k (by omega)
    simp only [numP, cntP]
    have h5 : 0 ≤ numP gs st k * nth gs k := Int.mul_nonneg h1 (by omega)
    have h6 : (numP gs st k + 1) * nth gs k ≤ cntP gs k * nth gs k := Int.mul_le_mul_of_nonneg_right (by omega) (by omega)
    rw [Int.add_mul] at h6
    omega
theorem restN_numP {gs st : List Int} (h : IsSt gs st) {j : Nat} (hj : j ≤ gs.length) : restN gs (numL gs st) j = numP gs st (gs.length - j) := by
  induction j with
  | zero => simp [restN, numL, h.1]
  | succ j ih =>
    have h1 := ih (by omega)
    obtain ⟨h3, h4⟩ := h.2 (gs.length - (j + 1)) (by omega)
    show restN gs (numL gs st) j / nth gs (gs.length - (j + 1)) = _
    rw [h1, show gs.length - j = (gs.length - (j + 1)) + 1 by omega]
    simp only [numP]
    have e : numP gs st (gs.length - (j + 1)) * nth gs (gs.length - (j + 1)) + nth st (gs.length - (j + 1)) - 1 = (nth st (gs.length - (j + 1)) - 1) + numP gs st (gs.length - (j + 1)) * nth gs (gs.length - (j + 1)) := by omega
    rw [e, Int.add_mul_ediv_right _ _ (by omega), Int.ediv_eq_zero_of_lt (by omega) (by omega)]
    omega
theorem ofL_numL {gs st : List Int} (h : IsSt gs st) : ofL gs (numL gs st) = st := by
  refine ext_nth (by rw [ofL_length, h.1]) fun i hi => ?_
  rw [ofL_length] at hi
  obtain ⟨h3, h4⟩ := h.2 i hi
  rw [nth_ofL hi, restN_numP h (by omega), show gs.length - (gs.length - (i + 1)) = i + 1 by omega]
  simp only [numP]
  have e : numP gs st i * nth gs i + nth st i - 1 = (nth st i - 1) + numP gs st i * nth gs i := by omega
  rw [e, Int.add_mul_emod_self_right, Int.emod_eq_of_lt (by omega) (by omega)]
  omega
theorem isSt_ofL {gs : List Int} (h : Pos gs) (n : Int) : IsSt gs (ofL gs n) := by
  refine ⟨ofL_length _ _, fun i hi => ?_⟩
  have h1 := h i hi
  rw [nth_ofL hi]
  have h2 := Int.emod_nonneg (restN gs n (gs.length - (i + 1))) (b := nth gs i) (by omega)
  have h3 := Int.emod_lt_of_pos (restN gs n (gs.length - (i + 1))) (b := nth gs i) (by omega)
  omega
theorem restN_bd {gs : List Int} (h : Pos gs) {n : Int} (h0 : 0 ≤ n) (hn : n < cntL gs) {j : Nat} (hj : j ≤ gs.length) : 0 ≤ restN gs n j ∧ restN gs n j < cntP gs (gs.length - j) := by
  induction j with
  | zero => exact ⟨h0, by simpa [restN, cntL] using hn⟩
  | succ j ih =>
    obtain ⟨h1, h2⟩ := ih (by omega)
    have h3 := h (gs.length - (j + 1)) (by omega)
    show 0 ≤ restN gs n j / nth gs (gs.length - (j + 1)) ∧ restN gs n j / nth gs (gs.length - (j + 1)) < _
    rw [show gs.length - j = (gs.length - (j + 1)) + 1 by omega] at h2
    simp only [cntP] at h2
    exact ⟨Int.ediv_nonneg h1 (by omega), Int.ediv_lt_of_lt_mul (by omega) h2⟩
theorem numP_ofL {gs : List Int} (h : Pos gs) {n : Int} (h0 : 0 ≤ n) (hn : n < cntL gs) {k : Nat} (hk : k ≤ gs.length) : numP gs (ofL gs n) k = restN gs n (gs.length - k) := by
  induction k with
  | zero =>
    have := restN_bd h h0 hn (j := gs.length) (Nat.le_refl _)
    simp only [Nat.sub_self, cntP] at this
    simp only [numP, Nat.sub_zero]
    omega
  | succ k ih =>
    have h1 := ih (by omega)
    simp only [numP]
    rw [h1, nth_ofL (by omega), restN_at (by omega)]
    have := Int.mul_ediv_add_emod (restN gs n (gs.length - (k + 1))) (nth gs k)
    rw [Int.mul_comm] at this
    omega
theorem numL_ofL {gs : List Int} (h : Pos gs) {n : Int} (h0 : 0 ≤ n) (hn : n < cntL gs) : numL gs (ofL gs n) = n := by
  unfold numL
  rw [ofL_length, numP_ofL h h0 hn (Nat.le_refl _), Nat.sub_self]
  rfl
theorem numL_bd {gs st : List Int} (h : IsSt gs st) : 0 ≤ numL gs st ∧ numL gs st < cntL gs := by
  have := numP_bd h (Nat.le_refl gs.length)
  unfold numL cntL
  rw [h.1]; exact this
theorem isSt_full {gs : List Int} (h : Pos gs) : IsSt gs gs := ⟨rfl, fun i hi => ⟨h i hi, by omega⟩⟩
theorem numP_full {gs : List Int} (k : Nat) : numP gs gs k = cntP gs k - 1 := by
  induction k with
  | zero => simp [numP, cntP]
  | succ k ih => simp only [numP, cntP]; rw [ih, Int.sub_mul]; omega
theorem numL_full {gs : List Int} : numL gs gs = cntL gs - 1 := numP_full _
/-! ### all states in the program's order -/
/-- the states that come before the j-th one are j: the first task's number turns fastest -/
def ofR : List Int → Nat → List Int
  | [], _ => []
  | g :: gs, j => (((j % g.toNat : Nat) : Int) + 1) :: ofR gs (j / g.toNat)
/-- how many states there are -/
def cntN : List Int → Nat
  | [] => 1
  | g :: gs => g.toNat * cntN gs
theorem ofR_length (gs : List Int) (j : Nat) : (ofR gs j).length = gs.length := by
  induction gs generalizing j with
  | nil => rfl
  | cons g gs ih => simp [ofR, ih]
theorem nth_cons_zero (x : Int) (xs : List Int) : nth (x :: xs) 0 = x := rfl
theorem nth_cons_succ (x : Int) (xs : List Int) (i : Nat) : nth (x :: xs) (i + 1) = nth xs i := by simp [nth]
theorem Pos.tail {g : Int} {gs : List Int} (h : Pos (g :: gs)) : 1 ≤ g ∧ Pos gs := by
  refine ⟨h 0 (by simp), fun i hi => ?_⟩
  have := h (i + 1) (by simp; omega)
  rwa [nth_cons_succ] at this
theorem isSt_cons {g s : Int} {gs st : List Int} : IsSt (g :: gs) (s :: st) ↔ (1 ≤ s ∧ s ≤ g) ∧ IsSt gs st := by
  constructor
  · rintro ⟨hl, h⟩
    refine ⟨h 0 (by simp), by simpa using hl, fun i hi => ?_⟩
    have := h (i + 1) (by simp; omega)
    rwa [nth_cons_succ, nth_cons_succ] at this
  · rintro ⟨h0, hl, h⟩
    refine ⟨by simp [hl], fun i hi => ?_⟩
    cases i with
    | zero => exact h0
    | succ i => rw [nth_cons_succ, nth_cons_succ]; exact h i (by simpa using hi)
theorem isSt_ofR {gs : List Int} (h : Pos gs) (j : Nat) : IsSt gs (ofR gs j) := by
  induction gs generalizing j with
  | nil => exact ⟨rfl, fun i hi => absurd hi (by simp)⟩
  | cons g gs ih =>
    obtain ⟨h1, h2⟩ := h.tail
    have := Nat.mod_lt j (y := g.toNat) (by omega)
    exact isSt_cons.2 ⟨by omega, ih h2 _⟩
/-- the number of a state in this order -/
def numR : List Int → List Int → Nat
  | g :: gs, s :: st => (s - 1).toNat + g.toNat * numR gs st
  | _, _ => 0
theorem ofR_numR {gs st : List Int} (h : IsSt gs st) : ofR gs (numR gs st) = st := by
  induction gs generalizing st with
  | nil => have := List.length_eq_zero_iff.1 h.1; subst this; rfl
  | cons g gs ih =>
    cases st with
    | nil => simp [IsSt] at h
    | cons s st =>
      obtain ⟨h0, h1⟩ := isSt_cons.1 h
      simp only [numR, ofR]
      rw [Nat.add_mul_mod_self_left, Nat.mod_eq_of_lt (by omega), Nat.add_mul_div_left _ _ (by omega), Nat.div_eq_of_lt (by omega), Nat.zero_add, ih h1]
      congr 1
      omega
theorem numR_ofR {gs : List Int} (h : Pos gs) {j : Nat} (hj : j < cntN gs) : numR gs (ofR gs j) = j := by
  induction gs generalizing j with
  | nil => simp [cntN] at hj; subst hj; rfl
  | cons g gs ih =>
    obtain ⟨h1, h2⟩ := h.tail
    simp only [cntN] at hj
    have h3 := Nat.div_lt_of_lt_mul hj
    simp only [numR, ofR]
    rw [ih h2 h3]
    have := Nat.mod_add_div j g.toNat
    omega
theorem numR_lt {gs st : List Int} (h : IsSt gs st) : numR gs st < cntN gs := by
  induction gs generalizing st with
  | nil => have := List.length_eq_zero_iff.1 h.1; subst this; simp [numR, cntN]
  | cons g gs ih =>
    cases st with
    | nil => simp [IsSt] at h
    | cons s st =>
      obtain ⟨h0, h1⟩ := isSt_cons.1 h
      have h2 := ih h1
      simp only [numR, cntN]
      have : g.toNat * (numR gs st + 1) ≤ g.toNat * cntN gs := Nat.mul_le_mul_left _ h2
      rw [Nat.mul_add] at this
      omega
/-- the list with the numbers put ahead -/
theorem cntP_cons (g : Int) (gs : List Int) (k : Nat) : cntP (g :: gs) (k + 1) = g * cntP gs k := by
  induction k with
  | zero => simp [cntP, nth]
  | succ k ih =>
    show cntP (g :: gs) (k + 1) * nth (g :: gs) (k + 1) = g * (cntP gs k * nth gs k)
    rw [ih, nth_cons_succ, Int.mul_assoc]
theorem cntL_cntN {gs : List Int} (h : Pos gs) : cntL gs = (cntN gs : Int) := by
  induction gs with
  | nil => rfl
  | cons g gs ih =>
    obtain ⟨h1, h2⟩ := h.tail
    have := ih h2
    unfold cntL at this ⊢
    rw [List.length_cons, cntP_cons, this]
    simp only [cntN]
    rw [Int.natCast_mul]
    congr 1
    omega
theorem nodup_map_on {α : Type} {n : Nat} {f : Nat → α} (h : ∀ a ∈ List.range n, ∀ b ∈ List.range n, f a = f b → a = b) : ((List.range n).map f).Nodup := by
  rw [List.nodup_iff_pairwise_ne, List.pairwise_map]
  exact List.Pairwise.imp_of_mem (fun ha hb hne e => hne (h _ ha _ hb e)) (List.nodup_iff_pairwise_ne.1 List.nodup_range)
/-- both orders list the same states -/
theorem perm_orders {gs : List Int} (h : Pos gs) : ((List.range (cntN gs)).map (ofR gs)).Perm ((List.range (cntN gs)).map fun n : Nat => ofL gs n) := by
  have hc := cntL_cntN h
  refine (List.perm_ext_iff_of_nodup ?_ ?_).2 fun st => ?_
  · refine nodup_map_on ?_
    intro a ha b hb hab
    rw [← numR_ofR h (List.mem_range.1 ha), hab, numR_ofR h (List.mem_range.1 hb)]
  · refine nodup_map_on ?_
    intro a ha b hb hab
    have h1 := numL_ofL h (n := (a : Int)) (by omega) (by have := List.mem_range.1 ha; omega)
    have h2 := numL_ofL h (n := (b : Int)) (by omega) (by have := List.mem_range.1 hb; omega)
    have : ofL gs (a : Int) = ofL gs (b : Int) := hab
    rw [this] at h1
    omega
  · simp only [List.mem_map, List.mem_range]
    constructor
    · rintro ⟨j, hj, rfl⟩
      have hs := isSt_ofR h j
      have hb := numL_bd hs
      refine ⟨(numL gs (ofR gs j)).toNat, by omega, ?_⟩
      rw [show (((numL gs (ofR gs j)).toNat : Nat) : Int) = numL gs (ofR gs j) by omega, ofL_numL hs]
    · rintro ⟨n, hn, rfl⟩
      have hs := isSt_ofL h (n : Int)
      exact ⟨numR gs (ofL gs n), numR_lt hs, ofR_numR hs⟩
open Classical in
/-- how many states are lasting -/
noncomputable def lastC (gs : List Int) : Nat := (List.range (cntN gs)).countP fun n => decide (Lasting gs (ofL gs (n : Nat)))
open Classical in
theorem lastC_R {gs : List Int} (h : Pos gs) : (List.range (cntN gs)).countP (fun j => decide (Lasting gs (ofR gs j))) = lastC gs := by
  have := (perm_orders h).countP_eq (fun st => decide (Lasting gs st))
  rwa [List.countP_map, List.countP_map] at this
/-- the next state in the program's order: the tasks below i are full -/
theorem ofR_succ_at {gs : List Int} (h : Pos gs) {j i : Nat} (hi : i < gs.length) (hf : ∀ m, m < i → nth (ofR gs j) m = nth gs m) (hlt : nth (ofR gs j) i < nth gs i) {x : List Int} (hx : x.length = gs.length)
    (hb : ∀ m, m < i → nth x m = 1) (hx1 : nth x i = nth (ofR gs j) i + 1) (hx2 : ∀ m, i < m → m < gs.length → nth x m = nth (ofR gs j) m) : x = ofR gs (j + 1) := by
  induction gs generalizing j i x with
  | nil => simp at hi
  | cons g gs ih =>
    obtain ⟨h1, h2⟩ := h.tail
    cases x with
    | nil => simp at hx
    | cons y x =>
      have hd := Nat.mod_add_div j g.toNat
      have hm := Nat.mod_lt j (y := g.toNat) (by omega)
      cases i with
      | zero =>
        simp only [ofR, nth_cons_zero] at hlt hx1
        have e1 : (j + 1) / g.toNat = j / g.toNat := by
          rw [show j + 1 = (j % g.toNat + 1) + g.toNat * (j / g.toNat) by omega, Nat.add_mul_div_left _ _ (by omega), Nat.div_eq_of_lt (by omega), Nat.zero_add]
        have e2 : (j + 1) % g.toNat = j % g.toNat + 1 := by
          rw [show j + 1 = (j % g.toNat + 1) + g.toNat * (j / g.toNat) by omega, Nat.add_mul_mod_self_left, Nat.mod_eq_of_lt (by omega)]
        simp only [ofR]
        rw [e1, e2]
        congr 1
        refine ext_nth (by rw [ofR_length]; simpa using hx) fun m hm' => ?_
        have hxl : x.length = gs.length := by simpa using hx
        have := hx2 (m + 1) (by omega) (by simp; omega)
        simpa only [ofR, nth_cons_succ] using this
      | succ i =>
        have f0 := hf 0 (by omega)
        simp only [ofR, nth_cons_zero] at f0
        have e1 : (j + 1) / g.toNat = j / g.toNat + 1 := by
          rw [show j + 1 = g.toNat * (j / g.toNat + 1) by rw [Nat.mul_add]; omega, Nat.mul_div_cancel_left _ (by omega)]
        have e2 : (j + 1) % g.toNat = 0 := by
          rw [show j + 1 = g.toNat * (j / g.toNat + 1) by rw [Nat.mul_add]; omega, Nat.mul_mod_right]
        simp only [ofR]
        rw [e1, e2]
        have b0 := hb 0 (by omega)
        rw [nth_cons_zero] at b0
        subst b0
        congr 1
        have hxl : x.length = gs.length := by simpa using hx
        refine ih h2 (i := i) (by simpa using hi) (fun m hm' => ?_) ?_ hxl (fun m hm' => ?_) ?_ (fun m hm' hm2 => ?_)
        · have := hf (m + 1) (by omega); simpa only [ofR, nth_cons_succ] using this
        · simpa only [ofR, nth_cons_succ] using hlt
        · have := hb (m + 1) (by omega); simpa only [nth_cons_succ] using this
        · simpa only [ofR, nth_cons_succ] using hx1
        · have := hx2 (m + 1) (by omega) (by simp; omega); simpa only [ofR, nth_cons_succ] using this
/-- behind the last one there is none -/
theorem ofR_last {gs : List Int} (h : Pos gs) {j : Nat} (hj : j < cntN gs) (hf : ∀ m, m < gs.length → nth (ofR gs j) m = nth gs m) : j + 1 = cntN gs := by
  have e : ofR gs j = gs := ext_nth (ofR_length _ _) fun m hm => hf m (by rwa [ofR_length] at hm)
  have h1 := numR_ofR h hj
  rw [e] at h1
  rw [← h1]
  clear h1 e hf hj
  induction gs with
  | nil => rfl
  | cons g gs ih =>
    obtain ⟨h1, h2⟩ := h.tail
    have := ih h2
    simp only [numR, cntN]
    rw [← this, Nat.mul_add]
    omega
theorem not_last {gs : List Int} (h : Pos gs) {j i : Nat} (hj : j < cntN gs) (hlt : nth (ofR gs j) i < nth gs i) : j + 1 < cntN gs := by
  rcases Nat.lt_or_ge (j + 1) (cntN gs) with h1 | h1
  · exact h1
  · exfalso
    have e : j + 1 = cntN gs := by omega
    have hn := numR_lt (isSt_full h)
    have h2 : numR gs gs + 1 = cntN gs := by
      clear hlt h1 e hn hj
      induction gs with
      | nil => rfl
      | cons g gs ih =>
        obtain ⟨h1, h2⟩ := h.tail
        have := ih h2
        simp only [numR, cntN]
        rw [← this, Nat.mul_add]
        omega
    have h3 : ofR gs j = gs := by
      have := ofR_numR (isSt_full h)
      rw [show j = numR gs gs by omega]; exact this
    rw [h3] at hlt
    omega
theorem ofR_zero {gs : List Int} (m : Nat) (hm : m < gs.length) : nth (ofR gs 0) m = 1 := by
  induction gs generalizing m with
  | nil => simp at hm
  | cons g gs ih =>
    simp only [ofR, Nat.zero_mod, Nat.zero_div]
    cases m with
    | zero => rfl
    | succ m => rw [nth_cons_succ]; exact ih m (by simpa using hm)
/-! ### more gaps, more lasting -/
/-- no number of x is greater than that of y -/
def LeL (x y : List Int) : Prop := x.length = y.length ∧ ∀ i, i < x.length → nth x i ≤ nth y i
theorem lasting_mono {gs gs' st st' : List Int} (hg : LeL gs gs') (hs : IsSt gs st) (hle : LeL st st') (h : Lasting gs st) : Lasting gs' st' := by
  refine ⟨fun y => ∃ x, IsSt gs x ∧ Lasting gs x ∧ LeL x y, ⟨st, hs, h, hle⟩, ?_⟩
  rintro y ⟨x, hx, hl, hxy⟩
  obtain ⟨c, hc, ho, hl2⟩ := lasting_step hl
  have hlen : y.length = gs.length := by rw [← hxy.1, hx.1]
  refine ⟨c, ⟨hc.1, by rw [← hg.1]; exact hc.2⟩, fun i hi hic e => ?_, stepL gs x c, hx.step ho, hl2, ?_⟩
  · have h1 := ho i (by rw [hxy.1]; exact hi) hic
    have h2 := (hx.2 i (by omega)).1
    have h3 := hxy.2 i (by rw [hxy.1]; exact hi)
    omega
  · refine ⟨by rw [stepL_length, stepL_length, hxy.1], fun i hi => ?_⟩
    rw [stepL_length] at hi
    rw [nth_stepL hi, nth_stepL (by rw [← hxy.1]; exact hi)]
    split
    · exact hg.2 i (by rw [← hx.1]; exact hi)
    · have := hxy.2 i hi; omega
/-- tasks that can be served -/
def CanL (gs : List Int) : Prop := Lasting gs gs
theorem can_mono {gs gs' : List Int} (hp : Pos gs) (hg : LeL gs gs') (h : CanL gs) : CanL gs' := lasting_mono hg (isSt_full hp) hg h
/-- every lasting state is at most the full one -/
theorem lasting_full {gs st : List Int} (hs : IsSt gs st) (h : Lasting gs st) : CanL gs :=
  lasting_mono ⟨rfl, fun _ _ => Int.le_refl _⟩ hs ⟨hs.1, fun i hi => (hs.2 i (by rw [← hs.1]; exact hi)).2⟩ h

/-! ### the least play -/
noncomputable def playC1 (gs st : List Int) : Int := (keepL gs st).headD (-1)
noncomputable def playS (gs : List Int) : Nat → List Int
  | 0 => gs
  | n + 1 => stepL gs (playS gs n) (playC1 gs (playS gs n))
noncomputable def playC (gs : List Int) (n : Nat) : Int := playC1 gs (playS gs n)
theorem playC1_mem {gs st : List Int} (h : Lasting gs st) : playC1 gs st ∈ keepL gs st := by
  have := lasting_iff_keep.1 h
  unfold playC1
  cases hk : keepL gs st with
  | nil => exact absurd hk this
  | cons c cs => simp
theorem playS_ok {gs : List Int} (hp : Pos gs) (h : CanL gs) (n : Nat) : IsSt gs (playS gs n) ∧ Lasting gs (playS gs n) := by
  induction n with
  | zero => exact ⟨isSt_full hp, h⟩
  | succ n ih =>
    obtain ⟨hc, ho, hl⟩ := mem_keepL.1 (playC1_mem ih.2)
    exact ⟨ih.1.step ho, hl⟩
/-- no state of the first m came before -/
def Fresh (gs : List Int) (m : Nat) : Prop := ∀ i j, i < j → j < m → playS gs i ≠ playS gs j
theorem nodup_bound {l : List Nat} {N : Nat} (hn : l.Nodup) (h : ∀ x ∈ l, x < N) : l.length ≤ N := by
  have hp : l.Perm ((List.range N).filter (· ∈ l)) := by
    refine (List.perm_ext_iff_of_nodup hn (List.Pairwise.sublist List.filter_sublist List.nodup_range)).2 fun x => ?_
    simp only [List.mem_filter, List.mem_range, decide_eq_true_eq]
    exact ⟨fun hx => ⟨h x hx, hx⟩, fun hx => hx.2⟩
  rw [hp.length_eq]
  exact Nat.le_trans (List.length_filter_le _ _) (by simp)
theorem fresh_bound {gs : List Int} (hp : Pos gs) (h : CanL gs) {m : Nat} (hf : Fresh gs m) : m ≤ cntN gs := by
  have h1 := nodup_bound (l := (List.range m).map fun i => numR gs (playS gs i)) (N := cntN gs) ?_ ?_
  · simpa using h1
  · refine nodup_map_on fun a ha b hb hab => ?_
    have ea := ofR_numR (playS_ok hp h a).1
    have eb := ofR_numR (playS_ok hp h b).1
    have hab' : numR gs (playS gs a) = numR gs (playS gs b) := hab
    rw [hab'] at ea
    have e : playS gs a = playS gs b := by rw [← ea, eb]
    rcases Nat.lt_trichotomy a b with hlt | heq | hgt
    · exact absurd e (hf a b hlt (List.mem_range.1 hb))
    · exact heq
    · exact absurd e.symm (hf b a hgt (List.mem_range.1 ha))
  · intro x hx
    obtain ⟨i, _, rfl⟩ := List.mem_map.1 hx
    exact numR_lt (playS_ok hp h i).1
/-- the first time that a state comes again, m, and when it came first, a -/
def Again (gs : List Int) (a m : Nat) : Prop := Fresh gs m ∧ a < m ∧ playS gs a = playS gs m
theorem Again.unique {gs : List Int} {a m a' m' : Nat} (h : Again gs a m) (h' : Again gs a' m') : a = a' ∧ m = m' := by
  obtain ⟨f, l, e⟩ := h
  obtain ⟨f', l', e'⟩ := h'
  have hm : m = m' := by
    rcases Nat.lt_trichotomy m m' with h1 | h1 | h1
    · exact absurd e (f' a m l h1)
    · exact h1
    · exact absurd e' (f a' m' l' h1)
  subst hm
  rcases Nat.lt_trichotomy a a' with h1 | h1 | h1
  · exact absurd (e.trans e'.symm) (f a a' h1 l')
  · exact ⟨h1, rfl⟩
  · exact absurd (e'.trans e.symm) (f a' a h1 l)
/-- the head and the round of the least play -/
noncomputable def headP (gs : List Int) (a : Nat) : List Int := (List.range a).map (playC gs)
noncomputable def choicesP (gs : List Int) (m : Nat) : List Int := (List.range m).map (playC gs)
open Classical in
noncomputable def headL_ (gs : List Int) : List Int := if h : ∃ p : Nat × Nat, Again gs p.1 p.2 then (choicesP gs h.choose.2).take h.choose.1 else []
open Classical in
noncomputable def roundL_ (gs : List Int) : List Int := if h : ∃ p : Nat × Nat, Again gs p.1 p.2 then (choicesP gs h.choose.2).drop h.choose.1 else []
theorem Again.head {gs : List Int} {a m : Nat} (h : Again gs a m) : headL_ gs = (choicesP gs m).take a := by
  have hex : ∃ p : Nat × Nat, Again gs p.1 p.2 := ⟨(a, m), h⟩
  unfold headL_
  rw [dif_pos hex]
  obtain ⟨e1, e2⟩ := hex.choose_spec.unique h
  rw [e1, e2]
theorem Again.round {gs : List Int} {a m : Nat} (h : Again gs a m) : roundL_ gs = (choicesP gs m).drop a := by
  have hex : ∃ p : Nat × Nat, Again gs p.1 p.2 := ⟨(a, m), h⟩
  unfold roundL_
  rw [dif_pos hex]
  obtain ⟨e1, e2⟩ := hex.choose_spec.unique h
  rw [e1, e2]

/-! ### ways from state to state -/
def Edge (gs x y : List Int) : Prop := ∃ c, c ∈ keepL gs x ∧ stepL gs x c = y
def Reach (gs : List Int) : Nat → List Int → List Int → Prop
  | 0, x, y => x = y
  | n + 1, x, y => ∃ z, Reach gs n x z ∧ Edge gs z y
/-- what a search by levels knows ahead of the level s + 1 -/
structure Bfs (gs x : List Int) (s : Nat) (now : List Int → Prop) (met : List Int → Prop) : Prop where
  front : ∀ y, now y → Reach gs s x y
  back : ∀ y, met y → ∃ m, 1 ≤ m ∧ m ≤ s ∧ Reach gs m x y
  all : ∀ m y, 1 ≤ m → m ≤ s → Reach gs m x y → met y
  new : ∀ y, met y → (∀ m, 1 ≤ m → m < s → ¬ Reach gs m x y) → now y
  first : s = 0 → now x
  no : ∀ m, 1 ≤ m → m ≤ s → ¬ Reach gs m x x
theorem Bfs.start (gs x : List Int) : Bfs gs x 0 (fun y => y = x) (fun _ => False) where
  front y hy := hy.symm
  back y hy := hy.elim
  all m y h1 h2 := by omega
  new y hy := hy.elim
  first _ := rfl
  no m h1 h2 := by omega
theorem Bfs.early {gs x : List Int} {s : Nat} {now met : List Int → Prop} (h : Bfs gs x s now met) {z : List Int} (hz : Reach gs s x z) (hn : ¬ now z) : ∃ m, 1 ≤ m ∧ m < s ∧ Reach gs m x z := by
  rcases Nat.eq_zero_or_pos s with h0 | h0
  · subst h0
    have : x = z := hz
    subst this
    exact absurd (h.first rfl) hn
  · have hm := h.all s z h0 (Nat.le_refl _) hz
    apply Classical.byContradiction
    intro hx
    refine hn (h.new z hm fun m h1 h2 h3 => hx ⟨m, h1, h2, h3⟩)
theorem Bfs.next {gs x : List Int} {s : Nat} {now met now' met' : List Int → Prop} (h : Bfs gs x s now met)
    (hx : ∀ z, now z → ¬ Edge gs z x) (hmet : ∀ y, met' y ↔ met y ∨ ∃ z, now z ∧ Edge gs z y) (hnow : ∀ y, now' y ↔ ¬ met y ∧ ∃ z, now z ∧ Edge gs z y) : Bfs gs x (s + 1) now' met' where
  front y hy := by obtain ⟨_, z, hz, he⟩ := (hnow y).1 hy; exact ⟨z, h.front z hz, he⟩
  back y hy := by
    rcases (hmet y).1 hy with h1 | ⟨z, hz, he⟩
    · obtain ⟨m, h1, h2, h3⟩ := h.back y h1; exact ⟨m, h1, by omega, h3⟩
    · exact ⟨s + 1, by omega, by omega, z, h.front z hz, he⟩
  all m y h1 h2 h3 := by
    rcases Nat.lt_or_ge m (s + 1) with hm | hm
    · exact (hmet y).2 (.inl (h.all m y h1 (by omega) h3))
    · obtain rfl : m = s + 1 := by omega
      obtain ⟨z, hz, he⟩ := h3
      by_cases hn : now z
      · exact (hmet y).2 (.inr ⟨z, hn, he⟩)
      · obtain ⟨m, k1, k2, k3⟩ := h.early hz hn
        exact (hmet y).2 (.inl (h.all (m + 1) y (by omega) (by omega) ⟨z, k3, he⟩))
  new y hy hno := by
    refine (hnow y).2 ?_
    have hnm : ¬ met y := fun hm => by
      obtain ⟨m, h1, h2, h3⟩ := h.back y hm
      exact hno m h1 (by omega) h3
    exact ⟨hnm, ((hmet y).1 hy).resolve_left hnm⟩
  first e := by omega
  no m h1 h2 h3 := by
    rcases Nat.lt_or_ge m (s + 1) with hm | hm
    · exact h.no m h1 (by omega) h3
    · obtain rfl : m = s + 1 := by omega
      obtain ⟨z, hz, he⟩ := h3
      by_cases hn : now z
      · exact hx z hn he
      · obtain ⟨m, k1, k2, k3⟩ := h.early hz hn
        exact h.no (m + 1) (by omega) (by omega) ⟨z, k3, he⟩
theorem Bfs.found {gs x : List Int} {s : Nat} {now met : List Int → Prop} (h : Bfs gs x s now met) {z : List Int} (hz : now z) (he : Edge gs z x) : Reach gs (s + 1) x x ∧ ∀ m, 1 ≤ m → m < s + 1 → ¬ Reach gs m x x :=
  ⟨⟨z, h.front z hz, he⟩, fun m h1 h2 => h.no m h1 (by omega)⟩
theorem Bfs.over {gs x : List Int} {s : Nat} {now met : List Int → Prop} (h : Bfs gs x s now met) (hn : ∀ y, ¬ now y) (m : Nat) (h1 : 1 ≤ m) : ¬ Reach gs m x x := by
  have key : ∀ m y, 1 ≤ m → Reach gs m x y → ∃ m', 1 ≤ m' ∧ m' ≤ s ∧ Reach gs m' x y := by
    intro m
    induction m with
    | zero => intro y h1; omega
    | succ m ih =>
      rintro y _ ⟨z, hz, he⟩
      have hs : 1 ≤ s := by
        rcases Nat.eq_zero_or_pos s with e | e
        · exact absurd (h.first e) (hn x)
        · exact e
      rcases Nat.eq_zero_or_pos m with e | e
      · subst e; exact ⟨1, by omega, hs, z, hz, he⟩
      · obtain ⟨m', k1, k2, k3⟩ := ih z e hz
        rcases Nat.lt_or_ge m' s with k | k
        · exact ⟨m' + 1, by omega, by omega, z, k3, he⟩
        · obtain rfl : m' = s := by omega
          obtain ⟨m'', j1, j2, j3⟩ := h.early k3 (hn z)
          exact ⟨m'' + 1, by omega, by omega, z, j3, he⟩
  intro hr
  obtain ⟨m', k1, k2, k3⟩ := key m x h1 hr
  exact h.no m' k1 k2 k3

/-! ### the shortest round -/
theorem Edge.lasting {gs x y : List Int} (h : Edge gs x y) (hs : IsSt gs x) : IsSt gs y ∧ Lasting gs y ∧ Lasting gs x := by
  obtain ⟨c, hc, rfl⟩ := h
  obtain ⟨h1, h2, h3⟩ := mem_keepL.1 hc
  exact ⟨hs.step h2, h3, lasting_iff_keep.2 (List.ne_nil_of_mem hc)⟩
theorem Reach.st {gs x y : List Int} {n : Nat} (h : Reach gs n x y) (hs : IsSt gs x) : IsSt gs y := by
  induction n generalizing y with
  | zero => have : x = y := h; exact this ▸ hs
  | succ n ih => obtain ⟨z, hz, he⟩ := h; exact (he.lasting (ih hz)).1
theorem Reach.head {gs x y z : List Int} {n : Nat} (he : Edge gs x y) (h : Reach gs n y z) : Reach gs (n + 1) x z := by
  induction n generalizing z with
  | zero => have : y = z := h; subst this; exact ⟨x, rfl, he⟩
  | succ n ih => obtain ⟨u, hu, hl⟩ := h; exact ⟨u, ih hu, hl⟩
theorem Reach.add {gs x y z : List Int} {m n : Nat} (h : Reach gs m x y) (h' : Reach gs n y z) : Reach gs (m + n) x z := by
  induction n generalizing z with
  | zero => have : y = z := h'; subst this; exact h
  | succ n ih => obtain ⟨u, hu, hl⟩ := h'; exact ⟨u, ih hu, hl⟩
/-- on the way the task i has a turn, or its number falls -/
theorem Reach.turn {gs x y : List Int} {n i : Nat} (hs : IsSt gs x) (hi : i < gs.length) (h : Reach gs n x y) : nth y i = nth x i - n ∨ ∃ a b z, a + b = n ∧ Reach gs a x z ∧ Reach gs b z y ∧ nth z i = nth gs i := by
  induction n generalizing y with
  | zero => have : x = y := h; subst this; exact .inl (by simp)
  | succ n ih =>
    obtain ⟨u, hu, he⟩ := h
    have he' := he
    obtain ⟨c, hc, rfl⟩ := he'
    have hsu := hu.st hs
    have hiu : i < u.length := by rw [hsu.1]; exact hi
    by_cases hic : (i : Int) = c
    · exact .inr ⟨n + 1, 0, _, rfl, ⟨u, hu, he⟩, rfl, by rw [nth_stepL hiu, if_pos hic]⟩
    · rcases ih hu with h1 | ⟨a, b, z, hab, h1, h2, h3⟩
      · exact .inl (by rw [nth_stepL hiu, if_neg hic, h1]; omega)
      · exact .inr ⟨a, b + 1, z, by omega, h1, ⟨u, h2, he⟩, h3⟩
/-- m is the least number of slots of a round -/
def IsFew (gs : List Int) (m : Nat) : Prop := (1 ≤ m ∧ ∃ x, IsSt gs x ∧ Reach gs m x x) ∧ ∀ n x, 1 ≤ n → IsSt gs x → Reach gs n x x → m ≤ n
theorem IsFew.unique {gs : List Int} {m m' : Nat} (h : IsFew gs m) (h' : IsFew gs m') : m = m' := by
  obtain ⟨⟨h1, x, h2, h3⟩, h4⟩ := h
  obtain ⟨⟨k1, y, k2, k3⟩, k4⟩ := h'
  exact Nat.le_antisymm (h4 m' y k1 k2 k3) (k4 m x h1 h2 h3)
/-- it is enough to look at the lasting states behind a turn of the task i -/
theorem round_at {gs x : List Int} {n i : Nat} (hn : 1 ≤ n) (hs : IsSt gs x) (hi : i < gs.length) (h : Reach gs n x x) : ∃ z, IsSt gs z ∧ Lasting gs z ∧ nth z i = nth gs i ∧ Reach gs n z z := by
  rcases h.turn hs hi with h1 | ⟨a, b, z, hab, h1, h2, h3⟩
  · omega
  · have hz := h1.st hs
    refine ⟨z, hz, ?_, h3, ?_⟩
    · have hr := h2.add h1
      have hpos : b + a = (b + a - 1) + 1 := by omega
      rw [hpos] at hr
      obtain ⟨u, hu, he⟩ := hr
      exact (he.lasting (hu.st hz)).2.1
    · have := h2.add h1
      rwa [show b + a = n by omega] at this
theorem reach_play {gs : List Int} (hp : Pos gs) (h : CanL gs) (a n : Nat) : Reach gs n (playS gs a) (playS gs (a + n)) := by
  induction n with
  | zero => rfl
  | succ n ih => exact ⟨_, ih, _, playC1_mem (playS_ok hp h (a + n)).2, rfl⟩
theorem exists_again {gs : List Int} (hp : Pos gs) (h : CanL gs) : ∃ a m, Again gs a m ∧ m ≤ cntN gs := by
  have key : ∀ k m, m + k = cntN gs + 1 → Fresh gs m → ∃ a m, Again gs a m ∧ m ≤ cntN gs := by
    intro k
    induction k with
    | zero => intro m hm hf; have := fresh_bound hp h hf; omega
    | succ k ih =>
      intro m hm hf
      by_cases hx : ∃ a, a < m ∧ playS gs a = playS gs m
      · obtain ⟨a, ha, e⟩ := hx
        exact ⟨a, m, ⟨hf, ha, e⟩, by omega⟩
      · refine ih (m + 1) (by omega) fun i j hij hj e => ?_
        rcases Nat.lt_or_ge j m with hj' | hj'
        · exact hf i j hij hj' e
        · obtain rfl : j = m := by omega
          exact hx ⟨i, hij, e⟩
  exact key (cntN gs + 1) 0 (by omega) fun i j _ hj => by omega
/-- there is a round, of at most so many slots as there are states -/
theorem exists_round {gs : List Int} (hp : Pos gs) (h : CanL gs) : ∃ n x, 1 ≤ n ∧ n ≤ cntN gs ∧ IsSt gs x ∧ Reach gs n x x := by
  obtain ⟨a, m, ⟨hf, hl, e⟩, hm⟩ := exists_again hp h
  have := reach_play hp h a (m - a)
  rw [show a + (m - a) = m by omega, ← e] at this
  exact ⟨m - a, _, by omega, by omega, (playS_ok hp h a).1, this⟩

end Go.Proofs.Ytgndbifcncklgaa
