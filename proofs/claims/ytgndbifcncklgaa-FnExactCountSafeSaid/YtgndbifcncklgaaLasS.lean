/-
  The model's list of lasting states.
  Conditions: tasks with at most 4000 states.
-/
import Derived.Test.YtgndbifcncklgaaNumS
namespace Go.Proofs.Ytgndbifcncklgaa
open Go.RowKit Go.Shelf
attribute [local go_sem] Oper.semAt_some

/-! ### the mathematics -/
def bAt (bs : List Bool) (n : Int) : Bool := bs[n.toNat]?.getD false
/-- a choice leads to a state that is left -/
def SucB (zs : List Int) (bs : List Bool) (st : List Int) : Prop := ∃ c, IsCh zs.length c ∧ Opn st c ∧ bAt bs (numL zs (stepL zs st c)) = true
structure LInv (zs : List Int) (bs : List Bool) : Prop where
  len : bs.length = cntN zs
  all : ∀ n : Nat, n < cntN zs → Lasting zs (ofL zs n) → bs[n]? = some true
open Classical in
noncomputable def lastB (zs : List Int) : List Bool := (List.range (cntN zs)).map fun n : Nat => decide (Lasting zs (ofL zs n))
theorem num_nat {zs st : List Int} (hp : Pos zs) (hs : IsSt zs st) : ∃ m : Nat, numL zs st = m ∧ m < cntN zs ∧ ofL zs (m : Int) = st := by
  have h1 := numL_bd hs
  have h2 := cntL_cntN hp
  exact ⟨(numL zs st).toNat, by omega, by omega, by rw [show (((numL zs st).toNat : Nat) : Int) = numL zs st by omega, ofL_numL hs]⟩
theorem LInv.suc {zs : List Int} {bs : List Bool} (hp : Pos zs) (h : LInv zs bs) {st : List Int} (hs : IsSt zs st) (hl : Lasting zs st) : SucB zs bs st := by
  obtain ⟨c, hc, ho, hl2⟩ := lasting_step hl
  obtain ⟨m, h1, h2, h3⟩ := num_nat hp (hs.step ho)
  refine ⟨c, hc, ho, ?_⟩
  unfold bAt
  rw [h1]
  rw [← h3] at hl2
  simp [h.all m h2 hl2]
theorem LInv.set {zs : List Int} {bs : List Bool} (hp : Pos zs) (h : LInv zs bs) {n : Nat} (_hn : n < cntN zs) (hno : ¬ SucB zs bs (ofL zs n)) : LInv zs (bs.set n false) where
  len := by rw [List.length_set, h.len]
  all m hm hl := by
    by_cases e : n = m
    · subst e; exact absurd (h.suc hp (isSt_ofL hp _) hl) hno
    · rw [List.getElem?_set_ne e]; exact h.all m hm hl
open Classical in
theorem LInv.done {zs : List Int} {bs : List Bool} (hp : Pos zs) (h : LInv zs bs) (hc : ∀ n : Nat, n < cntN zs → bs[n]? = some true → SucB zs bs (ofL zs n)) : bs = lastB zs := by
  refine List.ext_getElem (by simp [lastB, h.len]) fun n h1 h2 => ?_
  have hn : n < cntN zs := by rw [← h.len]; exact h1
  have e1 : bs[n]? = some bs[n] := List.getElem?_eq_getElem h1
  simp only [lastB, List.getElem_map, List.getElem_range]
  by_cases hl : Lasting zs (ofL zs n)
  · rw [decide_eq_true hl]
    have := h.all n hn hl
    rw [e1] at this
    simpa using this
  · rw [decide_eq_false hl]
    cases hb : bs[n] with
    | false => rfl
    | true =>
      refine absurd ?_ hl
      refine lasting_of (fun st => IsSt zs st ∧ bAt bs (numL zs st) = true) ⟨isSt_ofL hp _, ?_⟩ fun x hx => ?_
      · unfold bAt
        rw [numL_ofL hp (by omega) (by rw [cntL_cntN hp]; omega)]
        simp [e1, hb]
      · obtain ⟨hxs, hxb⟩ := hx
        obtain ⟨m, k1, k2, k3⟩ := num_nat hp hxs
        have hm : bs[m]? = some true := by
          unfold bAt at hxb
          rw [k1] at hxb
          cases hv : bs[m]? with
          | none => simp [hv] at hxb
          | some b => simp [hv] at hxb; rw [hxb]
        obtain ⟨c, c1, c2, c3⟩ := hc m k2 hm
        rw [k3] at c2 c3
        exact ⟨c, c1, c2, .inl ⟨hxs.step c2, c3⟩⟩
def cntT (bs : List Bool) : Nat := bs.countP id
theorem cntT_set {bs : List Bool} {n : Nat} (h : bs[n]? = some true) : cntT (bs.set n false) < cntT bs := by
  unfold cntT
  induction bs generalizing n with
  | nil => simp at h
  | cons b bs ih =>
    cases n with
    | zero => simp at h; subst h; simp
    | succ n =>
      simp only [List.set_cons_succ, List.countP_cons]
      have := ih (n := n) (by simpa using h)
      omega
/-- how many cells of the block b, below n, are true -/
def trueN (W : World) (b n : Nat) : Nat := (List.range n).countP fun i => match W.cell? ⟨b, i, none⟩ with | some (.bool true) => true | _ => false
theorem trueN_of {B b cap : Nat} {W : World} {bs : List Bool} (h : OwnB B W (.slice (some ⟨b, 0, none⟩) bs.length cap) bs) : trueN W b bs.length = cntT bs := by
  unfold trueN cntT
  have h1 : ∀ i ∈ List.range bs.length, (match W.cell? ⟨b, i, none⟩ with | some (.bool true) => true | _ => false) = (bs[i]?.getD false) := fun i hi => by
    have hi' := List.mem_range.1 hi
    have e := List.getElem?_eq_getElem hi'
    rw [h.cellAt e, e]
    cases bs[i] <;> rfl
  rw [List.countP_congr (q := fun i => bs[i]?.getD false) (fun i hi => by rw [h1 i hi])]
  have h2 : bs = (List.range bs.length).map fun i => bs[i]?.getD false := List.ext_getElem (by simp) fun i k1 k2 => by simp [List.getElem?_eq_getElem k1]
  conv => rhs; rw [h2, List.countP_map]
  rfl

theorem OwnB.base {B B' : Nat} {W : World} {v : Value} {bs : List Bool} (h : OwnB B W v bs) (hB : B' ≤ B) : OwnB B' W v bs := by
  obtain ⟨h1, h2⟩ := h
  refine ⟨h1, ?_⟩
  rcases h2 with h0 | ⟨g, cap, cur, e, hg, r⟩
  · exact .inl h0
  · exact .inr ⟨g, cap, cur, e, by omega, r⟩
theorem trueN_eq {B b cap N : Nat} {W : World} {bs : List Bool} (h : OwnB B W (.slice (some ⟨b, 0, none⟩) N cap) bs) (hl : bs.length = N) : trueN W b N = cntT bs := by subst hl; exact trueN_of h
theorem bAt_nat (bs : List Bool) {m : Nat} (h : m < bs.length) : bs[m]? = some (bAt bs (m : Int)) := by
  unfold bAt
  rw [Int.toNat_natCast, List.getElem?_eq_getElem h]
  rfl
theorem ho_cell {B b cap N n : Nat} {W : World} {bs : List Bool} (h : OwnB B W (.slice (some ⟨b, 0, none⟩) N cap) bs) (hl : bs.length = N) (hn : n < N) : W.cell? ⟨b, n, none⟩ = some (.bool (bAt bs n)) := h.cellAt (bAt_nat bs (by omega))
theorem not_suc {zs : List Int} {bs : List Bool} {st : List Int} (h : ∀ i : Nat, i < zs.length + 1 → Opn st ((i : Int) - 1) → bAt bs (numL zs (stepL zs st ((i : Int) - 1))) = false) : ¬ SucB zs bs st := by
  rintro ⟨c, ⟨h1, h2⟩, ho, hb⟩
  have hc : (((c + 1).toNat : Nat) : Int) - 1 = c := by omega
  have := h (c + 1).toNat (by omega) (by rw [hc]; exact ho)
  rw [hc, hb] at this
  cases this
/-- the first k of n are true -/
def fillT (n k : Nat) : List Bool := (List.range n).map fun i => decide (i < k)
theorem fillT_length (n k : Nat) : (fillT n k).length = n := by simp [fillT]
theorem fillT_zero (n : Nat) : fillT n 0 = List.replicate n false := List.ext_getElem (by simp [fillT]) fun i h1 h2 => by simp [fillT]
theorem fillT_all (n : Nat) : fillT n n = List.replicate n true := List.ext_getElem (by simp [fillT]) fun i h1 h2 => by simp [fillT] at h1 ⊢; exact h1
theorem fillT_at {n k i : Nat} (h : i < n) : (fillT n k)[i]? = some (decide (i < k)) := by simp [fillT, h]
theorem fillT_succ {n k : Nat} : fillT n (k + 1) = (fillT n k).set k true := List.ext_getElem (by simp [fillT]) fun i h1 h2 => by
  simp only [fillT, List.getElem_map, List.getElem_range, List.getElem_set]
  by_cases e : k = i
  · rw [if_pos e, decide_eq_true (by omega)]
  · rw [if_neg e]; congr 1; apply propext; omega
theorem linv_start (zs : List Int) : LInv zs (List.replicate (cntN zs) true) := ⟨by simp, fun n hn _ => by simp [hn]⟩

end Go.Proofs.Ytgndbifcncklgaa
