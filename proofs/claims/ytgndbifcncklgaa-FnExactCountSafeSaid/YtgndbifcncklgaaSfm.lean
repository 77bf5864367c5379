/-
  Safe states of a ground and tasks: moves, safety, the numbers of states, what the model's list of safe states knows. Mathematics.
-/
import Derived.Test.YtgndbifcncklgaaGnd
import Derived.Test.YtgndbifcncklgaaLasS
namespace Go.Proofs.Ytgndbifcncklgaa
open Go.RowKit Go.Shelf

abbrev Wst := List Int × Nat
/-- a state of a ground and tasks: the watcher's place has its whole gap -/
def IsW (zs : List Int) (x : Wst) : Prop := IsSt zs x.1 ∧ x.2 < zs.length ∧ nth x.1 x.2 = nth zs x.2
/-- the move to the place j is allowed -/
def Mv (zs : List Int) (r : Nat) (x : Wst) (j : Nat) : Prop := j < zs.length ∧ nearB r x.2 j = true ∧ Opn x.1 (j : Int)
def stW (zs : List Int) (x : Wst) (j : Nat) : Wst := (stepL zs x.1 (j : Int), j)
theorem IsW.step {zs : List Int} {r : Nat} {x : Wst} {j : Nat} (h : IsW zs x) (hm : Mv zs r x j) : IsW zs (stW zs x j) := by
  refine ⟨h.1.step hm.2.2, hm.1, ?_⟩
  show nth (stepL zs x.1 (j : Int)) j = nth zs j
  rw [nth_stepL (by rw [h.1.1]; exact hm.1), if_pos rfl]
/-- moves can be made for ever -/
def SafeW (zs : List Int) (r : Nat) (x : Wst) : Prop := ∃ S : Wst → Prop, S x ∧ ∀ y, S y → IsW zs y ∧ ∃ j, Mv zs r y j ∧ S (stW zs y j)
theorem SafeW.isW {zs : List Int} {r : Nat} {x : Wst} (h : SafeW zs r x) : IsW zs x := by
  obtain ⟨S, h0, hS⟩ := h
  exact (hS x h0).1
theorem SafeW.step {zs : List Int} {r : Nat} {x : Wst} (h : SafeW zs r x) : ∃ j, Mv zs r x j ∧ SafeW zs r (stW zs x j) := by
  obtain ⟨S, h0, hS⟩ := h
  obtain ⟨_, j, h1, h2⟩ := hS x h0
  exact ⟨j, h1, S, h2, hS⟩
theorem SafeW.of {zs : List Int} {r : Nat} {x : Wst} {j : Nat} (hx : IsW zs x) (hm : Mv zs r x j) (h : SafeW zs r (stW zs x j)) : SafeW zs r x := by
  refine ⟨fun y => y = x ∨ SafeW zs r y, .inl rfl, ?_⟩
  rintro y (rfl | hy)
  · exact ⟨hx, j, hm, .inr h⟩
  · obtain ⟨k, h1, h2⟩ := hy.step
    exact ⟨hy.isW, k, h1, .inr h2⟩

/-! ### numbers of states -/
def cntW (zs : List Int) : Nat := zs.length * cntN zs
def numW (zs : List Int) (x : Wst) : Int := numL zs x.1 * zs.length + x.2
def ofW (zs : List Int) (q : Nat) : Wst := (ofL zs ((q / zs.length : Nat) : Int), q % zs.length)
theorem numW_nat {zs : List Int} {x : Wst} (hp : Pos zs) (hx : IsSt zs x.1) (h2 : x.2 < zs.length) : ∃ q : Nat, numW zs x = q ∧ q < cntW zs ∧ ofW zs q = x := by
  obtain ⟨k, k1, k2, k3⟩ := num_nat hp hx
  have hn : 0 < zs.length := by omega
  refine ⟨k * zs.length + x.2, ?_, ?_, ?_⟩
  · unfold numW; rw [k1]; simp
  · unfold cntW
    calc k * zs.length + x.2 < k * zs.length + zs.length := by omega
      _ = (k + 1) * zs.length := by rw [Nat.succ_mul]
      _ ≤ cntN zs * zs.length := Nat.mul_le_mul_right _ k2
      _ = zs.length * cntN zs := Nat.mul_comm _ _
  · unfold ofW
    have h3 : (k * zs.length + x.2) / zs.length = k := by
      rw [Nat.add_comm, Nat.add_mul_div_right _ _ hn, Nat.div_eq_of_lt h2, Nat.zero_add]
    have h4 : (k * zs.length + x.2) % zs.length = x.2 := by
      rw [Nat.add_comm, Nat.add_mul_mod_self_right, Nat.mod_eq_of_lt h2]
    rw [h3, h4, k3]
theorem ofW_st {zs : List Int} (hp : Pos zs) (q : Nat) : IsSt zs (ofW zs q).1 := isSt_ofL hp _
theorem ofW_at {zs : List Int} (hn : 0 < zs.length) (q : Nat) : (ofW zs q).2 < zs.length := Nat.mod_lt _ hn
/-- the state with a number has the whole gap of its place -/
def iwB (zs : List Int) (q : Nat) : Bool := nth (ofW zs q).1 (ofW zs q).2 == nth zs (ofW zs q).2
theorem iwB_iff {zs : List Int} (hp : Pos zs) (hn : 0 < zs.length) (q : Nat) : iwB zs q = true ↔ IsW zs (ofW zs q) := by
  unfold iwB
  rw [beq_iff_eq]
  exact ⟨fun h => ⟨ofW_st hp q, ofW_at hn q, h⟩, fun h => h.2.2⟩
theorem q_div {zs : List Int} {q : Nat} (_hn : 0 < zs.length) (h : q < cntW zs) : q / zs.length < cntN zs := Nat.div_lt_of_lt_mul h

/-! ### what the model's list knows -/
/-- a move to a state that the list has as safe -/
def GoW (zs : List Int) (r : Nat) (bs : List Bool) (x : Wst) (j : Nat) : Prop := Mv zs r x j ∧ bAt bs (numW zs (stW zs x j)) = true
structure LInvW (zs : List Int) (r : Nat) (bs : List Bool) : Prop where
  len : bs.length = cntW zs
  all : ∀ q : Nat, q < cntW zs → SafeW zs r (ofW zs q) → bs[q]? = some true
  low : ∀ q : Nat, q < cntW zs → bs[q]? = some true → IsW zs (ofW zs q)
open Classical in
noncomputable def safB (zs : List Int) (r : Nat) : List Bool := (List.range (cntW zs)).map fun q : Nat => decide (SafeW zs r (ofW zs q))
theorem safB_length (zs : List Int) (r : Nat) : (safB zs r).length = cntW zs := by simp [safB]
theorem safB_at {zs : List Int} {r q : Nat} (h : q < cntW zs) : (bAt (safB zs r) (q : Int) = true) ↔ SafeW zs r (ofW zs q) := by
  unfold bAt safB
  simp [h]
theorem safB_num {zs : List Int} {r : Nat} {x : Wst} (hp : Pos zs) (hx : IsSt zs x.1) (h2 : x.2 < zs.length) : (bAt (safB zs r) (numW zs x) = true) ↔ SafeW zs r x := by
  obtain ⟨q, h1, h3, h4⟩ := numW_nat hp hx h2
  rw [h1, safB_at h3, h4]
theorem LInvW.suc {zs : List Int} {r : Nat} {bs : List Bool} (hp : Pos zs) (h : LInvW zs r bs) {x : Wst} (hx : SafeW zs r x) : ∃ j, GoW zs r bs x j := by
  obtain ⟨j, hm, hl2⟩ := hx.step
  have hw := hl2.isW
  obtain ⟨q, h1, h2, h3⟩ := numW_nat hp hw.1 hw.2.1
  refine ⟨j, hm, ?_⟩
  unfold bAt
  rw [h1]
  rw [← h3] at hl2
  simp [h.all q h2 hl2]
theorem LInvW.set {zs : List Int} {r : Nat} {bs : List Bool} (hp : Pos zs) (h : LInvW zs r bs) {q : Nat} (hno : ∀ j, ¬ GoW zs r bs (ofW zs q) j) : LInvW zs r (bs.set q false) where
  len := by rw [List.length_set, h.len]
  all k hk hl := by
    by_cases e : q = k
    · subst e
      obtain ⟨j, hj⟩ := h.suc hp hl
      exact absurd hj (hno j)
    · rw [List.getElem?_set_ne e]; exact h.all k hk hl
  low k hk hb := by
    by_cases e : q = k
    · subst e
      rw [List.getElem?_set_self (by rw [h.len]; exact hk)] at hb
      simp at hb
    · rw [List.getElem?_set_ne e] at hb
      exact h.low k hk hb
open Classical in
theorem LInvW.done {zs : List Int} {r : Nat} {bs : List Bool} (hp : Pos zs) (h : LInvW zs r bs) (hc : ∀ q : Nat, q < cntW zs → bs[q]? = some true → ∃ j, GoW zs r bs (ofW zs q) j) : bs = safB zs r := by
  refine List.ext_getElem (by simp [safB, h.len]) fun q h1 h2 => ?_
  have hn : q < cntW zs := by rw [← h.len]; exact h1
  have e1 : bs[q]? = some bs[q] := List.getElem?_eq_getElem h1
  simp only [safB, List.getElem_map, List.getElem_range]
  by_cases hl : SafeW zs r (ofW zs q)
  · rw [decide_eq_true hl]
    have := h.all q hn hl
    rw [e1] at this
    simpa using this
  · rw [decide_eq_false hl]
    cases hb : bs[q] with
    | false => rfl
    | true =>
      refine absurd ?_ hl
      refine ⟨fun x => IsSt zs x.1 ∧ x.2 < zs.length ∧ bAt bs (numW zs x) = true, ?_, fun x hx => ?_⟩
      · have hw := h.low q hn (by rw [e1, hb])
        obtain ⟨q', g1, g2, g3⟩ := numW_nat hp hw.1 hw.2.1
        refine ⟨hw.1, hw.2.1, ?_⟩
        have hpos : 0 < zs.length := by have := hw.2.1; omega
        have hq : numW zs (ofW zs q) = (q : Int) := by
          unfold numW ofW
          simp only
          rw [numL_ofL hp (Int.natCast_nonneg _) (by rw [cntL_cntN hp]; exact_mod_cast q_div hpos hn)]
          have := Nat.div_add_mod q zs.length
          have e : (q / zs.length) * zs.length + q % zs.length = q := by rw [Nat.mul_comm]; exact this
          exact_mod_cast e
        unfold bAt
        rw [hq]
        simp [e1, hb]
      · obtain ⟨hxs, hx2, hxb⟩ := hx
        obtain ⟨k, k1, k2, k3⟩ := numW_nat hp hxs hx2
        have hm : bs[k]? = some true := by
          unfold bAt at hxb
          rw [k1] at hxb
          cases hv : bs[k]? with
          | none => simp [hv] at hxb
          | some b => simp [hv] at hxb; rw [hxb]
        have hw := h.low k k2 hm
        rw [k3] at hw
        obtain ⟨j, c1, c3⟩ := hc k k2 hm
        rw [k3] at c1 c3
        exact ⟨hw, j, c1, (hw.step c1).1, (hw.step c1).2.1, c3⟩
theorem linvW_start {zs : List Int} (r : Nat) (hp : Pos zs) (hn : 0 < zs.length) : LInvW zs r ((List.range (cntW zs)).map (iwB zs)) := by
  refine ⟨by simp, fun q hq h => ?_, fun q hq h => ?_⟩
  · have := (iwB_iff hp hn q).2 h.isW
    simp [hq, this]
  · simp [hq] at h
    exact (iwB_iff hp hn q).1 h

end Go.Proofs.Ytgndbifcncklgaa
