/-
  The model's list of states that are lasting on m channels.
  Conditions: tasks with at most 4000 states.
-/
import Derived.Test.YtgndbifcncklgaaCsf
namespace Go.Proofs.Ytgndbifcncklgaa
open Go.RowKit Go.Shelf
attribute [local go_sem] Oper.semAt_some

structure LInvS (zs : List Int) (m : Int) (bs : List Bool) : Prop where
  len : bs.length = cntN zs
  all : ∀ n : Nat, n < cntN zs → LastS zs m (ofL zs n) → bs[n]? = some true
open Classical in
noncomputable def lastSB (zs : List Int) (m : Int) : List Bool := (List.range (cntN zs)).map fun n : Nat => decide (LastS zs m (ofL zs n))
theorem LInvS.suc {zs : List Int} {m : Int} {bs : List Bool} (hp : Pos zs) (h : LInvS zs m bs) {st : List Int} (hs : IsSt zs st) (hl : LastS zs m st) : ∃ s, GoS zs m bs st s := by
  obtain ⟨s, hc, ho, hl2⟩ := lastS_step hl
  obtain ⟨k, h1, h2, h3⟩ := num_nat hp (hs.stepS ho)
  refine ⟨s, hc, ho, ?_⟩
  unfold bAt
  rw [h1]
  rw [← h3] at hl2
  simp [h.all k h2 hl2]
theorem LInvS.set {zs : List Int} {m : Int} {bs : List Bool} (hp : Pos zs) (h : LInvS zs m bs) {n : Nat} (hno : ∀ s, ¬ GoS zs m bs (ofL zs n) s) : LInvS zs m (bs.set n false) where
  len := by rw [List.length_set, h.len]
  all k hk hl := by
    by_cases e : n = k
    · subst e
      obtain ⟨s, hs⟩ := h.suc hp (isSt_ofL hp _) hl
      exact absurd hs (hno s)
    · rw [List.getElem?_set_ne e]; exact h.all k hk hl
open Classical in
theorem LInvS.done {zs : List Int} {m : Int} {bs : List Bool} (hp : Pos zs) (h : LInvS zs m bs) (hc : ∀ n : Nat, n < cntN zs → bs[n]? = some true → ∃ s, GoS zs m bs (ofL zs n) s) : bs = lastSB zs m := by
  refine List.ext_getElem (by simp [lastSB, h.len]) fun n h1 h2 => ?_
  have hn : n < cntN zs := by rw [← h.len]; exact h1
  have e1 : bs[n]? = some bs[n] := List.getElem?_eq_getElem h1
  simp only [lastSB, List.getElem_map, List.getElem_range]
  by_cases hl : LastS zs m (ofL zs n)
  · rw [decide_eq_true hl]
    have := h.all n hn hl
    rw [e1] at this
    simpa using this
  · rw [decide_eq_false hl]
    cases hb : bs[n] with
    | false => rfl
    | true =>
      refine absurd ?_ hl
      refine ⟨fun st => IsSt zs st ∧ bAt bs (numL zs st) = true, ⟨isSt_ofL hp _, ?_⟩, fun x hx => ?_⟩
      · unfold bAt
        rw [numL_ofL hp (by omega) (by rw [cntL_cntN hp]; omega)]
        simp [e1, hb]
      · obtain ⟨hxs, hxb⟩ := hx
        obtain ⟨k, k1, k2, k3⟩ := num_nat hp hxs
        have hm : bs[k]? = some true := by
          unfold bAt at hxb
          rw [k1] at hxb
          cases hv : bs[k]? with
          | none => simp [hv] at hxb
          | some b => simp [hv] at hxb; rw [hxb]
        obtain ⟨s, c1, c2, c3⟩ := hc k k2 hm
        rw [k3] at c2 c3
        exact ⟨s, c1, c2, hxs.stepS c2, c3⟩
theorem linvS_start (zs : List Int) (m : Int) : LInvS zs m (List.replicate (cntN zs) true) := ⟨by simp, fun n hn _ => by simp [hn]⟩
theorem lastSB_at {zs : List Int} {m : Int} {n : Nat} (h : n < cntN zs) : (bAt (lastSB zs m) (n : Int) = true) ↔ LastS zs m (ofL zs n) := by
  unfold bAt lastSB
  simp [h]

theorem ownI_ne_ownB {B B' b n c : Nat} {W : World} {v : Value} {xs : List Int} {bs : List Bool} (h : OwnI B W v xs) (hb : OwnB B' W (.slice (some ⟨b, 0, none⟩) n c) bs) : v.ownBlock ≠ some b := by
  intro e
  obtain ⟨_, h2⟩ := h
  obtain ⟨_, h3⟩ := hb
  rcases h2 with ⟨rfl, _⟩ | ⟨g, cap, cur, rfl, _, hh, _⟩
  · simp [Value.ownBlock] at e
  · obtain rfl : g = b := by simpa [Value.ownBlock] using e
    rcases h3 with ⟨e3, _⟩ | ⟨g3, cap3, cur3, e3, _, hh3, _⟩
    · simp at e3
    · simp only [Value.slice.injEq, Option.some.injEq, Addr.mk.injEq, and_true] at e3
      obtain ⟨rfl, -, rfl⟩ := e3
      have := hh.symm.trans hh3
      simp at this

theorem OwnB.below9 {B : Nat} {W W' : World} {v : Value} {bs : List Bool} (h : OwnB B W v bs) (hb : Below W.heap.size W W') : OwnB B W' v bs := h.below hb

end Go.Proofs.Ytgndbifcncklgaa
