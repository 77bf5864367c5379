/-
  Turns in which each task has the slots of a class of its gap: they serve, also shifted and repeated. (Mathematics for the laws on harmonic turns.)
-/
import Derived.Test.YtahleajedgehlaaHtP
import Derived.Test.YtahleajedgehlaaRep
import Derived.Test.YtahleajedgehlaaServe
namespace Go.Proofs.Ytahleajedgehlaa
open Go.RowKit Go.Shelf

/-- each task has its turns in the slots of a class of its gap -/
def ClsTurns (zs l : List Int) : Prop :=
  ∀ i, i < zs.length → ∃ r c, r < (nth zs i).toNat ∧ 0 < c ∧ l.length = c * (nth zs i).toNat ∧ ∀ s, s < l.length → (nth l s = (i : Int) ↔ s % (nth zs i).toNat = r)
theorem harm_turns {zs : List Int} (hp : ∀ k, k < zs.length → 1 ≤ nth zs k ∧ nth zs k ≤ 40) (hh : harmB zs = true) {l : List Int} (h : harmT zs = some l) : ClsTurns zs l := (harm_class hp hh h).2.2
theorem class_slots {l : List Int} {i : Int} {r g c : Nat} (hr : r < g) (hl : l.length = c * g) (h : ∀ s, s < l.length → (nth l s = i ↔ s % g = r)) : slotsL l i = (List.range c).map fun j => r + j * g := by
  rw [← filter_class hr c]
  unfold slotsL slotsTo
  rw [hl]
  refine List.filter_congr fun s hs => ?_
  have hs2 : s < c * g := by simpa using hs
  have := h s (by omega)
  by_cases e : s % g = r
  · rw [this.2 e, e, beq_self_eq_true, beq_self_eq_true]
  · have h2 : ¬ nth l s = i := fun h3 => e (this.1 h3)
    rw [show (nth l s == i) = false from beq_eq_false_iff_ne.2 h2, show (s % g == r) = false from beq_eq_false_iff_ne.2 e]
theorem class_great {l : List Int} {i : Int} {r g c : Nat} (hr : r < g) (hc : 0 < c) (hl : l.length = c * g) (h : ∀ s, s < l.length → (nth l s = i ↔ s % g = r)) : greatW l i = (g : Int) := by
  have hs := class_slots hr hl h
  have hcl : (slotsL l i).length = c := by rw [hs]; simp
  have hN : ∀ j, j < c → slotN l i j = r + j * g := fun j hj => by unfold slotN; rw [hs]; simp [hj]
  have hall : ∀ x ∈ waitsL l i, x = (g : Int) := by
    intro x hx
    unfold waitsL at hx
    rw [hcl, if_neg (by omega)] at hx
    rcases List.mem_append.1 hx with hx | hx
    · unfold diffs at hx
      rw [List.mem_map] at hx
      obtain ⟨j, hj, rfl⟩ := hx
      have hj2 : j < c - 1 := by simpa using hj
      rw [hN (j + 1) (by omega), hN j (by omega), Nat.add_mul, Nat.one_mul]
      omega
    · have : x = (slotN l i 0 : Int) + l.length - (slotN l i (c - 1) : Int) := by simpa using hx
      rw [this, hN 0 hc, hN (c - 1) (by omega), hl]
      have : c * g = (c - 1) * g + g := by
        rw [show c = (c - 1) + 1 by omega, Nat.add_mul, Nat.one_mul]; simp
      omega
  have hm : ∀ (xs : List Int), xs ≠ [] → (∀ x ∈ xs, x = (g : Int)) → maxTo xs = (g : Int) := fun xs hne hx => by
    have h1 := maxTo_ge xs
    cases xs with
    | nil => exact absurd rfl hne
    | cons y ys =>
      have hy := hx y (by simp)
      have h2 := h1.2 y (by simp)
      have h3 : ∀ (zs : List Int) (a : Int), (∀ x ∈ zs, x = (g : Int)) → a ≤ g → zs.foldl max a ≤ g := fun zs => by
        induction zs with
        | nil => intro a _ ha; simpa using ha
        | cons z zs ih =>
          intro a hz ha
          have := hz z (by simp)
          exact ih (max a z) (fun x hx => hz x (by simp [hx])) (by omega)
      have h4 := h3 (y :: ys) 0 hx (by omega)
      unfold maxTo at h2 ⊢
      omega
  unfold greatW
  refine hm _ ?_ hall
  intro e
  have := waitsL_length l i
  rw [e, hcl] at this
  simp at this
  omega
theorem turns_great {zs l : List Int} (h : ClsTurns zs l) {i : Nat} (hi : i < zs.length) (hp : 1 ≤ nth zs i) : greatW l (i : Int) = nth zs i := by
  obtain ⟨r, c, hr, hc, hl, hs⟩ := h i hi
  rw [class_great hr hc hl hs]
  omega
theorem turns_serve {zs l : List Int} (h : ClsTurns zs l) (hp : ∀ k, k < zs.length → 1 ≤ nth zs k) : serves zs l = true := by
  unfold serves servesTo
  rw [List.all_eq_true]
  intro i hi
  have hi2 : i < zs.length := by simpa using hi
  rw [turns_great h hi2 (hp i hi2), inB_true]
  have := hp i hi2
  omega
theorem mod_back {a b r g : Nat} (ha : a < g) (hb : b < g) (hr : r < g) : (a + b) % g = r ↔ b = (r + (g - a)) % g := by
  have e1 : (a + b) % g = if a + b < g then a + b else a + b - g := by
    by_cases e : a + b < g
    · rw [if_pos e, Nat.mod_eq_of_lt e]
    · rw [if_neg e, Nat.mod_eq_sub_mod (by omega), Nat.mod_eq_of_lt (by omega)]
  have e2 : (r + (g - a)) % g = if r < a then r + (g - a) else r - a := by
    by_cases e : r < a
    · rw [if_pos e, Nat.mod_eq_of_lt (by omega)]
    · rw [if_neg e, Nat.mod_eq_sub_mod (by omega), Nat.mod_eq_of_lt (by omega)]; omega
  rw [e1, e2]
  split <;> split <;> omega
theorem turns_shift {zs l : List Int} (h : ClsTurns zs l) (h0 : 0 < l.length) {n : Nat} (hn : n ≤ l.length) : ClsTurns zs (shiftL l n) := by
  intro i hi
  obtain ⟨r, c, hr, hc, hl, hs⟩ := h i hi
  obtain ⟨g, hg⟩ : ∃ g, (nth zs i).toNat = g := ⟨_, rfl⟩
  rw [hg] at hr hl hs ⊢
  have hlen := shiftL_length hn
  refine ⟨(r + (g - n % g)) % g, c, Nat.mod_lt _ (by omega), hc, by rw [hlen]; exact hl, fun s hs2 => ?_⟩
  rw [hlen] at hs2
  rw [nth_shiftL hn hs2, hs _ (Nat.mod_lt _ h0), Nat.mod_mod_of_dvd _ ⟨c, by rw [hl, Nat.mul_comm]⟩]
  rw [Nat.add_mod n s g]
  exact mod_back (Nat.mod_lt n (by omega)) (Nat.mod_lt s (by omega)) hr
theorem turns_rep {zs l : List Int} (h : ClsTurns zs l) (h0 : 0 < l.length) {k : Nat} (hk : 0 < k) : ClsTurns zs (repL l k) := by
  intro i hi
  obtain ⟨r, c, hr, hc, hl, hs⟩ := h i hi
  obtain ⟨g, hg⟩ : ∃ g, (nth zs i).toNat = g := ⟨_, rfl⟩
  rw [hg] at hr hl hs ⊢
  have hlen := repL_length l k
  refine ⟨r, k * c, hr, Nat.mul_pos hk hc, by rw [hlen, hl, Nat.mul_assoc], fun s hs2 => ?_⟩
  rw [hlen] at hs2
  rw [nth_repL l k hs2, hs _ (Nat.mod_lt _ h0), Nat.mod_mod_of_dvd _ ⟨c, by rw [hl, Nat.mul_comm]⟩]

end Go.Proofs.Ytahleajedgehlaa
