/-
  Tasks whose turns are classes of their gaps have a density of at most 1. (Mathematics for the laws on harmonic turns.)
-/
import Derived.Test.YtahleajedgehlaaHtQ
import Derived.Test.YtahleajedgehlaaDens
namespace Go.Proofs.Ytahleajedgehlaa
open Go.RowKit Go.Shelf

theorem sum_ones (x : Int) (n : Nat) : ((List.range n).map fun (i : Nat) => if x = (i : Int) then 1 else 0).sum ≤ 1 ∧ ((∀ i : Nat, i < n → x ≠ (i : Int)) → ((List.range n).map fun (i : Nat) => if x = (i : Int) then 1 else 0).sum = 0) := by
  induction n with
  | zero => simp
  | succ n ih =>
    rw [List.range_succ, List.map_append, List.sum_append]
    by_cases e : x = (n : Int)
    · have h0 := ih.2 (fun i hi => by omega)
      refine ⟨by rw [h0]; simp [e], fun h => absurd e (h n (by omega))⟩
    · refine ⟨by have := ih.1; simp [e]; exact this, fun h => by rw [ih.2 (fun i hi => h i (by omega))]; simp [e]⟩
theorem sum_add (n : Nat) (f g : Nat → Nat) : ((List.range n).map fun i => f i + g i).sum = ((List.range n).map f).sum + ((List.range n).map g).sum := by
  induction n with
  | zero => simp
  | succ n ih => rw [List.range_succ, List.map_append, List.map_append, List.map_append, List.sum_append, List.sum_append, List.sum_append, ih]; simp; omega
theorem slots_sum (l : List Int) (n k : Nat) : ((List.range n).map fun (i : Nat) => (slotsTo l (i : Int) k).length).sum ≤ k := by
  induction k with
  | zero =>
    have : ((List.range n).map fun (i : Nat) => (slotsTo l (i : Int) 0).length) = (List.range n).map fun _ => 0 := rfl
    rw [this]
    clear this
    induction n with
    | zero => simp
    | succ n ih => rw [List.range_succ, List.map_append, List.sum_append]; simpa using ih
  | succ k ih =>
    have h1 : ∀ i : Nat, (slotsTo l (i : Int) (k + 1)).length = (slotsTo l (i : Int) k).length + (if nth l k = (i : Int) then 1 else 0) := fun i => by
      by_cases e : nth l k = (i : Int)
      · rw [slotsTo_yes e, if_pos e]; simp
      · rw [slotsTo_no e, if_neg e]; simp
    have h2 : ((List.range n).map fun (i : Nat) => (slotsTo l (i : Int) (k + 1)).length) = (List.range n).map fun (i : Nat) => (slotsTo l (i : Int) k).length + (if nth l k = (i : Int) then 1 else 0) := List.map_congr_left fun i _ => h1 i
    rw [h2, sum_add]
    have h3 := (sum_ones (nth l k) n).1
    omega
theorem sumTo_natsTo (zs : List Int) (L : Nat) : ∀ k, k ≤ zs.length → sumTo (natsTo zs k) L = ((List.range k).map fun i => L / (nth zs i).toNat).sum
  | 0, _ => by simp [natsTo, sumTo]
  | k + 1, h => by
    rw [natsTo_succ (by omega), sumTo_snoc, sumTo_natsTo zs L k (by omega), List.range_succ, List.map_append, List.sum_append]
    simp
/-- THE DENSITY IS AT MOST 1. -/
theorem turns_dens {zs l : List Int} (h : ClsTurns zs l) (ht : tasksOk zs = true) (h0 : 0 < l.length) : densN (natsTo zs zs.length) ≤ densD (natsTo zs zs.length) := by
  have hbd := natsTo_bd ht zs.length
  have hlpos : 0 < lcmTo (natsTo zs zs.length) := lcmTo_pos fun g hg => (hbd g hg).1
  have hdiv : ∀ g ∈ natsTo zs zs.length, g ∣ l.length := fun g hg => by
    unfold natsTo at hg
    rw [List.take_length, List.mem_map] at hg
    obtain ⟨z, hz, rfl⟩ := hg
    obtain ⟨i, hi, rfl⟩ := List.getElem_of_mem hz
    obtain ⟨r, c, _, _, hl, _⟩ := h i hi
    rw [nth_lt hi] at hl
    exact ⟨c, by rw [hl, Nat.mul_comm]⟩
  obtain ⟨c, hc⟩ := lcmTo_dvd hdiv
  have hcpos : 0 < c := by
    rcases Nat.eq_zero_or_pos c with e | e
    · subst e; omega
    · exact e
  have hsum : sumTo (natsTo zs zs.length) l.length ≤ l.length := by
    rw [sumTo_natsTo zs _ _ (Nat.le_refl _)]
    have h1 : ((List.range zs.length).map fun i => l.length / (nth zs i).toNat) = (List.range zs.length).map fun (i : Nat) => (slotsTo l (i : Int) l.length).length := List.map_congr_left fun i hi => by
      obtain ⟨r, c, hr, _, hl, hs⟩ := h i (by simpa using hi)
      have h2 := class_slots hr hl hs
      unfold slotsL at h2
      rw [h2, List.length_map, List.length_range]
      exact Nat.div_eq_of_eq_mul_left (by omega) hl
    rw [h1]
    exact slots_sum l zs.length l.length
  rw [hc, sumTo_scale _ _ c (fun g hg => dvd_lcmTo hg)] at hsum
  have hle : sumTo (natsTo zs zs.length) (lcmTo (natsTo zs zs.length)) ≤ lcmTo (natsTo zs zs.length) := Nat.le_of_mul_le_mul_right hsum hcpos
  unfold densN densD lowN lowD
  exact Nat.div_le_div_right hle

end Go.Proofs.Ytahleajedgehlaa
