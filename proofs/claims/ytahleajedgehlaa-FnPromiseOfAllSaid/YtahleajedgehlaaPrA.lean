/-
  What is promised of harmonic turns: they serve, also shifted and repeated; densities; greatest waits. (Mathematics.)
-/
import Derived.Test.YtahleajedgehlaaHtD
import Derived.Test.YtahleajedgehlaaGreat
namespace Go.Proofs.Ytahleajedgehlaa
open Go.RowKit Go.Shelf

theorem htC_zero {zs : List Int} (h : htC zs = 0) : tasksOk zs = true ∧ harmB zs = true ∧ harmT zs = some (htR zs) := by
  unfold htC at h
  cases h1 : tasksOk zs
  · rw [h1] at h; simp at h
  · cases h2 : harmB zs
    · rw [h1, h2] at h; simp at h
    · rw [h1, h2] at h
      cases h3 : harmT zs with
      | none => rw [h3] at h; simp at h
      | some l => exact ⟨rfl, rfl, by unfold htR; rw [h1, h2, h3]; rfl⟩
theorem tasks_bd {zs : List Int} (h : tasksOk zs = true) : ∀ k, k < zs.length → 1 ≤ nth zs k ∧ nth zs k ≤ 40 := fun _ hk => tasksOk_nth h hk
structure Prom (zs l : List Int) : Prop where
  turns : ClsTurns zs l
  pos : 0 < l.length
  le : l.length ≤ 120
  own : ∀ s, s < l.length → nth l s = -1 ∨ ∃ i : Nat, i < zs.length ∧ nth l s = i
theorem prom_ht {zs : List Int} (h : htC zs = 0) : Prom zs (htR zs) := by
  obtain ⟨h1, h2, h3⟩ := htC_zero h
  have hl := tasksOk_len h1
  obtain ⟨a, b, c⟩ := harm_class (tasks_bd h1) h2 h3
  have hs := sortV_pos (tasks_bd h1) (m := zs.length - 1) (by omega)
  unfold lenF at a
  exact ⟨c, by omega, by omega, b⟩
theorem Prom.ok {zs l : List Int} (h : Prom zs l) (n : Int) (hn : zs.length ≤ n) : turnsOk l n = true := by
  unfold turnsOk
  rw [Bool.and_eq_true, inB_true]
  have := h.pos
  have := h.le
  refine ⟨all_true_of fun j hj => ?_, by omega⟩
  rw [inB_true]
  rcases h.own j hj with e | ⟨i, hi, e⟩ <;> omega
theorem Prom.code {zs l : List Int} (h : Prom zs l) (ht : tasksOk zs = true) : codeOf zs l = 0 := by
  unfold codeOf
  rw [ht, h.ok _ (Int.le_refl _)]
  rfl
theorem Prom.serve {zs l : List Int} (h : Prom zs l) (ht : tasksOk zs = true) : serveR zs l = true := by
  unfold serveR
  rw [if_pos (h.code ht)]
  exact turns_serve h.turns fun k hk => (tasks_bd ht k hk).1
theorem Prom.dens {zs l : List Int} (h : Prom zs l) (ht : tasksOk zs = true) : dens2 zs = 0 ∧ 1 ≤ dens1 zs ∧ dens0 zs ≤ dens1 zs ∧ dens1 zs ≤ 5342931457063200 ∧ 0 ≤ dens0 zs := by
  have h1 := turns_dens h.turns ht h.pos
  have hb := natsTo_bd ht zs.length
  have h2 : 0 < densD (natsTo zs zs.length) := lowD_pos (lcmTo_pos fun g hg => (hb g hg).1)
  have h3 := densD_le hb
  unfold dens2 dens1 dens0
  rw [ht, if_pos rfl, if_pos rfl, if_pos rfl]
  exact ⟨rfl, by omega, by omega, by omega, by omega⟩
theorem Prom.mostIs {zs l : List Int} (h : Prom zs l) (ht : tasksOk zs = true) : most l = (zs.length : Int) - 1 := by
  have hl := tasksOk_len ht
  have hm : ∀ k, k ≤ l.length → -1 ≤ mostTo l k ∧ mostTo l k ≤ (zs.length : Int) - 1 ∧ ∀ j, j < k → nth l j ≤ mostTo l k := fun k => by
    induction k with
    | zero => intro _; exact ⟨by simp [mostTo], by simp [mostTo]; omega, by omega⟩
    | succ k ih =>
      intro hk
      have h1 := ih (by omega)
      have h2 := h.own k (by omega)
      rw [mostTo_succ (by omega)]
      refine ⟨by omega, ?_, fun j hj => ?_⟩
      · rcases h2 with e | ⟨i, hi, e⟩ <;> omega
      · by_cases e : j = k
        · subst e; omega
        · have := h1.2.2 j (by omega); omega
  obtain ⟨h1, h2, h3⟩ := hm l.length (Nat.le_refl _)
  obtain ⟨r, c, hr, hc, hL, hs⟩ := h.turns (zs.length - 1) (by omega)
  have hrl : r < l.length := by
    rw [hL]
    exact Nat.lt_of_lt_of_le hr (Nat.le_mul_of_pos_left _ hc)
  have h4 := (hs r hrl).2 (Nat.mod_eq_of_lt hr)
  have h5 := h3 r hrl
  unfold most
  omega
theorem Prom.great {zs l : List Int} (h : Prom zs l) (ht : tasksOk zs = true) : greatC l = 0 ∧ greatR l = zs := by
  have hl := tasksOk_len ht
  have h8 := h.ok 8 (by omega)
  refine ⟨by unfold greatC; rw [h8]; rfl, ?_⟩
  unfold greatR
  rw [h8, if_pos rfl, h.mostIs ht]
  have hn : ((zs.length : Int) - 1 + 1).toNat = zs.length := by omega
  rw [hn]
  refine ext_nth (greatL_length _ _) fun k hk => ?_
  rw [greatL_length] at hk
  have : nth (greatL l zs.length) k = greatW l (k : Int) := by simp [nth, greatL, hk]
  rw [this, turns_great h.turns hk (tasks_bd ht k hk).1]
theorem Prom.shift {zs l : List Int} (h : Prom zs l) {n : Nat} (hn : n ≤ l.length) : Prom zs (shiftL l n) := by
  have hlen := shiftL_length hn
  refine ⟨turns_shift h.turns h.pos hn, by rw [hlen]; exact h.pos, by rw [hlen]; exact h.le, fun s hs => ?_⟩
  rw [hlen] at hs
  rw [nth_shiftL hn hs]
  exact h.own _ (Nat.mod_lt _ h.pos)
theorem Prom.rep {zs l : List Int} (h : Prom zs l) {k : Nat} (hk : 0 < k) (hle : k * l.length ≤ 120) : Prom zs (repL l k) := by
  have hlen := repL_length l k
  refine ⟨turns_rep h.turns h.pos hk, by rw [hlen]; exact Nat.mul_pos hk h.pos, by rw [hlen]; exact hle, fun s hs => ?_⟩
  rw [hlen] at hs
  rw [nth_repL l k hs]
  exact h.own _ (Nat.mod_lt _ h.pos)
/-- turns of any tasks that came out well, shifted and repeated well, serve -/
theorem prom_again {zs : List Int} {x y : Int} (h : htC zs = 0) (h1 : shiftC (htR zs) x = 0) (h2 : repC (shiftR (htR zs) x) y = 0) : Prom zs (repR (shiftR (htR zs) x) y) := by
  have hp := prom_ht h
  have hs : shiftOk (htR zs) x = true := by
    unfold shiftC at h1
    cases e : shiftOk (htR zs) x
    · rw [e] at h1; simp at h1
    · rfl
  have hs2 := hs
  unfold shiftOk at hs2
  rw [Bool.and_eq_true, inB_true] at hs2
  have he : shiftR (htR zs) x = shiftL (htR zs) x.toNat := by unfold shiftR; rw [hs, if_pos rfl]
  have hsh := hp.shift (n := x.toNat) (by omega)
  rw [he] at h2 ⊢
  have h3 := h2
  unfold repC at h3
  cases hr : repOk (shiftL (htR zs) x.toNat) y
  · rw [hr] at h3; simp at h3
  · rw [hr, if_pos rfl] at h3
    have hr2 := hr
    unfold repOk at hr2
    rw [Bool.and_eq_true, inB_true] at hr2
    by_cases hb : 120 < ((shiftL (htR zs) x.toNat).length : Int) * y
    · rw [if_pos hb] at h3; simp at h3
    · have hR : repR (shiftL (htR zs) x.toNat) y = repL (shiftL (htR zs) x.toNat) y.toNat := by unfold repR; rw [if_pos h2]
      rw [hR]
      refine hsh.rep (by omega) ?_
      have hy : ((y.toNat : Nat) : Int) = y := by omega
      have : ((y.toNat * (shiftL (htR zs) x.toNat).length : Nat) : Int) = ((shiftL (htR zs) x.toNat).length : Int) * y := by
        rw [Int.natCast_mul, hy, Int.mul_comm]
      omega

end Go.Proofs.Ytahleajedgehlaa
