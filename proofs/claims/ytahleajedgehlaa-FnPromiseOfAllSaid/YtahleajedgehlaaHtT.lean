/-
  HarmonicTurns, TurnsByPowers and TurnsByOne of the model.
  Conditions: lists of at most 1048576 elements.
-/
import Derived.Test.YtahleajedgehlaaHtS
import Derived.Test.YtahleajedgehlaaHtL
namespace Go.Proofs.Ytahleajedgehlaa
open Go.RowKit Go.Shelf
attribute [local go_sem] Oper.semAt_some

theorem htR_len (zs : List Int) : (htR zs).length * 8 ≤ 140737488351232 := by
  unfold htR
  split
  · rename_i h
    rw [Bool.and_eq_true] at h
    split
    · rename_i l hl
      have := harmT_length h.1 hl
      omega
    · simp
  · simp
theorem powL_len {zs : List Int} {x : Int} (ht : tasksOk zs = true) (hx : 1 ≤ x) (hl : ∀ m, m < zs.length → x ≤ nth zs m) : (powL zs x).length * 8 ≤ 140737488351232 := by
  unfold powL
  cases e : powT zs x with
  | none => simp
  | some l => have := harmT_length (lesTo_tasks ht hx hl) e; simp; omega
theorem tbpR_len (zs : List Int) : (tbpR zs).length * 8 ≤ 140737488351232 := by
  unfold tbpR
  split
  · rename_i h
    exact powL_len h (by omega) (fun m hm => (tasksOk_nth h hm).1)
  · simp

theorem oneR_len (zs : List Int) : (oneR zs).length * 8 ≤ 140737488351232 := by
  cases ht : tasksOk zs
  · rw [(one_no ht).2.2]; simp
  · cases h : oneX zs 41 1 with
    | none => rw [(one_none ht h).2.2]; simp
    | some x =>
      rw [(one_some ht h).2.2]
      have := oneX_bd h
      exact powL_len ht (by omega) (leastL_all (by omega))

set_option maxRecDepth 100000 in
set_option maxHeartbeats 8000000 in
theorem s_HarmonicTurns (c0 : Value) (zs : List Int) (w : World) (hI : Ints w.heap.size w c0 zs) (_hN : I64s zs) (hm : zs.length ≤ 1048576) :
    Calls Try.prog 5 #[.agg #[c0]] w (GivesI w (htR zs) fun v => .tuple #[v, .int .i64 (htC zs)]) := by
  obtain ⟨a, cap, rfl⟩ := hI.shape
  go_enter Try.func5, Try.ntmps5
  go_wp2_with fail
  obtain ⟨W0, hW0⟩ : ∃ W0, (w.alloc (.cells #[.slice a zs.length cap] 24)) = W0 := ⟨_, rfl⟩
  have hB0 : Below w.heap.size w W0 := by rw [← hW0]; exact ((Below.refl _ w).alloc (Nat.le_refl _) _)
  have hs0 : w.heap.size + 1 ≤ W0.heap.size := by rw [← hW0]; simp
  have bT : Boxed W0 (w.heap.size) 24 (.slice a zs.length cap) := by rw [← hW0]; repeat first | (refine boxed_at ?_; (simp; done)) | refine Boxed.alloc ?_ _
  rw [hW0]
  clear hW0
  refine (l01Is_c _ zs _ (hI.later hB0) (by omega)).mono ?_
  rintro e w1 ⟨rfl, hb⟩
  have hB1 := hB0.trans (hb.mono hB0.size)
  replace bT := boxed_later bT hb
  clear hb hB0
  have cT := bT.cell
  cases ht : tasksOk zs
  · have Hc := Lib.hid (show htC zs = 1 by unfold htC; rw [ht]; rfl)
    have Hr := Lib.hid (show htR zs = [] by unfold htR; rw [ht]; rfl)
    clear ht
    go_wp2
    go_ret2
    exact ⟨_, by rw [Hc.out]; rfl, by rw [Hr.out]; exact ownI_nil _ _, hB1⟩
  have hl := tasksOk_len ht
  have Ht := Lib.hid ht
  clear ht
  go_wp2_with fail
  refine (l03Harmonic_c _ zs _ (hI.later hB1) Ht.out).mono ?_
  rintro e w2 ⟨rfl, hb⟩
  have hB2 := hB1.trans (hb.mono hB1.size)
  replace bT := boxed_later bT hb
  clear hb hB1 cT
  have cT := bT.cell
  cases hh : harmB zs
  · have Hc := Lib.hid (show htC zs = 5 by unfold htC; rw [Ht.out, hh]; rfl)
    have Hr := Lib.hid (show htR zs = [] by unfold htR; rw [hh, Bool.and_false]; rfl)
    clear hh
    go_wp2
    go_ret2
    exact ⟨_, by rw [Hc.out]; rfl, by rw [Hr.out]; exact ownI_nil _ _, hB2⟩
  have Hh := Lib.hid hh
  clear hh
  go_wp2_with fail
  refine (l03Turns_c _ zs _ (hI.later hB2) Ht.out).mono ?_
  rintro e w3 ⟨v, rfl, ho, hb⟩
  have hB3 := hB2.trans (hb.mono hB2.size)
  have hs2 := hB2.size
  clear hb hB2 cT
  cases hr : harmT zs with
  | none =>
    have Hc := Lib.hid (show htC zs = 4 by unfold htC; rw [Ht.out, Hh.out, hr]; rfl)
    have Hr := Lib.hid (show htR zs = [] by unfold htR; rw [Ht.out, Hh.out, hr]; rfl)
    simp only [hr, Option.isSome_none, Option.getD_none] at ho ⊢
    clear hr
    go_wp2
    go_ret2
    exact ⟨_, by rw [Hc.out]; rfl, by rw [Hr.out]; exact ownI_nil _ _, hB3⟩
  | some l =>
    have Hc := Lib.hid (show htC zs = 0 by unfold htC; rw [Ht.out, Hh.out, hr]; rfl)
    have Hr := Lib.hid (show htR zs = l by unfold htR; rw [Ht.out, Hh.out, hr]; rfl)
    simp only [hr, Option.isSome_some, Option.getD_some] at ho ⊢
    clear hr
    go_wp2
    go_ret2
    exact ⟨_, by rw [Hc.out]; rfl, by rw [Hr.out]; exact ho.base (by omega), hB3⟩

end Go.Proofs.Ytahleajedgehlaa
