/-
  HarmonicTurns, TurnsByPowers and TurnsByOne of the model.
  Conditions: lists of at most 1048576 elements.
-/
import Derived.Test.YtjgkdjnpbocnjaaHtS
import Derived.Test.YtjgkdjnpbocnjaaHtL
namespace Go.Proofs.Ytjgkdjnpbocnjaa
open Go.RowKit Go.Shelf
attribute [local go_sem] Oper.semAt_some

theorem htR_len (zs : List Int) : (htR zs).length * 8 ≤ 140737488351232 := by
  unfold htR
  split
  · rename_i h
    rw [Bool.and_eq_true] at h
    split
    · rename_i l hl
      have := harmT_length h.1 hl
      omega
    · simp
  · simp
theorem powL_len {zs : List Int} {x : Int} (ht : tasksOk zs = true) (hx : 1 ≤ x) (hl : ∀ m, m < zs.length → x ≤ nth zs m) : (powL zs x).length * 8 ≤ 140737488351232 := by
  unfold powL
  cases e : powT zs x with
  | none => simp
  | some l => have := harmT_length (lesTo_tasks ht hx hl) e; simp; omega
theorem tbpR_len (zs : List Int) : (tbpR zs).length * 8 ≤ 140737488351232 := by
  unfold tbpR
  split
  · rename_i h
    exact powL_len h (by omega) (fun m hm => (tasksOk_nth h hm).1)
  · simp

theorem oneR_len (zs : List Int) : (oneR zs).length * 8 ≤ 140737488351232 := by
  cases ht : tasksOk zs
  · rw [(one_no ht).2.2]; simp
  · cases h : oneX zs 41 1 with
    | none => rw [(one_none ht h).2.2]; simp
    | some x =>
      rw [(one_some ht h).2.2]
      have := oneX_bd h
      exact powL_len ht (by omega) (leastL_all (by omega))

set_option maxRecDepth 100000 in
set_option maxHeartbeats 8000000 in
theorem s_HarmonicTurns (c0 : Value) (zs : List Int) (w : World) (hI : Ints w.heap.size w c0 zs) (_hN : I64s zs) (hm : zs.length ≤ 1048576) :
    Calls Try.prog 29 #[.agg #[c0]] w (GivesI w (htR zs) fun v => .tuple #[v, .int .i64 (htC zs)]) := by
  obtain ⟨a, cap, rfl⟩ := hI.shape
  go_enter Try.func29, Try.ntmps29
  go_wp2_with fail
  obtain ⟨W0, hW0⟩ : ∃ W0, (w.alloc (.cells #[.slice a zs.length cap] 39)) = W0 := ⟨_, rfl⟩
  have hB0 : Below w.heap.size w W0 := by rw [← hW0]; exact ((Below.refl _ w).alloc (Nat.le_refl _) _)
  have hs0 : w.heap.size + 1 ≤ W0.heap.size := by rw [← hW0]; simp
  have bT : Boxed W0 (w.heap.size) 39 (.slice a zs.length cap) := by rw [← hW0]; repeat first | (refine boxed_at ?_; (simp; done)) | refine Boxed.alloc ?_ _
  rw [hW0]
  clear hW0
  refine (l01Is_c _ zs _ (hI.later hB0) (by omega)).mono ?_
  rintro e w1 ⟨rfl, hb⟩
  have hB1 := hB0.trans (hb.mono hB0.size)
  replace bT := boxed_later bT hb
  clear hb hB0
  have cT := bT.cell
  cases ht : tasksOk zs
  · have Hc := Lib.hid (show htC zs = 1 by unfold htC; rw [ht]; rfl)
    have Hr := Lib.hid (show htR zs = [] by unfold htR; rw [ht]; rfl)
    clear ht
    go_wp2
    go_ret2
    exact ⟨_, by rw [Hc.out]; rfl, by rw [Hr.out]; exact ownI_nil _ _, hB1⟩
  have hl := tasksOk_len ht
  have Ht := Lib.hid ht
  clear ht
  go_wp2_with fail
  refine (l03Harmonic_c _ zs _ (hI.later hB1) Ht.out).mono ?_
  rintro e w2 ⟨rfl, hb⟩
  have hB2 := hB1.trans (hb.mono hB1.size)
  replace bT := boxed_later bT hb
  clear hb hB1 cT
  have cT := bT.cell
  cases hh : harmB zs
  · have Hc := Lib.hid (show htC zs = 5 by unfold htC; rw [Ht.out, hh]; rfl)
    have Hr := Lib.hid (show htR zs = [] by unfold htR; rw [hh, Bool.and_false]; rfl)
    clear hh
    go_wp2
    go_ret2
    exact ⟨_, by rw [Hc.out]; rfl, by rw [Hr.out]; exact ownI_nil _ _, hB2⟩
  have Hh := Lib.hid hh
  clear hh
  go_wp2_with fail
  refine (l03Turns_c _ zs _ (hI.later hB2) Ht.out).mono ?_
  rintro e w3 ⟨v, rfl, ho, hb⟩
  have hB3 := hB2.trans (hb.mono hB2.size)
  have hs2 := hB2.size
  clear hb hB2 cT
  cases hr : harmT zs with
  | none =>
    have Hc := Lib.hid (show htC zs = 4 by unfold htC; rw [Ht.out, Hh.out, hr]; rfl)
    have Hr := Lib.hid (show htR zs = [] by unfold htR; rw [Ht.out, Hh.out, hr]; rfl)
    simp only [hr, Option.isSome_none, Option.getD_none] at ho ⊢
    clear hr
    go_wp2
    go_ret2
    exact ⟨_, by rw [Hc.out]; rfl, by rw [Hr.out]; exact ownI_nil _ _, hB3⟩
  | some l =>
    have Hc := Lib.hid (show htC zs = 0 by unfold htC; rw [Ht.out, Hh.out, hr]; rfl)
    have Hr := Lib.hid (show htR zs = l by unfold htR; rw [Ht.out, Hh.out, hr]; rfl)
    simp only [hr, Option.isSome_some, Option.getD_some] at ho ⊢
    clear hr
    go_wp2
    go_ret2
    exact ⟨_, by rw [Hc.out]; rfl, by rw [Hr.out]; exact ho.base (by omega), hB3⟩

set_option maxRecDepth 100000 in
set_option maxHeartbeats 8000000 in
theorem s_TurnsByPowers (c0 : Value) (zs : List Int) (w : World) (hI : Ints w.heap.size w c0 zs) (_hN : I64s zs) (hm : zs.length ≤ 1048576) :
    Calls Try.prog 31 #[.agg #[c0]] w (GivesI w (tbpR zs) fun v => .tuple #[v, .int .i64 (tbpC zs)]) := by
  obtain ⟨a, cap, rfl⟩ := hI.shape
  go_enter Try.func31, Try.ntmps31
  go_wp2_with fail
  obtain ⟨W0, hW0⟩ : ∃ W0, (w.alloc (.cells #[.slice a zs.length cap] 39)) = W0 := ⟨_, rfl⟩
  have hB0 : Below w.heap.size w W0 := by rw [← hW0]; exact ((Below.refl _ w).alloc (Nat.le_refl _) _)
  have hs0 : w.heap.size + 1 ≤ W0.heap.size := by rw [← hW0]; simp
  have bT : Boxed W0 (w.heap.size) 39 (.slice a zs.length cap) := by rw [← hW0]; repeat first | (refine boxed_at ?_; (simp; done)) | refine Boxed.alloc ?_ _
  rw [hW0]
  clear hW0
  refine (l01Is_c _ zs _ (hI.later hB0) (by omega)).mono ?_
  rintro e w1 ⟨rfl, hb⟩
  have hB1 := hB0.trans (hb.mono hB0.size)
  replace bT := boxed_later bT hb
  clear hb hB0
  have cT := bT.cell
  cases ht : tasksOk zs
  · have Hc := Lib.hid (show tbpC zs = 1 by unfold tbpC; rw [ht]; rfl)
    have Hr := Lib.hid (show tbpR zs = [] by unfold tbpR; rw [ht]; rfl)
    clear ht
    go_wp2
    go_ret2
    exact ⟨_, by rw [Hc.out]; rfl, by rw [Hr.out]; exact ownI_nil _ _, hB1⟩
  have hl := tasksOk_len ht
  have Hc := Lib.hid (show tbpC zs = powC zs 1 by unfold tbpC; rw [ht]; rfl)
  have Hr := Lib.hid (show tbpR zs = powL zs 1 by unfold tbpR; rw [ht]; rfl)
  have hge : ∀ m, m < zs.length → 1 ≤ nth zs m := fun m hm => (tasksOk_nth ht hm).1
  have hok := lesOk_yes (zs := zs) (x := 1) (by omega) hge
  have Hlt := Lib.hid (lesTo_tasks ht (Int.le_refl 1) hge)
  have hv : lesV zs 1 = lesTo 1 zs zs.length := by unfold lesV; rw [hok]; rfl
  have Hv := Lib.hid hv
  have Hok := Lib.hid hok
  have Ht := Lib.hid ht
  clear ht hge hok hv
  go_wp2_with fail
  refine (l03Lessened_c _ zs 1 _ (hI.later hB1) Ht.out (by omega)).mono ?_
  rintro e w2 ⟨u, rfl, ho, hb⟩
  rw [Hok.out]
  rw [Hv.out] at ho
  have hB2 := hB1.trans (hb.mono hB1.size)
  have hs1 := hB1.size
  obtain ⟨au, cu, eu⟩ := ho.ints.shape
  rw [lesTo_length] at eu
  subst eu
  have hu := ho.ints
  clear hb hB1 cT ho
  go_wp2_with fail
  obtain ⟨W3, hW3⟩ : ∃ W3, (w2.alloc (.cells #[.slice au zs.length cu] 39)) = W3 := ⟨_, rfl⟩
  have hB3 : Below w2.heap.size w2 W3 := by rw [← hW3]; exact ((Below.refl _ w2).alloc (Nat.le_refl _) _)
  have hs3 : w2.heap.size + 1 ≤ W3.heap.size := by rw [← hW3]; simp
  have bO : Boxed W3 (w2.heap.size) 39 (.slice au zs.length cu) := by rw [← hW3]; repeat first | (refine boxed_at ?_; (simp; done)) | refine Boxed.alloc ?_ _
  rw [hW3]
  clear hW3
  have hB4 := hB2.trans (hB3.mono hB2.size)
  have hu3 : Ints W3.heap.size W3 (.slice au (lesTo 1 zs zs.length).length cu) (lesTo 1 zs zs.length) := by rw [lesTo_length]; exact hu.later hB3
  rw [lesTo_length] at hu3
  refine (l03Turns_c _ (lesTo 1 zs zs.length) _ hu3 Hlt.out).mono ?_
  rintro e w4 ⟨v, rfl, ho, hb⟩
  have hB5 := hB4.trans (hb.mono hB4.size)
  have hs4 := hB4.size
  clear hb hB2 hB3 hB4 bO bT hu hu3
  cases hr : harmT (lesTo 1 zs zs.length) with
  | none =>
    have Hc2 := Lib.hid (show powC zs 1 = 4 by unfold powC powT; rw [hr])
    have Hr2 := Lib.hid (show powL zs 1 = [] by unfold powL powT; rw [hr]; rfl)
    simp only [hr, Option.isSome_none, Option.getD_none] at ho ⊢
    clear hr
    go_wp2
    go_ret2
    exact ⟨_, by rw [Hc.out, Hc2.out]; rfl, by rw [Hr.out, Hr2.out]; exact ownI_nil _ _, hB5⟩
  | some l =>
    have Hc2 := Lib.hid (show powC zs 1 = 0 by unfold powC powT; rw [hr])
    have Hr2 := Lib.hid (show powL zs 1 = l by unfold powL powT; rw [hr]; rfl)
    simp only [hr, Option.isSome_some, Option.getD_some] at ho ⊢
    clear hr
    go_wp2
    go_ret2
    exact ⟨_, by rw [Hc.out, Hc2.out]; rfl, by rw [Hr.out, Hr2.out]; exact ho.base (by omega), hB5⟩

set_option maxRecDepth 100000 in
set_option maxHeartbeats 8000000 in
theorem s_TurnsByOne (c0 : Value) (zs : List Int) (w : World) (hI : Ints w.heap.size w c0 zs) (_hN : I64s zs) (hm : zs.length ≤ 1048576) :
    Calls Try.prog 33 #[.agg #[c0]] w (GivesI w (oneR zs) fun v => .tuple #[v, .int .i64 (oneV zs), .int .i64 (oneC zs)]) := by
  obtain ⟨a, cap, rfl⟩ := hI.shape
  go_enter Try.func33, Try.ntmps33
  go_wp2_with fail
  obtain ⟨W0, hW0⟩ : ∃ W0, (w.alloc (.cells #[.slice a zs.length cap] 39)) = W0 := ⟨_, rfl⟩
  have hB0 : Below w.heap.size w W0 := by rw [← hW0]; exact ((Below.refl _ w).alloc (Nat.le_refl _) _)
  have hs0 : w.heap.size + 1 ≤ W0.heap.size := by rw [← hW0]; simp
  have bT : Boxed W0 (w.heap.size) 39 (.slice a zs.length cap) := by rw [← hW0]; repeat first | (refine boxed_at ?_; (simp; done)) | refine Boxed.alloc ?_ _
  rw [hW0]
  clear hW0
  refine (l01Is_c _ zs _ (hI.later hB0) (by omega)).mono ?_
  rintro e w1 ⟨rfl, hb⟩
  have hB1 := hB0.trans (hb.mono hB0.size)
  replace bT := boxed_later bT hb
  clear hb hB0
  have cT := bT.cell
  cases ht : tasksOk zs
  · obtain ⟨hc, hv, hr⟩ := one_no ht
    have Hc := Lib.hid hc
    have Hv := Lib.hid hv
    have Hr := Lib.hid hr
    clear ht hc hv hr
    go_wp2
    go_ret3
    exact ⟨_, by rw [Hc.out, Hv.out]; rfl, by rw [Hr.out]; exact ownI_nil _ _, hB1⟩
  have hl := tasksOk_len ht
  have Hll := Lib.hid (leastL_40 ht)
  have Ht := Lib.hid ht
  clear ht cT
  go_wp2_with fail
  go_loopw [5] (fun i wr => ∃ (n : Nat) (x : Int), i = .int .i64 x ∧ 1 ≤ x ∧ x ≤ 41 ∧ 41 < x + n ∧ oneX zs 41 1 = oneX zs n x ∧ Boxed wr w.heap.size 39 (.slice a zs.length cap) ∧ Below w.heap.size w wr) (fun i _ => 41 - (intOf i).toNat)
  case atStart => exact ⟨41, 1, rfl, by omega, by omega, by omega, rfl, bT, hB1⟩
  case round =>
    obtain ⟨n, x, rfl, hx1, hx2, hn, hex, bT2, hB2⟩ := hrel
    clear bT hB1
    have Hex := Lib.hid hex
    have cT := bT2.cell
    clear hex
    have hs2 := hB2.size
    go_wp2_with fail
    refine (l03Lessened_c _ zs x _ (hI.later hB2) Ht.out (by omega)).mono ?_
    rintro e w3 ⟨u, rfl, ho, hb⟩
    have hB3 := hB2.trans (hb.mono hB2.size)
    replace bT2 := boxed_later bT2 hb
    clear hb hB2 cT
    by_cases hle : x ≤ leastL zs
    · have hok : lesOk zs x = true := decide_eq_true hle
      have hv : lesV zs x = lesTo x zs zs.length := by unfold lesV; rw [hok]; rfl
      rw [hok]
      rw [hv] at ho
      have Hlt := Lib.hid (lesTo_tasks Ht.out hx1 (leastL_all hle))
      have hs3 := hB3.size
      have hx40 := Hll.out
      obtain ⟨n, rfl⟩ : ∃ n', n = n' + 1 := ⟨n - 1, by omega⟩
      obtain ⟨au, cu, eu⟩ := ho.ints.shape
      rw [lesTo_length] at eu
      subst eu
      have hu := ho.ints
      clear ho hok hv
      go_wp2_with fail
      obtain ⟨W4, hW4⟩ : ∃ W4, (w3.alloc (.cells #[.slice au zs.length cu] 39)) = W4 := ⟨_, rfl⟩
      have hB4 : Below w3.heap.size w3 W4 := by rw [← hW4]; exact ((Below.refl _ w3).alloc (Nat.le_refl _) _)
      have hs4 : w3.heap.size + 1 ≤ W4.heap.size := by rw [← hW4]; simp
      have bO : Boxed W4 (w3.heap.size) 39 (.slice au zs.length cu) := by rw [← hW4]; repeat first | (refine boxed_at ?_; (simp; done)) | refine Boxed.alloc ?_ _
      rw [hW4]
      clear hW4
      have hB5 := hB3.trans (hB4.mono hB3.size)
      have hu3 : Ints W4.heap.size W4 (.slice au (lesTo x zs zs.length).length cu) (lesTo x zs zs.length) := by rw [lesTo_length]; exact hu.later hB4
      rw [lesTo_length] at hu3
      replace bT2 := boxed_later bT2 hB4
      refine (l03Turns_c _ (lesTo x zs zs.length) _ hu3 Hlt.out).mono ?_
      rintro e w5 ⟨v, rfl, ho, hb⟩
      have hB6 := hB5.trans (hb.mono hB5.size)
      have hs5 := hB5.size
      replace bT2 := boxed_later bT2 hb
      clear hb hB3 hB4 hB5 bO hu hu3
      cases hr : harmT (lesTo x zs zs.length) with
      | none =>
        have Hex2 := Lib.hid (Hex.out.trans (oneX_none hle hr))
        simp only [hr, Option.isSome_none, Option.getD_none] at ho ⊢
        clear hr
        go_wp2
        go_roundw
        case rel => exact ⟨n, x + 1, by simp, by omega, by omega, by omega, Hex2.out, bT2, hB6⟩
        case measure => simp [intOf]; omega
      | some l =>
        obtain ⟨hc, hv, hr2⟩ := one_some Ht.out (Hex.out.trans (oneX_some hle hr))
        have Hc := Lib.hid hc
        have Hv := Lib.hid hv
        have Hr := Lib.hid (show oneR zs = l by rw [hr2]; unfold powL powT; rw [hr]; rfl)
        simp only [hr, Option.isSome_some, Option.getD_some] at ho ⊢
        clear hr hc hv hr2
        go_wp2
        go_ret3
        exact ⟨_, by rw [Hc.out, Hv.out]; rfl, by rw [Hr.out]; exact ho.base (by omega), hB6⟩
    · have hok : lesOk zs x = false := decide_eq_false hle
      obtain ⟨hc, hv, hr⟩ := one_none Ht.out (Hex.out.trans (oneX_stop hle))
      have Hc := Lib.hid hc
      have Hv := Lib.hid hv
      have Hr := Lib.hid hr
      rw [hok]
      obtain ⟨au, cu, rfl⟩ := ho.ints.shape
      clear hok hc hv hr
      go_wp2
      go_ret3
      exact ⟨_, by rw [Hc.out, Hv.out]; rfl, by rw [Hr.out]; exact ownI_nil _ _, hB3.alloc hB3.size _⟩

end Go.Proofs.Ytjgkdjnpbocnjaa
