/-
  AskMore of both.
  Conditions: lists of at most 1048576 elements.
-/
import Derived.Test.YtoflgfenlbibpaaHar
import Derived.Test.YtoflgfenlbibpaaSort
namespace Go.Proofs.Ytoflgfenlbibpaa
open Go.RowKit Go.Shelf
attribute [local go_sem] Oper.semAt_some

/-- do the first k of us ask for no more? -/
def askTo (zs us : List Int) (k : Nat) : Bool := (List.range k).all fun m => decide (nth (sortV zs) m ≤ nth (sortV us) m)
def askB (zs us : List Int) : Bool := decide (us.length ≤ zs.length) && askTo zs us us.length
def askR (zs us : List Int) : Bool := tasksOk zs && tasksOk us && askB zs us
def askC (zs us : List Int) : Int := if tasksOk zs && tasksOk us then 0 else 1
theorem askTo_zero (zs us : List Int) : askTo zs us 0 = true := rfl
theorem askTo_succ {zs us : List Int} {k : Nat} (h : askTo zs us k = true) (hk : nth (sortV zs) k ≤ nth (sortV us) k) : askTo zs us (k + 1) = true := by
  unfold askTo at h ⊢; rw [List.range_succ, List.all_append, h]; simp [hk]
theorem askB_short {zs us : List Int} (h : zs.length < us.length) : askB zs us = false := by unfold askB; rw [decide_eq_false (by omega)]; rfl
theorem askB_at {zs us : List Int} {m : Nat} (hm : m < us.length) (h : nth (sortV us) m < nth (sortV zs) m) : askB zs us = false := by
  unfold askB askTo
  rw [Bool.and_eq_false_iff]; right
  rw [List.all_eq_false]
  exact ⟨m, by simpa using hm, by simpa using h⟩
theorem askB_yes {zs us : List Int} (hl : us.length ≤ zs.length) (h : askTo zs us us.length = true) : askB zs us = true := by unfold askB; rw [h]; simpa using hl

set_option maxRecDepth 100000 in
set_option maxHeartbeats 8000000 in
theorem i_AskMore (c0 : Value) (zs : List Int) (c1 : Value) (us : List Int) (w : World) (hI : Ints w.heap.size w c0 zs) (_hN : I64s zs) (hm : zs.length ≤ 1048576) (hU : Ints w.heap.size w c1 us) (_hN1 : I64s us) (hm1 : us.length ≤ 1048576) :
    Calls Try.prog 103 #[.agg #[c0], .agg #[c1]] w fun e w' => e = .returned (.tuple #[.bool (askR zs us), .int .i64 (askC zs us)]) ∧ Below w.heap.size w w' := by
  obtain ⟨a, cap, rfl⟩ := hI.shape
  obtain ⟨a2, cap2, rfl⟩ := hU.shape
  go_enter Try.func103, Try.ntmps103
  go_wp2_with fail
  obtain ⟨W0, hW1⟩ : ∃ W0, ((w.alloc (.cells #[.slice a zs.length cap] 26)).alloc (.cells #[.slice a2 us.length cap2] 26)) = W0 := ⟨_, rfl⟩
  have hB1 : Below w.heap.size w W0 := by rw [← hW1]; exact (((Below.refl _ w).alloc (Nat.le_refl _) _).alloc (by simp; try omega) _)
  have hs1 : w.heap.size + 2 ≤ W0.heap.size := by rw [← hW1]; simp
  have bT : Boxed W0 (w.heap.size) 26 (.slice a zs.length cap) := by rw [← hW1]; repeat first | (refine boxed_at ?_; (simp; done)) | refine Boxed.alloc ?_ _
  have bU : Boxed W0 (w.heap.size + 1) 26 (.slice a2 us.length cap2) := by rw [← hW1]; repeat first | (refine boxed_at ?_; (simp; done)) | refine Boxed.alloc ?_ _
  rw [hW1]
  clear hW1
  refine (isTasks_c _ zs _ (hI.later hB1) (by omega)).mono ?_
  rintro e w1 ⟨rfl, hb⟩
  have hB2 := hB1.trans (hb.mono (by omega))
  have hs2 := hb.size
  replace bT := boxed_later bT hb
  replace bU := boxed_later bU hb
  have cT := bT.cell
  have cU := bU.cell
  clear hb hB1
  cases ht : tasksOk zs
  · have Hr := Lib.hid (show askR zs us = false by unfold askR; rw [ht]; rfl)
    have Hc := Lib.hid (show askC zs us = 1 by unfold askC; rw [ht]; rfl)
    clear ht
    go_wp2
    go_ret2
    exact ⟨ret_bc Hr.out.symm Hc.out.symm, hB2⟩
  have Ht := Lib.hid ht
  have hl := tasksOk_len ht
  clear ht
  go_wp2_with fail
  refine (isTasks_c _ us _ (hU.later hB2) (by omega)).mono ?_
  rintro e w2 ⟨rfl, hb⟩
  have hB3 := hB2.trans (hb.mono (by omega))
  have hs3 := hb.size
  replace bT := boxed_later bT hb
  replace bU := boxed_later bU hb
  clear hb hB2 cT cU
  have cT := bT.cell
  have cU := bU.cell
  cases hu : tasksOk us
  · have Hr := Lib.hid (show askR zs us = false by unfold askR; rw [Ht.out, hu]; rfl)
    have Hc := Lib.hid (show askC zs us = 1 by unfold askC; rw [Ht.out, hu]; rfl)
    clear hu
    go_wp2
    go_ret2
    exact ⟨ret_bc Hr.out.symm Hc.out.symm, hB3⟩
  have Hu := Lib.hid hu
  have hlu := tasksOk_len hu
  have Hr := Lib.hid (show askR zs us = askB zs us by unfold askR; rw [Ht.out, hu]; rfl)
  have Hc := Lib.hid (show askC zs us = 0 by unfold askC; rw [Ht.out, hu]; rfl)
  clear hu
  by_cases hlen : zs.length < us.length
  · have Hs := Lib.hid (askB_short hlen)
    go_wp2
    go_ret2
    exact ⟨ret_bc (Hr.out.trans Hs.out).symm Hc.out.symm, hB3⟩
  · have hsw2 := hB3.size
    go_wp2_with fail
    refine (values_c _ _ _ _).mono ?_
    rintro e w4 ⟨rfl, rfl⟩
    obtain ⟨w4, hW4⟩ : ∃ w4, (w2.alloc (.cells #[.slice a zs.length cap] 24)) = w4 := ⟨_, rfl⟩
    have hB4 : Below w2.heap.size w2 w4 := by rw [← hW4]; exact ((Below.refl _ w2).alloc (Nat.le_refl _) _)
    have hs4 : w2.heap.size + 1 ≤ w4.heap.size := by rw [← hW4]; simp
    have bS : Boxed w4 (w2.heap.size) 24 (.slice a zs.length cap) := by rw [← hW4]; repeat first | (refine boxed_at ?_; (simp; done)) | refine Boxed.alloc ?_ _
    rw [hW4]
    clear hW4
    have hB5 := hB3.trans (hB4.mono hB3.size)
    replace bT := boxed_later bT hB4
    replace bU := boxed_later bU hB4
    clear hB4 hB3 cT cU
    have cU := bU.cell
    go_wp2_with fail
    refine (sorted_c w2.heap.size w.heap.size _ zs w4 bS (by omega) (hI.below hB5) (by omega) (by omega)).mono ?_
    rintro e w5 ⟨v1, rfl, ho1, hb⟩
    simp only [id]
    have hB6 := hB5.trans (hb.mono hB5.size)
    have hs6 := hb.size
    replace bU := boxed_later bU hb
    clear hb hB5 cU bS bT
    have cU := bU.cell
    obtain ⟨g1, c1, rfl, hg1, hg1'⟩ := ho1.shape (by rw [sortV_length]; omega)
    rw [sortV_length]
    go_wp2_with fail
    refine (values_c _ _ _ _).mono ?_
    rintro e w6 ⟨rfl, rfl⟩
    obtain ⟨w6, hW7⟩ : ∃ w6, (w5.alloc (.cells #[.slice a2 us.length cap2] 24)) = w6 := ⟨_, rfl⟩
    have hB7 : Below w5.heap.size w5 w6 := by rw [← hW7]; exact ((Below.refl _ w5).alloc (Nat.le_refl _) _)
    have hs7 : w5.heap.size + 1 ≤ w6.heap.size := by rw [← hW7]; simp
    have bS : Boxed w6 (w5.heap.size) 24 (.slice a2 us.length cap2) := by rw [← hW7]; repeat first | (refine boxed_at ?_; (simp; done)) | refine Boxed.alloc ?_ _
    rw [hW7]
    clear hW7
    have hB8 := hB6.trans (hB7.mono hB6.size)
    have ho2 := ho1.below hB7
    clear hB7 hB6 cU
    go_wp2_with fail
    refine (sorted_c w5.heap.size w.heap.size _ us w6 bS (by omega) (hU.below hB8) (by omega) (by omega)).mono ?_
    rintro e w7 ⟨v2, rfl, ho3, hb⟩
    simp only [id]
    have hB9 := hB8.trans (hb.mono hB8.size)
    have ho4 := ho2.below hb
    clear hb hB8 bS
    obtain ⟨g2, c2, rfl, hg2, hg2'⟩ := ho3.shape (by rw [sortV_length]; omega)
    rw [sortV_length]
    have Hlz := Lib.hid (sortV_length zs)
    have Hlu := Lib.hid (sortV_length us)
    rw [sortV_length] at ho4 ho3
    have hlen2 : us.length ≤ zs.length := by omega
    go_wp2
    go_loop [33] (fun i => ∃ k : Nat, k ≤ us.length ∧ i = .int .i64 k ∧ askTo zs us k = true) (fun i => us.length - (intOf i).toNat)
    case atStart => exact ⟨0, Nat.zero_le _, rfl, askTo_zero _ _⟩
    case round =>
      obtain ⟨k, hk, rfl, hak⟩ := hrel
      have Hak := Lib.hid hak
      clear hak
      by_cases hlt : k < us.length
      · have q1 := ho3.cellAt (j := k) (by rw [Hlu.out]; exact hlt)
        have q2 := ho4.cellAt (j := k) (by rw [Hlz.out]; omega)
        have hkz : k < zs.length := by omega
        obtain ⟨x, hx⟩ : ∃ x, nth (sortV us) k = x := ⟨_, rfl⟩
        obtain ⟨y, hy⟩ : ∃ y, nth (sortV zs) k = y := ⟨_, rfl⟩
        have Hx := Lib.hid hx
        have Hy := Lib.hid hy
        rw [hx] at q1
        rw [hy] at q2
        clear hx hy
        by_cases hxy : x < y
        · have Hs := Lib.hid (askB_at (zs := zs) (us := us) hlt (by rw [Hx.out, Hy.out]; exact hxy))
          go_wp2
          go_ret2
          exact ⟨ret_bc (Hr.out.trans Hs.out).symm Hc.out.symm, hB9⟩
        · have Hs := Lib.hid (askTo_succ Hak.out (by rw [Hx.out, Hy.out]; omega))
          go_wp2
          go_round
          case rel => exact ⟨k + 1, by omega, by simp, Hs.out⟩
          case measure => simp [intOf]; omega
      · obtain rfl : k = us.length := by omega
        have Hs := Lib.hid (askB_yes hlen2 Hak.out)
        go_wp2
        go_ret2
        exact ⟨ret_bc (Hr.out.trans Hs.out).symm Hc.out.symm, hB9⟩

set_option maxRecDepth 100000 in
set_option maxHeartbeats 8000000 in
theorem s_AskMore (c0 : Value) (zs : List Int) (c1 : Value) (us : List Int) (w : World) (hI : Ints w.heap.size w c0 zs) (_hN : I64s zs) (hm : zs.length ≤ 1048576) (hU : Ints w.heap.size w c1 us) (_hN1 : I64s us) (hm1 : us.length ≤ 1048576) :
    Calls Try.prog 102 #[.agg #[c0], .agg #[c1]] w fun e w' => e = .returned (.tuple #[.bool (askR zs us), .int .i64 (askC zs us)]) ∧ Below w.heap.size w w' := by
  obtain ⟨a, cap, rfl⟩ := hI.shape
  obtain ⟨a2, cap2, rfl⟩ := hU.shape
  go_enter Try.func102, Try.ntmps102
  go_wp2_with fail
  obtain ⟨W0, hW1⟩ : ∃ W0, ((w.alloc (.cells #[.slice a zs.length cap] 26)).alloc (.cells #[.slice a2 us.length cap2] 26)) = W0 := ⟨_, rfl⟩
  have hB1 : Below w.heap.size w W0 := by rw [← hW1]; exact (((Below.refl _ w).alloc (Nat.le_refl _) _).alloc (by simp; try omega) _)
  have hs1 : w.heap.size + 2 ≤ W0.heap.size := by rw [← hW1]; simp
  have bT : Boxed W0 (w.heap.size) 26 (.slice a zs.length cap) := by rw [← hW1]; repeat first | (refine boxed_at ?_; (simp; done)) | refine Boxed.alloc ?_ _
  have bU : Boxed W0 (w.heap.size + 1) 26 (.slice a2 us.length cap2) := by rw [← hW1]; repeat first | (refine boxed_at ?_; (simp; done)) | refine Boxed.alloc ?_ _
  rw [hW1]
  clear hW1
  refine (l01Is_c _ zs _ (hI.later hB1) (by omega)).mono ?_
  rintro e w1 ⟨rfl, hb⟩
  have hB2 := hB1.trans (hb.mono (by omega))
  have hs2 := hb.size
  replace bT := boxed_later bT hb
  replace bU := boxed_later bU hb
  have cT := bT.cell
  have cU := bU.cell
  clear hb hB1
  cases ht : tasksOk zs
  · have Hr := Lib.hid (show askR zs us = false by unfold askR; rw [ht]; rfl)
    have Hc := Lib.hid (show askC zs us = 1 by unfold askC; rw [ht]; rfl)
    clear ht
    go_wp2
    go_ret2
    exact ⟨ret_bc Hr.out.symm Hc.out.symm, hB2⟩
  have Ht := Lib.hid ht
  have hl := tasksOk_len ht
  clear ht
  go_wp2_with fail
  refine (l01Is_c _ us _ (hU.later hB2) (by omega)).mono ?_
  rintro e w2 ⟨rfl, hb⟩
  have hB3 := hB2.trans (hb.mono (by omega))
  have hs3 := hb.size
  replace bT := boxed_later bT hb
  replace bU := boxed_later bU hb
  clear hb hB2 cT cU
  have cT := bT.cell
  have cU := bU.cell
  cases hu : tasksOk us
  · have Hr := Lib.hid (show askR zs us = false by unfold askR; rw [Ht.out, hu]; rfl)
    have Hc := Lib.hid (show askC zs us = 1 by unfold askC; rw [Ht.out, hu]; rfl)
    clear hu
    go_wp2
    go_ret2
    exact ⟨ret_bc Hr.out.symm Hc.out.symm, hB3⟩
  have Hu := Lib.hid hu
  have hlu := tasksOk_len hu
  have Hr := Lib.hid (show askR zs us = askB zs us by unfold askR; rw [Ht.out, hu]; rfl)
  have Hc := Lib.hid (show askC zs us = 0 by unfold askC; rw [Ht.out, hu]; rfl)
  clear hu
  go_wp2_with fail
  refine (l01Sorted_c _ zs _ (hI.later hB3) (by omega)).mono ?_
  rintro e w4 ⟨u1, v1, mid1, rfl, hu1, hv1, hmid1, hb⟩
  have hB4 := hB3.trans (hb.mono hB3.size)
  have hs4 := hb.size
  have ho1 : OwnI mid1 w4 u1 (sortV zs) := hu1.own
  obtain ⟨g1, c1, rfl, hg1, hg1'⟩ := ho1.shape (by rw [sortV_length]; omega)
  have Hlz := Lib.hid (sortV_length zs)
  rw [sortV_length] at ho1 ⊢
  replace bU := boxed_later bU hb
  clear hb hB3 cT cU bT hv1 hu1
  have cU := (bU.alloc (.cells #[.slice (some ⟨g1, 0, none⟩) zs.length c1] 26)).cell
  have hsw4 := hB4.size
  go_wp2_with fail
  obtain ⟨w5, hW5⟩ : ∃ w5, (w4.alloc (.cells #[.slice (some ⟨g1, 0, none⟩) zs.length c1] 26)) = w5 := ⟨_, rfl⟩
  have hB5 : Below w4.heap.size w4 w5 := by rw [← hW5]; exact ((Below.refl _ w4).alloc (Nat.le_refl _) _)
  have hs5 : w4.heap.size + 1 ≤ w5.heap.size := by rw [← hW5]; simp
  have bA : Boxed w5 (w4.heap.size) 26 (.slice (some ⟨g1, 0, none⟩) zs.length c1) := by rw [← hW5]; repeat first | (refine boxed_at ?_; (simp; done)) | refine Boxed.alloc ?_ _
  rw [hW5]
  clear hW5
  have hB6 := hB4.trans (hB5.mono hB4.size)
  have ho2 := ho1.below hB5
  clear cU hB4 ho1
  refine (l01Sorted_c _ us _ (hU.later hB6) (by omega)).mono ?_
  rintro e w6 ⟨u2, v2, mid2, rfl, hu2, hv2, hmid2, hb⟩
  have hB7 := hB6.trans (hb.mono hB6.size)
  have ho3 := ho2.below hb
  have ho4 : OwnI mid2 w6 u2 (sortV us) := hu2.own
  obtain ⟨g2, c2, rfl, hg2, hg2'⟩ := ho4.shape (by rw [sortV_length]; omega)
  have Hlu := Lib.hid (sortV_length us)
  rw [sortV_length] at ho4 ⊢
  have hs6 := hb.size
  replace bA := boxed_later bA hb
  clear hb hB6 hv2 hu2 hB5
  have cA := (bA.alloc (.cells #[.slice (some ⟨g2, 0, none⟩) us.length c2] 26)).cell
  have hsw6 := hB7.size
  by_cases hlen : zs.length < us.length
  · have Hs := Lib.hid (askB_short hlen)
    go_wp2
    go_ret2
    exact ⟨ret_bc (Hr.out.trans Hs.out).symm Hc.out.symm, hB7.alloc hB7.size _⟩
  have hlen2 : us.length ≤ zs.length := by omega
  go_wp2
  obtain ⟨w8, hW8⟩ : ∃ w8, (w6.alloc (.cells #[.slice (some ⟨g2, 0, none⟩) us.length c2] 26)) = w8 := ⟨_, rfl⟩
  have hB8 : Below w6.heap.size w6 w8 := by rw [← hW8]; exact ((Below.refl _ w6).alloc (Nat.le_refl _) _)
  have hs8 : w6.heap.size + 1 ≤ w8.heap.size := by rw [← hW8]; simp
  have bB : Boxed w8 (w6.heap.size) 26 (.slice (some ⟨g2, 0, none⟩) us.length c2) := by rw [← hW8]; repeat first | (refine boxed_at ?_; (simp; done)) | refine Boxed.alloc ?_ _
  rw [hW8]
  clear hW8
  have hB9 := hB7.trans (hB8.mono hB7.size)
  have ho5 := ho3.below hB8
  have ho6 := ho4.below hB8
  replace bA := boxed_later bA hB8
  have cA := bA.cell
  have cB := bB.cell
  clear hB8 hB7
  go_loopw [10] (fun i wr => ∃ k : Nat, k ≤ us.length ∧ i = .int .i64 k ∧ askTo zs us k = true ∧ Below w8.heap.size w8 wr) (fun i _ => us.length - (intOf i).toNat)
  case atStart => exact ⟨0, Nat.zero_le _, rfl, askTo_zero _ _, Below.refl _ _⟩
  case round =>
    obtain ⟨k, hk, rfl, hak, hbk⟩ := hrel
    have hB10 := hB9.trans (hbk.mono hB9.size)
    replace bA := boxed_later bA hbk
    replace bB := boxed_later bB hbk
    replace ho5 := ho5.below hbk
    replace ho6 := ho6.below hbk
    clear cA cB
    have cA := bA.cell
    have cB := bB.cell
    have Hak := Lib.hid hak
    clear hak
    by_cases hlt : k < us.length
    · have q1 := ho6.cellAt (j := k) (by rw [Hlu.out]; exact hlt)
      have q2 := ho5.cellAt (j := k) (by rw [Hlz.out]; omega)
      have hkz : k < zs.length := by omega
      obtain ⟨x, hx⟩ : ∃ x, nth (sortV us) k = x := ⟨_, rfl⟩
      obtain ⟨y, hy⟩ : ∃ y, nth (sortV zs) k = y := ⟨_, rfl⟩
      have Hx := Lib.hid hx
      have Hy := Lib.hid hy
      rw [hx] at q1
      rw [hy] at q2
      clear hx hy
      by_cases hxy : x < y
      · have Hs := Lib.hid (askB_at (zs := zs) (us := us) hlt (by rw [Hx.out, Hy.out]; exact hxy))
        go_wp2
        go_quiet (fail)
        go_wp2
        go_ret2
        exact ⟨ret_bc (Hr.out.trans Hs.out).symm Hc.out.symm, below_drewN hB10 _⟩
      · have Hs := Lib.hid (askTo_succ Hak.out (by rw [Hx.out, Hy.out]; omega))
        go_wp2
        go_quiet (fail)
        go_wp2
        go_roundw
        case rel => exact ⟨k + 1, by omega, by simp, Hs.out, below_drewN hbk _⟩
        case measure => simp [intOf]; omega
    · obtain rfl : k = us.length := by omega
      have Hs := Lib.hid (askB_yes hlen2 Hak.out)
      go_wp2
      go_ret2
      exact ⟨ret_bc (Hr.out.trans Hs.out).symm Hc.out.symm, hB10⟩

end Go.Proofs.Ytoflgfenlbibpaa
