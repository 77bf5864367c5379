/-
  KeepingChoices of the model.
  Conditions: lists of at most 1048576 elements.
-/
import Derived.Test.YthggpmgjgibcoaaTopS
import Derived.Test.YthggpmgjgibcoaaKeepI
namespace Go.Proofs.Ythggpmgjgibcoaa
open Go.RowKit Go.Shelf
attribute [local go_sem] Oper.semAt_some

set_option maxRecDepth 100000 in
set_option maxHeartbeats 8000000 in
open Classical in
theorem l02Keeping_c (c0 : Value) (zs : List Int) (g N : Nat) (c2 : Value) (st : List Int) (w : World) (hI : Ints w.heap.size w c0 zs) (ht : tasksOk zs = true) (hN0 : cntN zs = N) (hO : OwnB 0 w (.slice (some ⟨g, 0, none⟩) N N) (lastB zs)) (hT : Ints w.heap.size w c2 st) (hs : IsSt zs st) :
    Calls Try.prog 131 #[.agg #[c0], .slice (some ⟨g, 0, none⟩) N N, c2] w (GivesI w (keepL zs st) id) := by
  obtain ⟨i0, hi, hz0, hz1, hz2⟩ := info_parts Try.infoI2
  obtain ⟨a, cap, rfl⟩ := hI.shape
  obtain ⟨a2, cap2, rfl⟩ := hT.shape
  have hB0 : Below w.heap.size w (w.alloc (.cells #[.slice a zs.length cap] 26)) := (Below.refl _ w).alloc (Nat.le_refl _) _
  have hp := pos_of ht
  have hl8 := tasksOk_len ht
  have hlb : (lastB zs).length = N := by rw [lastB_length, hN0]
  have Hlb := Lib.hid hlb
  have HN := Lib.hid hN0
  clear hlb hN0
  go_enter Try.func131, Try.ntmps131
  go_wp2
  have b0 : Boxed ((w.alloc (.cells #[.slice a zs.length cap] 26)).alloc (.cells #[] 2)) w.heap.size 26 (.slice a zs.length cap) := (Boxed.new _ _ _).alloc _
  have ho0 : OwnI (w.heap.size + 1) ((w.alloc (.cells #[.slice a zs.length cap] 26)).alloc (.cells #[] 2)) (.slice (some ⟨(w.alloc (.cells #[.slice a zs.length cap] 26)).heap.size, 0, none⟩) 0 0) [] := ownI_empty2 _ (by simp)
  have hlen := keepN_length zs st
  have Hlen := Lib.hid hlen
  clear hlen
  go_loopw [7, 8] (fun v c wr => ∃ j : Nat, j ≤ zs.length + 1 ∧ c = .int .i64 ((j : Int) - 1) ∧ OwnI (w.heap.size + 1) wr v (keepN zs st j) ∧ Boxed wr w.heap.size 26 (.slice a zs.length cap) ∧ Below w.heap.size w wr) (fun _ c _ => zs.length + 1 - (intOf c + 1).toNat)
  case atStart => exact ⟨0, Nat.zero_le _, rfl, by simpa [keepN] using ho0, b0, hB0.alloc (by simp) _⟩
  case round =>
    clear ho0 b0
    obtain ⟨j, hj, rfl, ho, hb, hB⟩ := hrel
    have kC := hb.cell
    have hsC := hB.size
    have hsb := hb.lt
    go_wp2_with fail
    refine (l01K_c _ _ _ _).mono ?_
    rintro e w4 ⟨rfl, rfl⟩
    have hBD := hB.alloc hsC (.cells #[.slice a zs.length cap] 26)
    have hoD : OwnI (w.heap.size + 1) (wr.alloc (.cells #[.slice a zs.length cap] 26)) _ (keepN zs st j) := ho.below ((Below.refl _ wr).alloc (Nat.le_refl _) _)
    have hbD := hb.alloc (.cells #[.slice a zs.length cap] 26)
    have kD := hbD.cell
    have hsD : w.heap.size + 1 ≤ (wr.alloc (.cells #[.slice a zs.length cap] 26)).heap.size := by simp; omega
    obtain ⟨wd, hwd⟩ : ∃ wd, wr.alloc (.cells #[.slice a zs.length cap] 26) = wd := ⟨_, rfl⟩
    rw [hwd] at hBD hoD hbD kD hsD ⊢
    clear ho hb hB kC hwd hsC hsb
    by_cases hjl : j < zs.length + 1
    · go_wp2_with fail
      refine (l02Step_c _ zs _ st _ _ (hI.later hBD) ht (hT.later hBD) hs).mono ?_
      rintro e w5 (⟨hop, v, rfl, hoV, hb5⟩ | ⟨hop, rfl, hb5⟩)
      · obtain ⟨aV, cV, rfl⟩ := hoV.ints.shape
        have hss := hs.step hop
        obtain ⟨mm, hm1, hm2, hm3⟩ := num_nat hp hss
        rw [HN.out] at hm2
        have hbl := bAt_last hp hss
        rw [hm1] at hbl
        have Hbl := Lib.hid hbl
        obtain ⟨ys, hys⟩ : ∃ ys, stepL zs st ((j : Int) - 1) = ys := ⟨_, rfl⟩
        have hyl : ys.length ≤ 8 := by rw [← hys, stepL_length, hs.1]; omega
        rw [hys] at hoV hss hm1
        rw [hys]
        have Hys := Lib.hid hys
        have hoE := hoD.below hb5
        have hbE := boxed_later hbD hb5
        have hBE := hBD.trans (hb5.mono hBD.size)
        have hsE := hb5.size
        have kE := hbE.cell
        clear hoD hbD kD hys hm3 hbl
        go_wp2_with fail
        refine (l02Number_c _ zs _ ys _ (hI.later hBE) ht (by exact hoV.ints) hss).mono ?_
        rintro e w6 ⟨rfl, hb6⟩
        have hoF := hoE.below hb6
        have hbF := boxed_later hbE hb6
        have hBF := hBE.trans (hb6.mono hBE.size)
        have hsF := hb6.size
        have hcm := ho_cell (hO.below hBF) Hlb.out hm2
        rw [hm1]
        have Hm1 := Lib.hid hm1
        clear hb5 hb6 hoE hbE kE hm1 hoV
        cases hv : bAt (lastB zs) (mm : Int)
        · rw [hv] at hcm
          have hno : ¬ Kpc zs st ((j : Int) - 1) := fun h => by
            have := Hbl.out
            rw [hv, decide_eq_true (Hys.out ▸ h.2)] at this
            cases this
          have Hno := Lib.hid (keepN_no hno)
          clear hno
          go_wp2_with fail
          go_roundw
          case rel => exact ⟨j + 1, by omega, by congr 1; omega, by rw [Hno.out]; exact hoF, hbF, hBF⟩
          case measure => simp [intOf]; omega
        · rw [hv] at hcm
          have hye : Kpc zs st ((j : Int) - 1) := ⟨hop, by
            have := Hbl.out
            rw [hv] at this
            exact of_decide_eq_true this.symm⟩
          have Hye := Lib.hid (keepN_yes hye)
          clear hye
          have hdl := Hlen.out j
          have hs1 : w.heap.size + 1 ≤ w6.heap.size := by omega
          have hs0 : w.heap.size ≤ w6.heap.size := by omega
          have hkl : (keepN zs st j).length ≤ 1048576 := by omega
          obtain ⟨xs, hxs⟩ : ∃ xs, keepN zs st j = xs := ⟨_, rfl⟩
          rw [hxs] at hoF Hye hkl
          clear hxs hdl
          go_wp2_with (at_builtin; refine wpList_append_own _ rfl _ _ 24 rfl (w.heap.size+1) 2 i0 (.int .i64 0) 1 8 Try.underlying24 hi hz0 hz1 hz2 rfl (by decide) _ _ _ rfl (World.ownsRow.alloc hoF _) ⟨w6.heap.size, 0, none⟩ 1 1 [.int .i64 ((j : Int) - 1)] rfl rfl (Go.cell_one_new _ _ _) (by simp [Value.oneCell']) (by unfold maxLen; omega) (by omega) (by simp; omega) ?_)
          intro v' w1 hown' hgrow _
          have ho2 := ownI_snoc hown'
          have hB2 : Below w.heap.size w w1 := (hBF.alloc hs0 _).grown hgrow (by simp; omega) (fun j e => by have := (hoF.blk j e).1; omega)
          have hgr : w6.grownBy w1 _ := (World.grownBy_alloc _ _ _).trans hgrow
          clear hown' hgrow
          have hb1 := hbF.kept hgr (fun e => by have := (hoF.blk _ e.symm).1; omega)
          clear hgr
          go_wp2_with fail
          go_roundw
          case rel => exact ⟨j + 1, by omega, by congr 1; omega, by rw [Hye.out]; exact ho2, hb1, hB2⟩
          case measure => simp [intOf]; omega
      · have hno : ¬ Kpc zs st ((j : Int) - 1) := fun h => hop h.1
        have Hno := Lib.hid (keepN_no hno)
        clear hno
        have hoE := hoD.below hb5
        have hbE := boxed_later hbD hb5
        have hBE := hBD.trans (hb5.mono hBD.size)
        clear hoD hbD kD hb5
        go_wp2_with fail
        go_roundw
        case rel => exact ⟨j + 1, by omega, by congr 1; omega, by rw [Hno.out]; exact hoE, hbE, hBE⟩
        case measure => simp [intOf]; omega
    · obtain rfl : j = zs.length + 1 := by omega
      go_wp2_with fail
      go_ret
      exact ⟨_, rfl, hoD.base (by omega), hBD⟩

theorem keepC_given {zs st : List Int} (h : givenC zs st ≠ 0) : keepC zs st = givenC zs st ∧ keepR zs st = [] := by
  have hc : keepC zs st = givenC zs st := by
    unfold keepC givenC lastCode at *
    by_cases h0 : stCode zs st = 0
    · rw [if_pos h0] at h ⊢
      rw [if_pos h0, if_neg h]
    · rw [if_neg h0, if_neg h0]
  exact ⟨hc, by unfold keepR; rw [hc, if_neg h]⟩
theorem keepC_given0 {zs st : List Int} (h : givenC zs st = 0) : (Lasting zs st → keepC zs st = 0 ∧ keepR zs st = keepL zs st) ∧ (¬ Lasting zs st → keepC zs st = 5 ∧ keepR zs st = []) := by
  obtain ⟨h0, hc⟩ := givenC_ok h
  constructor
  · intro hl
    have : keepC zs st = 0 := by unfold keepC lastCode; rw [if_pos h0, if_pos hc, if_pos hl]
    exact ⟨this, by unfold keepR; rw [if_pos this]⟩
  · intro hl
    have : keepC zs st = 5 := by unfold keepC lastCode; rw [if_pos h0, if_pos hc, if_neg hl]
    exact ⟨this, by unfold keepR; rw [this]; rfl⟩

set_option maxRecDepth 100000 in
set_option maxHeartbeats 8000000 in
open Classical in
theorem s_KeepingChoices (c0 : Value) (zs : List Int) (c1 : Value) (st : List Int) (w : World) (hI : Ints w.heap.size w c0 zs) (_hN : I64s zs) (hm : zs.length ≤ 1048576) (hT : Ints w.heap.size w c1 st) (_hN1 : I64s st) (hm1 : st.length ≤ 1048576) :
    Calls Try.prog 47 #[.agg #[c0], c1] w (GivesI w (keepR zs st) fun v => .tuple #[v, .int .i64 (keepC zs st)]) := by
  obtain ⟨a, cap, rfl⟩ := hI.shape
  obtain ⟨a2, cap2, rfl⟩ := hT.shape
  have hB0 : Below w.heap.size w (w.alloc (.cells #[.slice a zs.length cap] 26)) := (Below.refl _ w).alloc (Nat.le_refl _) _
  by_cases hg : givenC zs st = 0
  · obtain ⟨h0, hc⟩ := givenC_ok hg
    obtain ⟨ht, hs⟩ := stCode_zero h0
    obtain ⟨_, h4⟩ := fewC_ok hc
    have hp := pos_of ht
    have hkg := keepC_given0 hg
    obtain ⟨mm, hm1', hm2, hm3⟩ := num_nat hp hs
    have hbl := bAt_last hp hs
    rw [hm1'] at hbl
    have Hg := Lib.hid hg
    have Hm := Lib.hid hm1'
    have Hkg := Lib.hid hkg
    have Hbl := Lib.hid hbl
    clear hg h0 hc hm1' hm3 hkg hbl
    go_enter Try.func47, Try.ntmps47
    go_wp2_with fail
    refine (l02Given_c _ zs _ st _ (hI.later hB0) hm (hT.later hB0) hm1).mono ?_
    rintro e w1 ⟨he, hb⟩
    rw [Hg.out] at he
    subst he
    have b1 : Boxed w1 w.heap.size 26 (.slice a zs.length cap) := boxed_later (Boxed.new _ _ _) hb
    have k1 := b1.cell
    have hB1 := hB0.trans (hb.mono (by simp))
    obtain ⟨N, hN⟩ : ∃ N, cntN zs = N := ⟨_, rfl⟩
    have HN := Lib.hid hN
    have hlb : (lastB zs).length = N := by rw [lastB_length, hN]
    have Hlb := Lib.hid hlb
    rw [hN] at hm2
    clear hN hlb
    go_wp2_with fail
    refine (l02Lasting_c _ zs _ (hI.later hB1) ht h4).mono ?_
    rintro e w2 ⟨g, rfl, ho, hb2⟩
    have hB2 := hB1.trans (hb2.mono hB1.size)
    have b2 := boxed_later b1 hb2
    have k2 := b2.cell
    rw [HN.out] at ho ⊢
    go_wp2_with fail
    refine (l02Number_c _ zs _ st _ (hI.later hB2) ht (hT.later hB2) hs).mono ?_
    rintro e w3 ⟨rfl, hb3⟩
    have ho3 := ho.below hb3
    have hcm := ho_cell ho3 Hlb.out hm2
    have hB3 := hB2.trans (hb3.mono hB2.size)
    have b3 := boxed_later b2 hb3
    have k3 := b3.cell
    rw [Hm.out]
    cases hv : bAt (lastB zs) (mm : Int)
    · rw [hv] at hcm
      obtain ⟨q1, q2⟩ := Hkg.out.2 (fun hl => by have := Hbl.out; rw [hv, decide_eq_true hl] at this; cases this)
      have Q1 := Lib.hid q1
      have Q2 := Lib.hid q2
      clear q1 q2
      go_wp2_with fail
      go_ret2
      exact ⟨.slice none 0 0, by rw [Q1.out]; rfl, by rw [Q2.out]; exact ownI_nil _ _, hB3⟩
    · rw [hv] at hcm
      obtain ⟨q1, q2⟩ := Hkg.out.1 (by have := Hbl.out; rw [hv] at this; exact of_decide_eq_true this.symm)
      have Q1 := Lib.hid q1
      have Q2 := Lib.hid q2
      clear q1 q2
      go_wp2_with fail
      refine (l02Keeping_c _ zs g N _ st _ (hI.later hB3) ht HN.out (ho3.base (Nat.zero_le _)) (hT.later hB3) hs).mono ?_
      rintro e w4 ⟨u, rfl, hoK, hb4⟩
      simp only [id]
      go_wp2_with fail
      go_ret2
      exact ⟨u, by rw [Q1.out]; rfl, by rw [Q2.out]; exact hoK.base hB3.size, hB3.trans (hb4.mono hB3.size)⟩
  · obtain ⟨q1, q2⟩ := keepC_given hg
    have Q1 := Lib.hid q1
    have Q2 := Lib.hid q2
    have hq : (givenC zs st != 0) = true := by simpa using hg
    have hp := givenC_bd zs st
    clear hg q1 q2
    go_enter Try.func47, Try.ntmps47
    go_wp2_with fail
    refine (l02Given_c _ zs _ st _ (hI.later hB0) hm (hT.later hB0) hm1).mono ?_
    rintro e w1 ⟨rfl, hb⟩
    go_wp2
    go_ret2
    exact ⟨.slice none 0 0, by rw [Q1.out]; rfl, by rw [Q2.out]; exact ownI_nil _ _, hB0.trans (hb.mono (by simp))⟩

end Go.Proofs.Ythggpmgjgibcoaa
