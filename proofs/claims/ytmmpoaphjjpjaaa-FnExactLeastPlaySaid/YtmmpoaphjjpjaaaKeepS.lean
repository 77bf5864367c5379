/-
  KeepingChoices of the model.
  Conditions: lists of at most 1048576 elements.
-/
import Derived.Test.YtmmpoaphjjpjaaaTopS
import Derived.Test.YtmmpoaphjjpjaaaKeepI
namespace Go.Proofs.Ytmmpoaphjjpjaaa
open Go.RowKit Go.Shelf
attribute [local go_sem] Oper.semAt_some

set_option maxRecDepth 100000 in
set_option maxHeartbeats 8000000 in
open Classical in
theorem l02Keeping_c (c0 : Value) (zs : List Int) (g N : Nat) (c2 : Value) (st : List Int) (w : World) (hI : Ints w.heap.size w c0 zs) (ht : tasksOk zs = true) (hN0 : cntN zs = N) (hO : OwnB 0 w (.slice (some ⟨g, 0, none⟩) N N) (lastB zs)) (hT : Ints w.heap.size w c2 st) (hs : IsSt zs st) :
    Calls Try.prog 67 #[.agg #[c0], .slice (some ⟨g, 0, none⟩) N N, c2] w (GivesI w (keepL zs st) id) := by
  obtain ⟨i0, hi, hz0, hz1, hz2⟩ := info_parts Try.infoI2
  obtain ⟨a, cap, rfl⟩ := hI.shape
  obtain ⟨a2, cap2, rfl⟩ := hT.shape
  have hB0 : Below w.heap.size w (w.alloc (.cells #[.slice a zs.length cap] 28)) := (Below.refl _ w).alloc (Nat.le_refl _) _
  have hp := pos_of ht
  have hl8 := tasksOk_len ht
  have hlb : (lastB zs).length = N := by rw [lastB_length, hN0]
  have Hlb := Lib.hid hlb
  have HN := Lib.hid hN0
  clear hlb hN0
  go_enter Try.func67, Try.ntmps67
  go_wp2
  have b0 : Boxed ((w.alloc (.cells #[.slice a zs.length cap] 28)).alloc (.cells #[] 2)) w.heap.size 28 (.slice a zs.length cap) := (Boxed.new _ _ _).alloc _
  have ho0 : OwnI (w.heap.size + 1) ((w.alloc (.cells #[.slice a zs.length cap] 28)).alloc (.cells #[] 2)) (.slice (some ⟨(w.alloc (.cells #[.slice a zs.length cap] 28)).heap.size, 0, none⟩) 0 0) [] := ownI_empty2 _ (by simp)
  have hlen := keepN_length zs st
  have Hlen := Lib.hid hlen
  clear hlen
  go_loopw [7, 8] (fun v c wr => ∃ j : Nat, j ≤ zs.length + 1 ∧ c = .int .i64 ((j : Int) - 1) ∧ OwnI (w.heap.size + 1) wr v (keepN zs st j) ∧ Boxed wr w.heap.size 28 (.slice a zs.length cap) ∧ Below w.heap.size w wr) (fun _ c _ => zs.length + 1 - (intOf c + 1).toNat)
  case atStart => exact ⟨0, Nat.zero_le _, rfl, by simpa [keepN] using ho0, b0, hB0.alloc (by simp) _⟩
  case round =>
    clear ho0 b0
    obtain ⟨j, hj, rfl, ho, hb, hB⟩ := hrel
    have kC := hb.cell
    have hsC := hB.size
    have hsb := hb.lt
    go_wp2_with fail
    refine (l01K_c _ _ _ _).mono ?_
    rintro e w4 ⟨rfl, rfl⟩
    have hBD := hB.alloc hsC (.cells #[.slice a zs.length cap] 28)
    have hoD : OwnI (w.heap.size + 1) (wr.alloc (.cells #[.slice a zs.length cap] 28)) _ (keepN zs st j) := ho.below ((Below.refl _ wr).alloc (Nat.le_refl _) _)
    have hbD := hb.alloc (.cells #[.slice a zs.length cap] 28)
    have kD := hbD.cell
    have hsD : w.heap.size + 1 ≤ (wr.alloc (.cells #[.slice a zs.length cap] 28)).heap.size := by simp; omega
    obtain ⟨wd, hwd⟩ : ∃ wd, wr.alloc (.cells #[.slice a zs.length cap] 28) = wd := ⟨_, rfl⟩
    rw [hwd] at hBD hoD hbD kD hsD ⊢
    clear ho hb hB kC hwd hsC hsb
    by_cases hjl : j < zs.length + 1
    · go_wp2_with fail
      refine (l02Step_c _ zs _ st _ _ (hI.later hBD) ht (hT.later hBD) hs).mono ?_
      rintro e w5 (⟨hop, v, rfl, hoV, hb5⟩ | ⟨hop, rfl, hb5⟩)
      · obtain ⟨aV, cV, rfl⟩ := hoV.ints.shape
        have hss := hs.step hop
        obtain ⟨mm, hm1, hm2, hm3⟩ := num_nat hp hss
        rw [HN.out] at hm2
        have hbl := bAt_last hp hss
        rw [hm1] at hbl
        have Hbl := Lib.hid hbl
        obtain ⟨ys, hys⟩ : ∃ ys, stepL zs st ((j : Int) - 1) = ys := ⟨_, rfl⟩
        have hyl : ys.length ≤ 8 := by rw [← hys, stepL_length, hs.1]; omega
        rw [hys] at hoV hss hm1
        rw [hys]
        have Hys := Lib.hid hys
        have hoE := hoD.below hb5
        have hbE := boxed_later hbD hb5
        have hBE := hBD.trans (hb5.mono hBD.size)
        have hsE := hb5.size
        have kE := hbE.cell
        clear hoD hbD kD hys hm3 hbl
        go_wp2_with fail
        refine (l02Number_c _ zs _ ys _ (hI.later hBE) ht (by exact hoV.ints) hss).mono ?_
        rintro e w6 ⟨rfl, hb6⟩
        have hoF := hoE.below hb6
        have hbF := boxed_later hbE hb6
        have hBF := hBE.trans (hb6.mono hBE.size)
        have hsF := hb6.size
        have hcm := ho_cell (hO.below hBF) Hlb.out hm2
        rw [hm1]
        have Hm1 := Lib.hid hm1
        clear hb5 hb6 hoE hbE kE hm1 hoV
        cases hv : bAt (lastB zs) (mm : Int)
        · rw [hv] at hcm
          have hno : ¬ Kpc zs st ((j : Int) - 1) := fun h => by
            have := Hbl.out
            rw [hv, decide_eq_true (Hys.out ▸ h.2)] at this
            cases this
          have Hno := Lib.hid (keepN_no hno)
          clear hno
          go_wp2_with fail
          go_roundw
          case rel => exact ⟨j + 1, by omega, by congr 1; omega, by rw [Hno.out]; exact hoF, hbF, hBF⟩
          case measure => simp [intOf]; omega
        · rw [hv] at hcm
          have hye : Kpc zs st ((j : Int) - 1) := ⟨hop, by
            have := Hbl.out
            rw [hv] at this
            exact of_decide_eq_true this.symm⟩
          have Hye := Lib.hid (keepN_yes hye)
          clear hye
          have hdl := Hlen.out j
          have hs1 : w.heap.size + 1 ≤ w6.heap.size := by omega
          have hs0 : w.heap.size ≤ w6.heap.size := by omega
          have hkl : (keepN zs st j).length ≤ 1048576 := by omega
          obtain ⟨xs, hxs⟩ : ∃ xs, keepN zs st j = xs := ⟨_, rfl⟩
          rw [hxs] at hoF Hye hkl
          clear hxs hdl
          go_wp2_with (at_builtin; refine wpList_append_own _ rfl _ _ 22 rfl (w.heap.size+1) 2 i0 (.int .i64 0) 1 8 Try.underlying22 hi hz0 hz1 hz2 rfl (by decide) _ _ _ rfl (World.ownsRow.alloc hoF _) ⟨w6.heap.size, 0, none⟩ 1 1 [.int .i64 ((j : Int) - 1)] rfl rfl (Go.cell_one_new _ _ _) (by simp [Value.oneCell']) (by unfold maxLen; omega) (by omega) (by simp; omega) ?_)
          intro v' w1 hown' hgrow _
          have ho2 := ownI_snoc hown'
          have hB2 : Below w.heap.size w w1 := (hBF.alloc hs0 _).grown hgrow (by simp; omega) (fun j e => by have := (hoF.blk j e).1; omega)
          have hgr : w6.grownBy w1 _ := (World.grownBy_alloc _ _ _).trans hgrow
          clear hown' hgrow
          have hb1 := hbF.kept hgr (fun e => by have := (hoF.blk _ e.symm).1; omega)
          clear hgr
          go_wp2_with fail
          go_roundw
          case rel => exact ⟨j + 1, by omega, by congr 1; omega, by rw [Hye.out]; exact ho2, hb1, hB2⟩
          case measure => simp [intOf]; omega
      · have hno : ¬ Kpc zs st ((j : Int) - 1) := fun h => hop h.1
        have Hno := Lib.hid (keepN_no hno)
        clear hno
        have hoE := hoD.below hb5
        have hbE := boxed_later hbD hb5
        have hBE := hBD.trans (hb5.mono hBD.size)
        clear hoD hbD kD hb5
        go_wp2_with fail
        go_roundw
        case rel => exact ⟨j + 1, by omega, by congr 1; omega, by rw [Hno.out]; exact hoE, hbE, hBE⟩
        case measure => simp [intOf]; omega
    · obtain rfl : j = zs.length + 1 := by omega
      go_wp2_with fail
      go_ret
      exact ⟨_, rfl, hoD.base (by omega), hBD⟩

theorem keepC_given {zs st : List Int} (h : givenC zs st ≠ 0) : keepC zs st = givenC zs st ∧ keepR zs st = [] := by
  have hc : keepC zs st = givenC zs st := by
    unfold keepC givenC lastCode at *
    by_cases h0 : stCode zs st = 0
    · rw [if_pos h0] at h ⊢
      rw [if_pos h0, if_neg h]
    · rw [if_neg h0, if_neg h0]
  exact ⟨hc, by unfold keepR; rw [hc, if_neg h]⟩
theorem keepC_given0 {zs st : List Int} (h : givenC zs st = 0) : (Lasting zs st → keepC zs st = 0 ∧ keepR zs st = keepL zs st) ∧ (¬ Lasting zs st → keepC zs st = 5 ∧ keepR zs st = []) := by
  obtain ⟨h0, hc⟩ := givenC_ok h
  constructor
  · intro hl
    have : keepC zs st = 0 := by unfold keepC lastCode; rw [if_pos h0, if_pos hc, if_pos hl]
    exact ⟨this, by unfold keepR; rw [if_pos this]⟩
  · intro hl
    have : keepC zs st = 5 := by unfold keepC lastCode; rw [if_pos h0, if_pos hc, if_neg hl]
    exact ⟨this, by unfold keepR; rw [this]; rfl⟩

end Go.Proofs.Ytmmpoaphjjpjaaa
