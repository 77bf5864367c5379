/-
  SharesByWeights of the model.
  Conditions: lists of at most 1048576 elements.
-/
import Derived.Maps.AppendAt
import Derived.Test.YtgndbifcncklgaaWsx
import Derived.Test.YtgndbifcncklgaaWmc
namespace Go.Proofs.Ytgndbifcncklgaa
open Go.RowKit Go.Shelf
attribute [local go_sem] Oper.semAt_some

set_option maxRecDepth 100000 in
set_option maxHeartbeats 16000000 in
theorem s_SharesByWeights (c0 : Value) (ws : List Int) (n : Int) (w : World) (hI : Ints w.heap.size w c0 ws) (_hN : I64s ws) (hm : ws.length ≤ 1048576) (_hn : I64 n) :
    Calls Try.prog 44 #[c0, .int .i64 n] w (GivesI w (sbR ws n) fun v => .tuple #[v, .int .i64 (sbC ws n)]) := by
  obtain ⟨a, cap, rfl⟩ := hI.shape
  obtain ⟨i0, hi, hz0, hz1, hz2⟩ := info_parts Try.infoI2
  unfold I64 at _hn
  cases hw : wOk ws 0 8
  · have Hc := Lib.hid (show sbC ws n = 2 by unfold sbC; rw [hw]; rfl)
    have Hr := Lib.hid (show sbR ws n = [] by unfold sbR; rw [Hc.out]; rfl)
    have Hw := Lib.hid hw
    clear hw
    go_enter Try.func44, Try.ntmps44
    go_wp2_with fail
    refine (l10Weights_c _ ws 0 8 _ hI hm (by omega) (by omega)).mono ?_
    rintro e w' ⟨he, rfl⟩
    rw [Hw.out] at he
    subst he
    go_wp2
    go_ret2
    exact ⟨_, ret_v2 Hc.out.symm, by rw [Hr.out]; exact ownI_nil _ _, Below.refl _ _⟩
  · have hW := wgt (by omega) hw
    have hl := hW.len
    have Hw := Lib.hid hw
    have HW := Lib.hid hW
    clear hW
    cases h1 : inB n 1 120
    · have Hc := Lib.hid (show sbC ws n = 2 by unfold sbC; rw [h1, Bool.and_false]; rfl)
      have Hr := Lib.hid (show sbR ws n = [] by unfold sbR; rw [Hc.out]; rfl)
      have H1 := Lib.hid h1
      clear hw h1
      go_enter Try.func44, Try.ntmps44
      go_wp2_with fail
      refine (l10Weights_c _ ws 0 8 _ hI hm (by omega) (by omega)).mono ?_
      rintro e w' ⟨he, rfl⟩
      rw [Hw.out] at he
      subst he
      go_wp2_with fail
      refine (l01In_d false _ _ _ _ H1.out).mono ?_
      rintro e w' ⟨rfl, rfl⟩
      go_wp2
      go_ret2
      exact ⟨_, ret_v2 Hc.out.symm, by rw [Hr.out]; exact ownI_nil _ _, Below.refl _ _⟩
    · have hin := inB_true.1 h1
      by_cases h3 : n < ws.length
      · have Hc := Lib.hid (show sbC ws n = 3 by unfold sbC; rw [hw, h1]; simp [h3])
        have Hr := Lib.hid (show sbR ws n = [] by unfold sbR; rw [Hc.out]; rfl)
        have H1 := Lib.hid h1
        clear hw h1
        go_enter Try.func44, Try.ntmps44
        go_wp2_with fail
        refine (l10Weights_c _ ws 0 8 _ hI hm (by omega) (by omega)).mono ?_
        rintro e w' ⟨he, rfl⟩
        rw [Hw.out] at he
        subst he
        go_wp2_with fail
        refine (l01In_d true _ _ _ _ H1.out).mono ?_
        rintro e w' ⟨rfl, rfl⟩
        go_wp2
        go_ret2
        exact ⟨_, ret_v2 Hc.out.symm, by rw [Hr.out]; exact ownI_nil _ _, Below.refl _ _⟩
      · have hc : sbC ws n = 0 := by unfold sbC; rw [hw, h1]; simp [h3]
        have Hc := Lib.hid hc
        have Hr := Lib.hid (show sbR ws n = swTo ws (n - ws.length).toNat by unfold sbR; rw [if_pos hc])
        obtain ⟨N, hN⟩ : ∃ N : Nat, n - (ws.length : Int) = N := ⟨(n - ws.length).toNat, by omega⟩
        have hNb : N ≤ 119 := by omega
        rw [hN] at Hr
        obtain ⟨K, hK⟩ : ∃ K, ws.length = K := ⟨_, rfl⟩
        rw [hK] at hl hN h3 hI hm ⊢
        have HK := Lib.hid hK
        have H1 := Lib.hid h1
        clear hw hc hK h1
        go_enter Try.func44, Try.ntmps44
        go_wp2_with fail
        refine (l10Weights_c _ ws 0 8 _ hI (by rw [HK.out]; exact hm) (by omega) (by omega)).mono ?_
        rintro e w' ⟨he, rfl⟩
        rw [Hw.out] at he
        subst he
        go_wp2_with fail
        refine (l01In_d true _ _ _ _ H1.out).mono ?_
        rintro e w' ⟨rfl, rfl⟩
        go_wp2
        obtain ⟨W0, hW0⟩ : ∃ W0, w.alloc (.cells #[] 2) = W0 := ⟨_, rfl⟩
        have hB0 : Below w.heap.size w W0 := by rw [← hW0]; exact (Below.refl _ w).alloc (Nat.le_refl _) _
        have hoA : OwnI w.heap.size W0 (.slice (some ⟨w.heap.size, 0, none⟩) 0 0) [] := by rw [← hW0]; exact ownI_empty w
        rw [hW0]
        clear hW0
        go_loopw [6, 7] (fun v i wr => ∃ (j : Nat) (u : Value), (j ≤ K ∧ i = .int .i64 j ∧ u = v) ∧ OwnI w.heap.size wr u (List.replicate j 1) ∧ Below w.heap.size w wr) (fun _ i _ => K - (intOf i).toNat)
        case atStart => exact ⟨0, _, ⟨Nat.zero_le _, rfl, rfl⟩, hoA, hB0⟩
        case round =>
          obtain ⟨j, u, ⟨hj, rfl, rfl⟩, hou, hBj⟩ := hrel
          clear hoA hB0
          by_cases hjl : j < K
          · have hsz := hBj.size
            have hll : (List.replicate j (1 : Int)).length ≤ 8 := by simp; omega
            obtain ⟨xs, hxs⟩ : ∃ xs, List.replicate j (1 : Int) = xs := ⟨_, rfl⟩
            have Hsn := Lib.hid (show List.replicate (j + 1) (1 : Int) = xs ++ [1] by rw [List.replicate_succ', hxs])
            rw [hxs] at hou hll
            clear hxs
            go_wp2_with (at_builtin; refine wpList_append_own _ rfl _ _ 24 rfl w.heap.size 2 i0 (.int .i64 0) 1 8 Try.underlying24 hi hz0 hz1 hz2 rfl (by decide) _ _ _ rfl (World.ownsRow.alloc hou _) ⟨wr.heap.size, 0, none⟩ 1 1 [.int .i64 ((1 : Int))] rfl rfl (Go.cell_one_new _ _ _) (by simp [Value.oneCell']) (by unfold maxLen; omega) (by omega) (by simp; omega) ?_)
            intro v' w1 hown' hgrow _
            have ho2 := ownI_snoc hown'
            have hB2 : Below w.heap.size w w1 := (hBj.alloc hsz _).grown hgrow (by simp; omega) (fun j e => by have := (hou.blk j e).1; omega)
            have hgr : wr.grownBy w1 _ := (World.grownBy_alloc _ _ _).trans hgrow
            clear hown' hgrow
            clear hgr
            go_wp2
            go_roundw
            case rel => exact ⟨j + 1, _, ⟨by omega, by simp, rfl⟩, by rw [Hsn.out]; exact ho2, hB2⟩
            case measure => simp [intOf]; omega
          · obtain rfl : j = K := by omega
            obtain ⟨g, cg, rfl, hg1, hg2⟩ := hou.shape (by simp; omega)
            simp only [List.length_replicate] at hou ⊢
            have hgw := hg2
            have hfw : Try.prog.follows Departure.mixedOrders = true := by kernel_rfl
            obtain ⟨K, hKj⟩ : ∃ K, j = K := ⟨_, rfl⟩
            subst hKj
            go_wp2
            go_loopw [8] (fun i wr => ∃ m : Nat, m ≤ N ∧ i = .int .i64 ((N - m : Nat) : Int) ∧ OwnI w.heap.size wr (.slice (some ⟨g, 0, none⟩) j cg) (swTo ws m) ∧ Below w.heap.size w wr) (fun i _ => (intOf i).toNat)
            case atStart => exact ⟨0, Nat.zero_le _, rfl, by show OwnI _ _ _ (List.replicate ws.length 1); rw [HK.out]; exact hou, hBj⟩
            case round =>
              obtain ⟨q, hq, rfl, hok, hBk⟩ := hrel
              clear hou hBj hgw hg2
              obtain ⟨r, hr⟩ : ∃ r, N - q = r := ⟨_, rfl⟩
              rw [hr]
              by_cases hlt : q < N
              · have hsl : (swTo ws q).length = j := by rw [swTo_len]; exact HK.out
                have hsb := swTo_bd ws q
                have Hnx := Lib.hid (show swTo ws (q + 1) = (swTo ws q).set (bwTo (wQ ws) (dvN (swTo ws q)) ws.length) (nth (swTo ws q) (bwTo (wQ ws) (dvN (swTo ws q)) ws.length) + 1) from rfl)
                have Hsl := Lib.hid hsl
                have Hsb := Lib.hid hsb
                have hr0 : (0 : Int) < (r : Int) := by omega
                have hr1 : r ≤ 119 := by omega
                have Hr1 := Lib.hid hr
                clear hsl hsb hr
                go_wp2
                go_loopw [9, 10] (fun best i W => ∃ j2 : Nat, 1 ≤ j2 ∧ j2 ≤ j ∧ i = .int .i64 j2 ∧ best = .int .i64 (bwTo (wQ ws) (dvN (swTo ws q)) j2 : Nat) ∧ OwnI w.heap.size W (.slice (some ⟨g, 0, none⟩) j cg) (swTo ws q) ∧ Below w.heap.size w W) (fun _ i _ => j - (intOf i).toNat)
                case atStart => exact ⟨1, Nat.le_refl _, hl.1, rfl, by rw [show bwTo (wQ ws) (dvN (swTo ws q)) 1 = 0 from if_neg (Nat.lt_irrefl _)]; rfl, hok, hBk⟩
                case round =>
                  obtain ⟨i, hi1, hij, rfl, rfl, hok2, hB2⟩ := hrel
                  clear hok hBk
                  have hbl := bwTo_lt (wQ ws) (dvN (swTo ws q)) (k := i) (by omega)
                  have Hst := Lib.hid (show bwTo (wQ ws) (dvN (swTo ws q)) (i + 1) = if wQ ws (bwTo (wQ ws) (dvN (swTo ws q)) i) * dvN (swTo ws q) i < wQ ws i * dvN (swTo ws q) (bwTo (wQ ws) (dvN (swTo ws q)) i) then i else bwTo (wQ ws) (dvN (swTo ws q)) i from rfl)
                  obtain ⟨m, hmq⟩ : ∃ m, bwTo (wQ ws) (dvN (swTo ws q)) i = m := ⟨_, rfl⟩
                  rw [hmq] at hbl Hst ⊢
                  have Hmq := Lib.hid hmq
                  clear hmq
                  by_cases hjl : i < j
                  · obtain ⟨b, off, rfl, hb, hc⟩ := (hI.later hB2).at_ (k := i) (by rw [HK.out]; exact hjl)
                    have c1 := hc i (by rw [HK.out]; exact hjl)
                    have c2 := hc m (by rw [HK.out]; omega)
                    have c3 := hok2.cellAt (j := i) (by rw [Hsl.out]; exact hjl)
                    have c4 := hok2.cellAt (j := m) (by rw [Hsl.out]; omega)
                    have hwb := (hok2.blk g rfl).2
                    have e1 := HW.out.el i (by rw [HK.out]; exact hjl)
                    have e2 := HW.out.el m (by rw [HK.out]; omega)
                    have e3 := Hsb.out i (by rw [HK.out]; exact hjl)
                    have e4 := Hsb.out m (by rw [HK.out]; omega)
                    have g1 : (wQ ws i : Int) = nth ws i := by unfold wQ; omega
                    have g2 : (wQ ws m : Int) = nth ws m := by unfold wQ; omega
                    have g3 : (shN (swTo ws q) i : Int) = nth (swTo ws q) i := by unfold shN; omega
                    have g4 : (shN (swTo ws q) m : Int) = nth (swTo ws q) m := by unfold shN; omega
                    have d1 : dvN (swTo ws q) i = shN (swTo ws q) i * (shN (swTo ws q) i + 1) := rfl
                    have d2 : dvN (swTo ws q) m = shN (swTo ws q) m * (shN (swTo ws q) m + 1) := rfl
                    rw [← g1] at c1
                    rw [← g2] at c2
                    rw [← g3] at c3
                    rw [← g4] at c4
                    obtain ⟨wi, hwi⟩ : ∃ x, wQ ws i = x := ⟨_, rfl⟩
                    obtain ⟨wm, hwm⟩ : ∃ x, wQ ws m = x := ⟨_, rfl⟩
                    obtain ⟨si, hsi⟩ : ∃ x, shN (swTo ws q) i = x := ⟨_, rfl⟩
                    obtain ⟨sm, hsm⟩ : ∃ x, shN (swTo ws q) m = x := ⟨_, rfl⟩
                    have b1 : wi ≤ 100 := by omega
                    have b2 : wm ≤ 100 := by omega
                    have b3 : si ≤ 120 := by omega
                    have b4 : sm ≤ 120 := by omega
                    rw [hwi] at c1
                    rw [hwm] at c2
                    rw [hsi] at c3
                    rw [hsm] at c4
                    obtain ⟨s1, hs1⟩ : ∃ x, sm + 1 = x := ⟨_, rfl⟩
                    obtain ⟨s2, hs2⟩ : ∃ x, si + 1 = x := ⟨_, rfl⟩
                    obtain ⟨p1, hp1⟩ : ∃ x, wi * sm = x := ⟨_, rfl⟩
                    obtain ⟨p2, hp2⟩ : ∃ x, wm * si = x := ⟨_, rfl⟩
                    obtain ⟨P, hP⟩ : ∃ x, p1 * s1 = x := ⟨_, rfl⟩
                    obtain ⟨Q, hQ⟩ : ∃ x, p2 * s2 = x := ⟨_, rfl⟩
                    have HPP := Lib.hid (show wQ ws i * dvN (swTo ws q) m = P by rw [d2, hwi, hsm, hs1, ← Nat.mul_assoc, hp1, hP])
                    have HQQ := Lib.hid (show wQ ws m * dvN (swTo ws q) i = Q by rw [d1, hwm, hsi, hs2, ← Nat.mul_assoc, hp2, hQ])
                    have m1 : (wi : Int) * (sm : Int) = (p1 : Int) := by rw [← hp1]; simp
                    have m2 : (wm : Int) * (si : Int) = (p2 : Int) := by rw [← hp2]; simp
                    have m3 : (sm : Int) + 1 = (s1 : Int) := by omega
                    have m4 : (si : Int) + 1 = (s2 : Int) := by omega
                    have m5 : (p1 : Int) * (s1 : Int) = (P : Int) := by rw [← hP]; simp
                    have m6 : (p2 : Int) * (s2 : Int) = (Q : Int) := by rw [← hQ]; simp
                    have l1 : p1 ≤ 100 * 120 := by rw [← hp1]; exact Nat.mul_le_mul b1 b4
                    have l2 : p2 ≤ 100 * 120 := by rw [← hp2]; exact Nat.mul_le_mul b2 b3
                    have l3 : s1 ≤ 121 := by omega
                    have l4 : s2 ≤ 121 := by omega
                    have l5 : P ≤ 12000 * 121 := by rw [← hP]; exact Nat.mul_le_mul l1 l3
                    have l6 : Q ≤ 12000 * 121 := by rw [← hQ]; exact Nat.mul_le_mul l2 l4
                    have hii : (i : Int) < (j : Int) := by omega
                    have hmi : (m : Int) < (j : Int) := by omega
                    clear hc g1 g2 g3 g4 d1 d2 e1 e2 e3 e4 hwi hwm hsi hsm hs1 hs2 hp1 hp2 hP hQ
                    by_cases hcmp : Q < P
                    · have E := Lib.hid (show bwTo (wQ ws) (dvN (swTo ws q)) (i + 1) = i by rw [Hst.out, HPP.out, HQQ.out, if_pos hcmp])
                      go_wp2_with fail
                      refine wp_region_held_drew (S := fun w' => Below wr.heap.size wr w') hfw (Below.refl _ _).drew ?_
                      intro hS0
                      refine wpAnyH_take (i := 0) (v := ?va10) rfl (by kernel_rfl) (by kernel_rfl) (by kernel_rfl) (fun _ _ _ h => h) (.inl ⟨by first | kernel_rfl | rfl, ?ya10⟩) hS0 ?_
                      case ya10 =>
                        intro w' hS
                        (clear hS)
                        go_simp
                        try with_reducible rfl
                      refine wpAnyH_take (i := 1) (v := ?va11) rfl (by kernel_rfl) (by kernel_rfl) (by kernel_rfl) (fun _ _ _ h => h) (.inl ⟨by first | kernel_rfl | rfl, ?ya11⟩) hS0 ?_
                      case ya11 =>
                        intro w' hS
                        (clear hS)
                        go_simp
                        try with_reducible rfl
                      refine wpAnyH_take (i := 4) (v := ?va14) rfl (by kernel_rfl) (by kernel_rfl) (by kernel_rfl) (fun _ _ _ h => h) (.inl ⟨by first | kernel_rfl | rfl, ?ya14⟩) hS0 ?_
                      case ya14 =>
                        intro w' hS
                        (clear hS)
                        go_simp
                        try with_reducible rfl
                      refine wpAnyH_take (i := 5) (v := ?va15) rfl (by kernel_rfl) (by kernel_rfl) (by kernel_rfl) (fun _ _ _ h => h) (.inl ⟨by first | kernel_rfl | rfl, ?ya15⟩) hS0 ?_
                      case ya15 =>
                        intro w' hS
                        (clear hS)
                        go_simp
                        try with_reducible rfl
                      refine wpAnyH_take (i := 9) (v := ?va19) rfl (by kernel_rfl) (by kernel_rfl) (by kernel_rfl) (fun _ _ _ h => h) (.inl ⟨by first | kernel_rfl | rfl, ?ya19⟩) hS0 ?_
                      case ya19 =>
                        intro w' hS
                        (clear hS)
                        go_simp
                        try with_reducible rfl
                      refine wpAnyH_take (i := 10) (v := ?va110) rfl (by kernel_rfl) (by kernel_rfl) (by kernel_rfl) (fun _ _ _ h => h) (.inl ⟨by first | kernel_rfl | rfl, ?ya110⟩) hS0 ?_
                      case ya110 =>
                        intro w' hS
                        (clear hS)
                        go_simp
                        try with_reducible rfl
                      refine wpAnyH_take (i := 15) (v := ?va115) rfl (by kernel_rfl) (by kernel_rfl) (by kernel_rfl) (fun _ _ _ h => h) (.inl ⟨by first | kernel_rfl | rfl, ?ya115⟩) hS0 ?_
                      case ya115 =>
                        intro w' hS
                        (clear hS)
                        go_simp
                        try with_reducible rfl
                      refine wpAnyH_take (i := 16) (v := ?va116) rfl (by kernel_rfl) (by kernel_rfl) (by kernel_rfl) (fun _ _ _ h => h) (.inl ⟨by first | kernel_rfl | rfl, ?ya116⟩) hS0 ?_
                      case ya116 =>
                        intro w' hS
                        (clear hS)
                        go_simp
                        try with_reducible rfl
                      refine wpAnyH_take (i := 19) (v := ?va119) rfl (by kernel_rfl) (by kernel_rfl) (by kernel_rfl) (fun _ _ _ h => h) (.inl ⟨by first | kernel_rfl | rfl, ?ya119⟩) hS0 ?_
                      case ya119 =>
                        intro w' hS
                        (clear hS)
                        go_simp
                        try with_reducible rfl
                      refine wpAnyH_take (i := 20) (v := ?va120) rfl (by kernel_rfl) (by kernel_rfl) (by kernel_rfl) (fun _ _ _ h => h) (.inl ⟨by first | kernel_rfl | rfl, ?ya120⟩) hS0 ?_
                      case ya120 =>
                        intro w' hS
                        (clear hS)
                        go_simp
                        try with_reducible rfl
                      refine wpAnyH_take (i := 24) (v := ?va124) rfl (by kernel_rfl) (by kernel_rfl) (by kernel_rfl) (fun _ _ _ h => h) (.inl ⟨by first | kernel_rfl | rfl, ?ya124⟩) hS0 ?_
                      case ya124 =>
                        intro w' hS
                        (clear hS)
                        go_simp
                        try with_reducible rfl
                      refine wpAnyH_take (i := 25) (v := ?va125) rfl (by kernel_rfl) (by kernel_rfl) (by kernel_rfl) (fun _ _ _ h => h) (.inl ⟨by first | kernel_rfl | rfl, ?ya125⟩) hS0 ?_
                      case ya125 =>
                        intro w' hS
                        (clear hS)
                        go_simp
                        try with_reducible rfl
                      try simp only [Act.put, List.getElem_toArray, List.getElem_cons_zero, List.getElem_cons_succ, List.setIfInBounds_toArray, List.set_cons_zero, List.set_cons_succ]
                      refine wpAnyH_take (i := 2) (v := ?va22) rfl (by kernel_rfl) (by kernel_rfl) (by kernel_rfl) (fun _ _ _ h => h) (.inl ⟨by first | kernel_rfl | rfl, ?ya22⟩) hS0 ?_
                      case ya22 =>
                        intro w' hS
                        (clear hS)
                        go_simp
                        try with_reducible rfl
                      refine wpAnyH_take (i := 6) (v := ?va26) rfl (by kernel_rfl) (by kernel_rfl) (by kernel_rfl) (fun _ _ _ h => h) (.inl ⟨by first | kernel_rfl | rfl, ?ya26⟩) hS0 ?_
                      case ya26 =>
                        intro w' hS
                        (clear hS)
                        go_simp
                        try with_reducible rfl
                      refine wpAnyH_take (i := 11) (v := ?va211) rfl (by kernel_rfl) (by kernel_rfl) (by kernel_rfl) (fun _ _ _ h => h) (.inl ⟨by first | kernel_rfl | rfl, ?ya211⟩) hS0 ?_
                      case ya211 =>
                        intro w' hS
                        (clear hS)
                        go_simp
                        try with_reducible rfl
                      refine wpAnyH_take (i := 17) (v := ?va217) rfl (by kernel_rfl) (by kernel_rfl) (by kernel_rfl) (fun _ _ _ h => h) (.inl ⟨by first | kernel_rfl | rfl, ?ya217⟩) hS0 ?_
                      case ya217 =>
                        intro w' hS
                        (clear hS)
                        go_simp
                        try with_reducible rfl
                      refine wpAnyH_take (i := 21) (v := ?va221) rfl (by kernel_rfl) (by kernel_rfl) (by kernel_rfl) (fun _ _ _ h => h) (.inl ⟨by first | kernel_rfl | rfl, ?ya221⟩) hS0 ?_
                      case ya221 =>
                        intro w' hS
                        (clear hS)
                        go_simp
                        try with_reducible rfl
                      refine wpAnyH_take (i := 26) (v := ?va226) rfl (by kernel_rfl) (by kernel_rfl) (by kernel_rfl) (fun _ _ _ h => h) (.inl ⟨by first | kernel_rfl | rfl, ?ya226⟩) hS0 ?_
                      case ya226 =>
                        intro w' hS
                        (clear hS)
                        go_simp
                        try with_reducible rfl
                      try simp only [Act.put, List.getElem_toArray, List.getElem_cons_zero, List.getElem_cons_succ, List.setIfInBounds_toArray, List.set_cons_zero, List.set_cons_succ]
                      refine wpAnyH_take (i := 3) (v := ?va33) rfl (by kernel_rfl) (by kernel_rfl) (by kernel_rfl) (fun _ _ _ h => h) (.inl ⟨by first | kernel_rfl | rfl, ?ya33⟩) hS0 ?_
                      case ya33 =>
                        intro w' hS
                        (have k1 := (hS.cell (p := ⟨b, off + i, none⟩) hb).trans c1; have k2 := (hS.cell (p := ⟨b, off + m, none⟩) hb).trans c2; have k3 := (hS.cell (p := ⟨g, i, none⟩) hwb).trans c3; have k4 := (hS.cell (p := ⟨g, m, none⟩) hwb).trans c4; clear hS)
                        go_simp
                        try with_reducible rfl
                      refine wpAnyH_take (i := 7) (v := ?va37) rfl (by kernel_rfl) (by kernel_rfl) (by kernel_rfl) (fun _ _ _ h => h) (.inl ⟨by first | kernel_rfl | rfl, ?ya37⟩) hS0 ?_
                      case ya37 =>
                        intro w' hS
                        (have k1 := (hS.cell (p := ⟨b, off + i, none⟩) hb).trans c1; have k2 := (hS.cell (p := ⟨b, off + m, none⟩) hb).trans c2; have k3 := (hS.cell (p := ⟨g, i, none⟩) hwb).trans c3; have k4 := (hS.cell (p := ⟨g, m, none⟩) hwb).trans c4; clear hS)
                        go_simp
                        try with_reducible rfl
                      refine wpAnyH_take (i := 12) (v := ?va312) rfl (by kernel_rfl) (by kernel_rfl) (by kernel_rfl) (fun _ _ _ h => h) (.inl ⟨by first | kernel_rfl | rfl, ?ya312⟩) hS0 ?_
                      case ya312 =>
                        intro w' hS
                        (have k1 := (hS.cell (p := ⟨b, off + i, none⟩) hb).trans c1; have k2 := (hS.cell (p := ⟨b, off + m, none⟩) hb).trans c2; have k3 := (hS.cell (p := ⟨g, i, none⟩) hwb).trans c3; have k4 := (hS.cell (p := ⟨g, m, none⟩) hwb).trans c4; clear hS)
                        go_simp
                        try with_reducible rfl
                      refine wpAnyH_take (i := 18) (v := ?va318) rfl (by kernel_rfl) (by kernel_rfl) (by kernel_rfl) (fun _ _ _ h => h) (.inl ⟨by first | kernel_rfl | rfl, ?ya318⟩) hS0 ?_
                      case ya318 =>
                        intro w' hS
                        (have k1 := (hS.cell (p := ⟨b, off + i, none⟩) hb).trans c1; have k2 := (hS.cell (p := ⟨b, off + m, none⟩) hb).trans c2; have k3 := (hS.cell (p := ⟨g, i, none⟩) hwb).trans c3; have k4 := (hS.cell (p := ⟨g, m, none⟩) hwb).trans c4; clear hS)
                        go_simp
                        try with_reducible rfl
                      refine wpAnyH_take (i := 22) (v := ?va322) rfl (by kernel_rfl) (by kernel_rfl) (by kernel_rfl) (fun _ _ _ h => h) (.inl ⟨by first | kernel_rfl | rfl, ?ya322⟩) hS0 ?_
                      case ya322 =>
                        intro w' hS
                        (have k1 := (hS.cell (p := ⟨b, off + i, none⟩) hb).trans c1; have k2 := (hS.cell (p := ⟨b, off + m, none⟩) hb).trans c2; have k3 := (hS.cell (p := ⟨g, i, none⟩) hwb).trans c3; have k4 := (hS.cell (p := ⟨g, m, none⟩) hwb).trans c4; clear hS)
                        go_simp
                        try with_reducible rfl
                      refine wpAnyH_take (i := 27) (v := ?va327) rfl (by kernel_rfl) (by kernel_rfl) (by kernel_rfl) (fun _ _ _ h => h) (.inl ⟨by first | kernel_rfl | rfl, ?ya327⟩) hS0 ?_
                      case ya327 =>
                        intro w' hS
                        (have k1 := (hS.cell (p := ⟨b, off + i, none⟩) hb).trans c1; have k2 := (hS.cell (p := ⟨b, off + m, none⟩) hb).trans c2; have k3 := (hS.cell (p := ⟨g, i, none⟩) hwb).trans c3; have k4 := (hS.cell (p := ⟨g, m, none⟩) hwb).trans c4; clear hS)
                        go_simp
                        try with_reducible rfl
                      try simp only [Act.put, List.getElem_toArray, List.getElem_cons_zero, List.getElem_cons_succ, List.setIfInBounds_toArray, List.set_cons_zero, List.set_cons_succ]
                      refine wpAnyH_take (i := 8) (v := (.int .i64 (p1 : Int))) rfl (by kernel_rfl) (by kernel_rfl) (by kernel_rfl) (fun _ _ _ h => h) (.inl ⟨by first | kernel_rfl | rfl, ?ya48⟩) hS0 ?_
                      case ya48 =>
                        intro w' hS
                        (clear hS)
                        go_simp
                        (rw [IntKind.wrap_i64]; omega)
                        first | done | (simp; done) | (simp; omega) | omega | (simp [*]; done)
                      refine wpAnyH_take (i := 13) (v := (.int .i64 (s1 : Int))) rfl (by kernel_rfl) (by kernel_rfl) (by kernel_rfl) (fun _ _ _ h => h) (.inl ⟨by first | kernel_rfl | rfl, ?ya513⟩) hS0 ?_
                      case ya513 =>
                        intro w' hS
                        (clear hS)
                        go_simp
                        (rw [IntKind.wrap_i64]; omega)
                        first | done | (simp; done) | (simp; omega) | omega | (simp [*]; done)
                      refine wpAnyH_take (i := 14) (v := (.int .i64 (P : Int))) rfl (by kernel_rfl) (by kernel_rfl) (by kernel_rfl) (fun _ _ _ h => h) (.inl ⟨by first | kernel_rfl | rfl, ?ya614⟩) hS0 ?_
                      case ya614 =>
                        intro w' hS
                        (clear hS)
                        go_simp
                        (rw [IntKind.wrap_i64]; omega)
                        first | done | (simp; done) | (simp; omega) | omega | (simp [*]; done)
                      refine wpAnyH_take (i := 23) (v := (.int .i64 (p2 : Int))) rfl (by kernel_rfl) (by kernel_rfl) (by kernel_rfl) (fun _ _ _ h => h) (.inl ⟨by first | kernel_rfl | rfl, ?ya723⟩) hS0 ?_
                      case ya723 =>
                        intro w' hS
                        (clear hS)
                        go_simp
                        (rw [IntKind.wrap_i64]; omega)
                        first | done | (simp; done) | (simp; omega) | omega | (simp [*]; done)
                      refine wpAnyH_take (i := 28) (v := (.int .i64 (s2 : Int))) rfl (by kernel_rfl) (by kernel_rfl) (by kernel_rfl) (fun _ _ _ h => h) (.inl ⟨by first | kernel_rfl | rfl, ?ya828⟩) hS0 ?_
                      case ya828 =>
                        intro w' hS
                        (clear hS)
                        go_simp
                        (rw [IntKind.wrap_i64]; omega)
                        first | done | (simp; done) | (simp; omega) | omega | (simp [*]; done)
                      refine wpAnyH_take (i := 29) (v := (.int .i64 (Q : Int))) rfl (by kernel_rfl) (by kernel_rfl) (by kernel_rfl) (fun _ _ _ h => h) (.inl ⟨by first | kernel_rfl | rfl, ?ya929⟩) hS0 ?_
                      case ya929 =>
                        intro w' hS
                        (clear hS)
                        go_simp
                        (rw [IntKind.wrap_i64]; omega)
                        first | done | (simp; done) | (simp; omega) | omega | (simp [*]; done)
                      refine wpAnyH_take (i := 30) (v := (.bool true)) rfl (by kernel_rfl) (by kernel_rfl) (by kernel_rfl) (fun _ _ _ h => h) (.inl ⟨by first | kernel_rfl | rfl, ?ya1030⟩) hS0 ?_
                      case ya1030 =>
                        intro w' hS
                        (clear hS)
                        go_simp
                        first | done | (simp; done) | (simp; omega) | omega | (simp [*]; done)
                      try simp only [Act.put, List.getElem_toArray, List.getElem_cons_zero, List.getElem_cons_succ, List.setIfInBounds_toArray, List.set_cons_zero, List.set_cons_succ]
                      refine wpAnyH_done (by kernel_rfl) ?_ _
                      have hok3 := hok2.below hS0
                      have hB3 := hB2.trans (hS0.mono hB2.size)
                      clear hS0 c1 c2 c3 c4 m1 m2 m3 m4 m5 m6
                      go_wp2
                      go_roundw
                      case rel => exact ⟨i + 1, by omega, by omega, by simp, by rw [E.out], hok3, hB3⟩
                      case measure => simp [intOf]; omega
                    · have E := Lib.hid (show bwTo (wQ ws) (dvN (swTo ws q)) (i + 1) = m by rw [Hst.out, HPP.out, HQQ.out, if_neg hcmp])
                      go_wp2_with fail
                      refine wp_region_held_drew (S := fun w' => Below wr.heap.size wr w') hfw (Below.refl _ _).drew ?_
                      intro hS0
                      refine wpAnyH_take (i := 0) (v := ?vb10) rfl (by kernel_rfl) (by kernel_rfl) (by kernel_rfl) (fun _ _ _ h => h) (.inl ⟨by first | kernel_rfl | rfl, ?yb10⟩) hS0 ?_
                      case yb10 =>
                        intro w' hS
                        (clear hS)
                        go_simp
                        try with_reducible rfl
                      refine wpAnyH_take (i := 1) (v := ?vb11) rfl (by kernel_rfl) (by kernel_rfl) (by kernel_rfl) (fun _ _ _ h => h) (.inl ⟨by first | kernel_rfl | rfl, ?yb11⟩) hS0 ?_
                      case yb11 =>
                        intro w' hS
                        (clear hS)
                        go_simp
                        try with_reducible rfl
                      refine wpAnyH_take (i := 4) (v := ?vb14) rfl (by kernel_rfl) (by kernel_rfl) (by kernel_rfl) (fun _ _ _ h => h) (.inl ⟨by first | kernel_rfl | rfl, ?yb14⟩) hS0 ?_
                      case yb14 =>
                        intro w' hS
                        (clear hS)
                        go_simp
                        try with_reducible rfl
                      refine wpAnyH_take (i := 5) (v := ?vb15) rfl (by kernel_rfl) (by kernel_rfl) (by kernel_rfl) (fun _ _ _ h => h) (.inl ⟨by first | kernel_rfl | rfl, ?yb15⟩) hS0 ?_
                      case yb15 =>
                        intro w' hS
                        (clear hS)
                        go_simp
                        try with_reducible rfl
                      refine wpAnyH_take (i := 9) (v := ?vb19) rfl (by kernel_rfl) (by kernel_rfl) (by kernel_rfl) (fun _ _ _ h => h) (.inl ⟨by first | kernel_rfl | rfl, ?yb19⟩) hS0 ?_
                      case yb19 =>
                        intro w' hS
                        (clear hS)
                        go_simp
                        try with_reducible rfl
                      refine wpAnyH_take (i := 10) (v := ?vb110) rfl (by kernel_rfl) (by kernel_rfl) (by kernel_rfl) (fun _ _ _ h => h) (.inl ⟨by first | kernel_rfl | rfl, ?yb110⟩) hS0 ?_
                      case yb110 =>
                        intro w' hS
                        (clear hS)
                        go_simp
                        try with_reducible rfl
                      refine wpAnyH_take (i := 15) (v := ?vb115) rfl (by kernel_rfl) (by kernel_rfl) (by kernel_rfl) (fun _ _ _ h => h) (.inl ⟨by first | kernel_rfl | rfl, ?yb115⟩) hS0 ?_
                      case yb115 =>
                        intro w' hS
                        (clear hS)
                        go_simp
                        try with_reducible rfl
                      refine wpAnyH_take (i := 16) (v := ?vb116) rfl (by kernel_rfl) (by kernel_rfl) (by kernel_rfl) (fun _ _ _ h => h) (.inl ⟨by first | kernel_rfl | rfl, ?yb116⟩) hS0 ?_
                      case yb116 =>
                        intro w' hS
                        (clear hS)
                        go_simp
                        try with_reducible rfl
                      refine wpAnyH_take (i := 19) (v := ?vb119) rfl (by kernel_rfl) (by kernel_rfl) (by kernel_rfl) (fun _ _ _ h => h) (.inl ⟨by first | kernel_rfl | rfl, ?yb119⟩) hS0 ?_
                      case yb119 =>
                        intro w' hS
                        (clear hS)
                        go_simp
                        try with_reducible rfl
                      refine wpAnyH_take (i := 20) (v := ?vb120) rfl (by kernel_rfl) (by kernel_rfl) (by kernel_rfl) (fun _ _ _ h => h) (.inl ⟨by first | kernel_rfl | rfl, ?yb120⟩) hS0 ?_
                      case yb120 =>
                        intro w' hS
                        (clear hS)
                        go_simp
                        try with_reducible rfl
                      refine wpAnyH_take (i := 24) (v := ?vb124) rfl (by kernel_rfl) (by kernel_rfl) (by kernel_rfl) (fun _ _ _ h => h) (.inl ⟨by first | kernel_rfl | rfl, ?yb124⟩) hS0 ?_
                      case yb124 =>
                        intro w' hS
                        (clear hS)
                        go_simp
                        try with_reducible rfl
                      refine wpAnyH_take (i := 25) (v := ?vb125) rfl (by kernel_rfl) (by kernel_rfl) (by kernel_rfl) (fun _ _ _ h => h) (.inl ⟨by first | kernel_rfl | rfl, ?yb125⟩) hS0 ?_
                      case yb125 =>
                        intro w' hS
                        (clear hS)
                        go_simp
                        try with_reducible rfl
                      try simp only [Act.put, List.getElem_toArray, List.getElem_cons_zero, List.getElem_cons_succ, List.setIfInBounds_toArray, List.set_cons_zero, List.set_cons_succ]
                      refine wpAnyH_take (i := 2) (v := ?vb22) rfl (by kernel_rfl) (by kernel_rfl) (by kernel_rfl) (fun _ _ _ h => h) (.inl ⟨by first | kernel_rfl | rfl, ?yb22⟩) hS0 ?_
                      case yb22 =>
                        intro w' hS
                        (clear hS)
                        go_simp
                        try with_reducible rfl
                      refine wpAnyH_take (i := 6) (v := ?vb26) rfl (by kernel_rfl) (by kernel_rfl) (by kernel_rfl) (fun _ _ _ h => h) (.inl ⟨by first | kernel_rfl | rfl, ?yb26⟩) hS0 ?_
                      case yb26 =>
                        intro w' hS
                        (clear hS)
                        go_simp
                        try with_reducible rfl
                      refine wpAnyH_take (i := 11) (v := ?vb211) rfl (by kernel_rfl) (by kernel_rfl) (by kernel_rfl) (fun _ _ _ h => h) (.inl ⟨by first | kernel_rfl | rfl, ?yb211⟩) hS0 ?_
                      case yb211 =>
                        intro w' hS
                        (clear hS)
                        go_simp
                        try with_reducible rfl
                      refine wpAnyH_take (i := 17) (v := ?vb217) rfl (by kernel_rfl) (by kernel_rfl) (by kernel_rfl) (fun _ _ _ h => h) (.inl ⟨by first | kernel_rfl | rfl, ?yb217⟩) hS0 ?_
                      case yb217 =>
                        intro w' hS
                        (clear hS)
                        go_simp
                        try with_reducible rfl
                      refine wpAnyH_take (i := 21) (v := ?vb221) rfl (by kernel_rfl) (by kernel_rfl) (by kernel_rfl) (fun _ _ _ h => h) (.inl ⟨by first | kernel_rfl | rfl, ?yb221⟩) hS0 ?_
                      case yb221 =>
                        intro w' hS
                        (clear hS)
                        go_simp
                        try with_reducible rfl
                      refine wpAnyH_take (i := 26) (v := ?vb226) rfl (by kernel_rfl) (by kernel_rfl) (by kernel_rfl) (fun _ _ _ h => h) (.inl ⟨by first | kernel_rfl | rfl, ?yb226⟩) hS0 ?_
                      case yb226 =>
                        intro w' hS
                        (clear hS)
                        go_simp
                        try with_reducible rfl
                      try simp only [Act.put, List.getElem_toArray, List.getElem_cons_zero, List.getElem_cons_succ, List.setIfInBounds_toArray, List.set_cons_zero, List.set_cons_succ]
                      refine wpAnyH_take (i := 3) (v := ?vb33) rfl (by kernel_rfl) (by kernel_rfl) (by kernel_rfl) (fun _ _ _ h => h) (.inl ⟨by first | kernel_rfl | rfl, ?yb33⟩) hS0 ?_
                      case yb33 =>
                        intro w' hS
                        (have k1 := (hS.cell (p := ⟨b, off + i, none⟩) hb).trans c1; have k2 := (hS.cell (p := ⟨b, off + m, none⟩) hb).trans c2; have k3 := (hS.cell (p := ⟨g, i, none⟩) hwb).trans c3; have k4 := (hS.cell (p := ⟨g, m, none⟩) hwb).trans c4; clear hS)
                        go_simp
                        try with_reducible rfl
                      refine wpAnyH_take (i := 7) (v := ?vb37) rfl (by kernel_rfl) (by kernel_rfl) (by kernel_rfl) (fun _ _ _ h => h) (.inl ⟨by first | kernel_rfl | rfl, ?yb37⟩) hS0 ?_
                      case yb37 =>
                        intro w' hS
                        (have k1 := (hS.cell (p := ⟨b, off + i, none⟩) hb).trans c1; have k2 := (hS.cell (p := ⟨b, off + m, none⟩) hb).trans c2; have k3 := (hS.cell (p := ⟨g, i, none⟩) hwb).trans c3; have k4 := (hS.cell (p := ⟨g, m, none⟩) hwb).trans c4; clear hS)
                        go_simp
                        try with_reducible rfl
                      refine wpAnyH_take (i := 12) (v := ?vb312) rfl (by kernel_rfl) (by kernel_rfl) (by kernel_rfl) (fun _ _ _ h => h) (.inl ⟨by first | kernel_rfl | rfl, ?yb312⟩) hS0 ?_
                      case yb312 =>
                        intro w' hS
                        (have k1 := (hS.cell (p := ⟨b, off + i, none⟩) hb).trans c1; have k2 := (hS.cell (p := ⟨b, off + m, none⟩) hb).trans c2; have k3 := (hS.cell (p := ⟨g, i, none⟩) hwb).trans c3; have k4 := (hS.cell (p := ⟨g, m, none⟩) hwb).trans c4; clear hS)
                        go_simp
                        try with_reducible rfl
                      refine wpAnyH_take (i := 18) (v := ?vb318) rfl (by kernel_rfl) (by kernel_rfl) (by kernel_rfl) (fun _ _ _ h => h) (.inl ⟨by first | kernel_rfl | rfl, ?yb318⟩) hS0 ?_
                      case yb318 =>
                        intro w' hS
                        (have k1 := (hS.cell (p := ⟨b, off + i, none⟩) hb).trans c1; have k2 := (hS.cell (p := ⟨b, off + m, none⟩) hb).trans c2; have k3 := (hS.cell (p := ⟨g, i, none⟩) hwb).trans c3; have k4 := (hS.cell (p := ⟨g, m, none⟩) hwb).trans c4; clear hS)
                        go_simp
                        try with_reducible rfl
                      refine wpAnyH_take (i := 22) (v := ?vb322) rfl (by kernel_rfl) (by kernel_rfl) (by kernel_rfl) (fun _ _ _ h => h) (.inl ⟨by first | kernel_rfl | rfl, ?yb322⟩) hS0 ?_
                      case yb322 =>
                        intro w' hS
                        (have k1 := (hS.cell (p := ⟨b, off + i, none⟩) hb).trans c1; have k2 := (hS.cell (p := ⟨b, off + m, none⟩) hb).trans c2; have k3 := (hS.cell (p := ⟨g, i, none⟩) hwb).trans c3; have k4 := (hS.cell (p := ⟨g, m, none⟩) hwb).trans c4; clear hS)
                        go_simp
                        try with_reducible rfl
                      refine wpAnyH_take (i := 27) (v := ?vb327) rfl (by kernel_rfl) (by kernel_rfl) (by kernel_rfl) (fun _ _ _ h => h) (.inl ⟨by first | kernel_rfl | rfl, ?yb327⟩) hS0 ?_
                      case yb327 =>
                        intro w' hS
                        (have k1 := (hS.cell (p := ⟨b, off + i, none⟩) hb).trans c1; have k2 := (hS.cell (p := ⟨b, off + m, none⟩) hb).trans c2; have k3 := (hS.cell (p := ⟨g, i, none⟩) hwb).trans c3; have k4 := (hS.cell (p := ⟨g, m, none⟩) hwb).trans c4; clear hS)
                        go_simp
                        try with_reducible rfl
                      try simp only [Act.put, List.getElem_toArray, List.getElem_cons_zero, List.getElem_cons_succ, List.setIfInBounds_toArray, List.set_cons_zero, List.set_cons_succ]
                      refine wpAnyH_take (i := 8) (v := (.int .i64 (p1 : Int))) rfl (by kernel_rfl) (by kernel_rfl) (by kernel_rfl) (fun _ _ _ h => h) (.inl ⟨by first | kernel_rfl | rfl, ?yb48⟩) hS0 ?_
                      case yb48 =>
                        intro w' hS
                        (clear hS)
                        go_simp
                        (rw [IntKind.wrap_i64]; omega)
                        first | done | (simp; done) | (simp; omega) | omega | (simp [*]; done)
                      refine wpAnyH_take (i := 13) (v := (.int .i64 (s1 : Int))) rfl (by kernel_rfl) (by kernel_rfl) (by kernel_rfl) (fun _ _ _ h => h) (.inl ⟨by first | kernel_rfl | rfl, ?yb513⟩) hS0 ?_
                      case yb513 =>
                        intro w' hS
                        (clear hS)
                        go_simp
                        (rw [IntKind.wrap_i64]; omega)
                        first | done | (simp; done) | (simp; omega) | omega | (simp [*]; done)
                      refine wpAnyH_take (i := 14) (v := (.int .i64 (P : Int))) rfl (by kernel_rfl) (by kernel_rfl) (by kernel_rfl) (fun _ _ _ h => h) (.inl ⟨by first | kernel_rfl | rfl, ?yb614⟩) hS0 ?_
                      case yb614 =>
                        intro w' hS
                        (clear hS)
                        go_simp
                        (rw [IntKind.wrap_i64]; omega)
                        first | done | (simp; done) | (simp; omega) | omega | (simp [*]; done)
                      refine wpAnyH_take (i := 23) (v := (.int .i64 (p2 : Int))) rfl (by kernel_rfl) (by kernel_rfl) (by kernel_rfl) (fun _ _ _ h => h) (.inl ⟨by first | kernel_rfl | rfl, ?yb723⟩) hS0 ?_
                      case yb723 =>
                        intro w' hS
                        (clear hS)
                        go_simp
                        (rw [IntKind.wrap_i64]; omega)
                        first | done | (simp; done) | (simp; omega) | omega | (simp [*]; done)
                      refine wpAnyH_take (i := 28) (v := (.int .i64 (s2 : Int))) rfl (by kernel_rfl) (by kernel_rfl) (by kernel_rfl) (fun _ _ _ h => h) (.inl ⟨by first | kernel_rfl | rfl, ?yb828⟩) hS0 ?_
                      case yb828 =>
                        intro w' hS
                        (clear hS)
                        go_simp
                        (rw [IntKind.wrap_i64]; omega)
                        first | done | (simp; done) | (simp; omega) | omega | (simp [*]; done)
                      refine wpAnyH_take (i := 29) (v := (.int .i64 (Q : Int))) rfl (by kernel_rfl) (by kernel_rfl) (by kernel_rfl) (fun _ _ _ h => h) (.inl ⟨by first | kernel_rfl | rfl, ?yb929⟩) hS0 ?_
                      case yb929 =>
                        intro w' hS
                        (clear hS)
                        go_simp
                        (rw [IntKind.wrap_i64]; omega)
                        first | done | (simp; done) | (simp; omega) | omega | (simp [*]; done)
                      refine wpAnyH_take (i := 30) (v := (.bool false)) rfl (by kernel_rfl) (by kernel_rfl) (by kernel_rfl) (fun _ _ _ h => h) (.inl ⟨by first | kernel_rfl | rfl, ?yb1030⟩) hS0 ?_
                      case yb1030 =>
                        intro w' hS
                        (clear hS)
                        go_simp
                        first | done | (simp; done) | (simp; omega) | omega | (simp [*]; done)
                      try simp only [Act.put, List.getElem_toArray, List.getElem_cons_zero, List.getElem_cons_succ, List.setIfInBounds_toArray, List.set_cons_zero, List.set_cons_succ]
                      refine wpAnyH_done (by kernel_rfl) ?_ _
                      have hok3 := hok2.below hS0
                      have hB3 := hB2.trans (hS0.mono hB2.size)
                      clear hS0 c1 c2 c3 c4 m1 m2 m3 m4 m5 m6
                      go_wp2
                      go_roundw
                      case rel => exact ⟨i + 1, by omega, by omega, by simp, by rw [E.out], hok3, hB3⟩
                      case measure => simp [intOf]; omega
                  · obtain rfl : i = j := by omega
                    have hmi : (m : Int) < (i : Int) := by omega
                    have e4 := Hsb.out m (by rw [HK.out]; exact hbl)
                    have c4 := hok2.cellAt (j := m) (by rw [Hsl.out]; exact hbl)
                    have f4 := hok2.frozen m
                    obtain ⟨r1, r2⟩ := hok2.stored m (nth (swTo ws q) m + 1)
                    have Hnx2 := Lib.hid (show swTo ws (q + 1) = (swTo ws q).set m (nth (swTo ws q) m + 1) by rw [Hnx.out, HK.out, Hmq.out])
                    go_wp2
                    go_roundw
                    case rel => exact ⟨q + 1, by omega, by have := Hr1.out; simp; omega, by rw [Hnx2.out]; exact r1, hB2.setCell (p := ⟨g, m, none⟩) hg1 _⟩
                    case measure => simp [intOf]; omega
              · obtain rfl : q = N := by omega
                obtain rfl : r = 0 := by omega
                go_wp2
                go_ret2
                exact ⟨_, ret_v2 Hc.out.symm, by rw [Hr.out, Int.toNat_natCast]; exact hok, hBk⟩

end Go.Proofs.Ytgndbifcncklgaa
