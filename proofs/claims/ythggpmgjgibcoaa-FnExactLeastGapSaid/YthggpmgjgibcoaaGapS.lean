/-
  LeastGap of the model.
  Conditions: lists of at most 1048576 elements.
-/
import Derived.Test.YthggpmgjgibcoaaTopS
import Derived.Test.YthggpmgjgibcoaaGap
namespace Go.Proofs.Ythggpmgjgibcoaa
open Go.RowKit Go.Shelf
attribute [local go_sem] Oper.semAt_some

theorem cntP_mono {xs ys : List Int} (hp : Pos xs) (h : LeL xs ys) : ∀ k : Nat, k ≤ xs.length → cntP xs k ≤ cntP ys k := by
  intro k
  induction k with
  | zero => intro _; exact Int.le_refl _
  | succ k ih =>
    intro hk
    have h1 := ih (by omega)
    have h2 := h.2 k (by omega)
    have h3 := hp k (by omega)
    have h4 := cntP_pos hp (k := k) (by omega)
    exact Int.mul_le_mul h1 h2 (by omega) (by omega)
theorem cntL_set {zs : List Int} (ht : tasksOk zs = true) {j : Nat} (hj : j < zs.length) {g : Int} (h1 : 1 ≤ g) (h2 : g ≤ nth zs j) : cntL (zs.set j g) ≤ cntL zs := by
  have h40 := tasksOk_nth ht hj
  have hle : LeL (zs.set j g) zs := by
    have := set_le (zs := zs) (j := j) h2
    rwa [set_same hj] at this
  have := cntP_mono (pos_of (set_ok ht (j := j) h1 (by omega))) hle zs.length (by simp)
  unfold cntL
  rw [List.length_set]; exact this
theorem gapD_yes {zs : List Int} {j m : Nat} (h : CanAt zs j ((m : Int) + 1)) : gapD zs j (m + 1) = gapD zs j m := by
  conv => lhs; unfold gapD
  rw [if_pos h]
theorem gapD_no {zs : List Int} {j m : Nat} (h : ¬ CanAt zs j ((m : Int) + 1)) : gapD zs j (m + 1) = (m : Int) + 2 := by
  conv => lhs; unfold gapD
  rw [if_neg h]

set_option maxRecDepth 100000 in
set_option maxHeartbeats 8000000 in
open Classical in
theorem s_LeastGap (c0 : Value) (zs : List Int) (x : Int) (w : World) (hI : Ints w.heap.size w c0 zs) (_hN : I64s zs) (hm : zs.length ≤ 1048576) (_hx : I64 x) :
    Calls Try.prog 70 #[.agg #[c0], .int .i64 x] w fun e w' => e = .returned (.tuple #[.int .i64 (gapR zs x), .int .i64 (gapC zs x)]) ∧ Below w.heap.size w w' := by
  obtain ⟨a, cap, rfl⟩ := hI.shape
  have hB0 : Below w.heap.size w (w.alloc (.cells #[.slice a zs.length cap] 26)) := (Below.refl _ w).alloc (Nat.le_refl _) _
  cases ht : tasksOk zs
  · have hc : gapC zs x = 1 := by unfold gapC; rw [ht]; rfl
    have hr : gapR zs x = 0 := by unfold gapR; rw [hc]; rfl
    have Hc := Lib.hid hc
    have Hr := Lib.hid hr
    have Ht := Lib.hid ht
    clear ht hc hr
    go_enter Try.func70, Try.ntmps70
    go_wp2_with fail
    refine (l01Is_c _ zs _ (hI.later hB0) (by omega)).mono ?_
    rintro e w1 ⟨he, hb⟩
    rw [Ht.out] at he
    subst he
    go_wp2
    go_ret2
    exact ⟨by rw [Hc.out, Hr.out]; rfl, hB0.trans (hb.mono (by simp))⟩
  · have hl8 := tasksOk_len ht
    have Ht := Lib.hid ht
    have hwr : IntKind.i64.wrap ((zs.length : Int) - 1) = (zs.length : Int) - 1 := by rw [IntKind.wrap_i64]; omega
    cases hi : inB x 0 (zs.length - 1)
    · have hce : gapC zs x = 2 := by unfold gapC; rw [ht, hi]; rfl
      have hr : gapR zs x = 0 := by unfold gapR; rw [hce]; rfl
      have Hc := Lib.hid hce
      have Hr := Lib.hid hr
      have Hi := Lib.hid hi
      clear ht hce hr hi
      go_enter Try.func70, Try.ntmps70
      go_wp2_with fail
      refine (l01Is_c _ zs _ (hI.later hB0) (by omega)).mono ?_
      rintro e w1 ⟨he, hb⟩
      rw [Ht.out] at he
      subst he
      have b1 : Boxed w1 w.heap.size 26 (.slice a zs.length cap) := boxed_later (Boxed.new _ _ _) hb
      have k1 := b1.cell
      have hB1 := hB0.trans (hb.mono (by simp))
      clear hb
      go_wp2_with fail
      refine (l01K_c _ _ _ _).mono ?_
      rintro e w2 ⟨rfl, rfl⟩
      go_wp2_with fail
      refine (l01In_d false _ _ _ _ Hi.out).mono ?_
      rintro e w3 ⟨rfl, rfl⟩
      go_wp2
      go_ret2
      exact ⟨by rw [Hc.out, Hr.out]; rfl, hB1.alloc hB1.size _⟩
    · have hi2 := inB_true.1 hi
      obtain ⟨j, rfl⟩ : ∃ j : Nat, x = j := ⟨x.toNat, by omega⟩
      have hj : j < zs.length := by omega
      have hce : gapC zs j = servC zs := by unfold gapC; rw [ht, hi]; rfl
      have Hi := Lib.hid hi
      by_cases hf : fewC zs = 0
      · obtain ⟨_, h4⟩ := fewC_ok hf
        have Hf := Lib.hid hf
        by_cases hcan : CanL zs
        · have hs : servC zs = 0 := by unfold servC; rw [if_pos hf, if_pos hcan]
          have hre : gapR zs j = leastG zs j := by unfold gapR; rw [hce, if_pos hs]; rfl
          rw [hs] at hce
          have Hc := Lib.hid hce
          have Hr := Lib.hid hre
          have Hcan := Lib.hid hcan
          have Hd := Lib.hid (decide_eq_true hcan)
          have hgj := tasksOk_nth ht hj
          clear ht hce hre hs hi hcan hf
          go_enter Try.func70, Try.ntmps70
          go_wp2_with fail
          refine (l01Is_c _ zs _ (hI.later hB0) (by omega)).mono ?_
          rintro e w1 ⟨he, hb⟩
          rw [Ht.out] at he
          subst he
          have b1 : Boxed w1 w.heap.size 26 (.slice a zs.length cap) := boxed_later (Boxed.new _ _ _) hb
          have k1 := b1.cell
          have hB1 := hB0.trans (hb.mono (by simp))
          clear hb
          go_wp2_with fail
          refine (l01K_c _ _ _ _).mono ?_
          rintro e w2 ⟨rfl, rfl⟩
          go_wp2_with fail
          refine (l01In_d true _ _ _ _ Hi.out).mono ?_
          rintro e w3 ⟨rfl, rfl⟩
          have b2 := b1.alloc (.cells #[.slice a zs.length cap] 26)
          have k2 := b2.cell
          have hB2 := hB1.alloc hB1.size (.cells #[.slice a zs.length cap] 26)
          clear b1 k1 hB1
          go_wp2_with fail
          refine (l02Few_c _ zs _ (hI.later hB2) hm).mono ?_
          rintro e w4 ⟨he, hb⟩
          rw [Hf.out] at he
          subst he
          have b4 := boxed_later b2 hb
          have k4 := b4.cell
          have hB4 := hB2.trans (hb.mono hB2.size)
          clear hb b2 k2 hB2
          go_wp2_with fail
          refine (l02Can_c _ zs _ (hI.later hB4) Ht.out h4).mono ?_
          rintro e w5 ⟨he, hb⟩
          rw [Hd.out] at he
          subst he
          have b5 := boxed_later b4 hb
          have k5 := b5.cell
          have hB5 := hB4.trans (hb.mono hB4.size)
          clear hb b4 k4 hB4
          go_wp2_with fail
          refine (l01Own_c _ zs _ (hI.later hB5) (by omega) hm).mono ?_
          rintro e w6 ⟨v, rfl, ho, hb⟩
          obtain ⟨g, cap', rfl, hg1, hg2⟩ := ho.shape (by omega)
          have hB6 := hB5.trans (hb.mono hB5.size)
          have hs5 := hB5.size
          simp only [id]
          have hcan : CanAt zs j (nth zs j) := by unfold CanAt; rw [set_same hj]; exact Hcan.out
          have Hca := Lib.hid hcan
          have h00 : zs.set j (nth zs j) = zs := set_same hj
          have hoS : OwnI w5.heap.size w6 (.slice (some ⟨g, 0, none⟩) zs.length cap') (zs.set j (nth zs j)) := by rw [h00]; exact ho
          have hcs := fun (G : Int) (h1 : 1 ≤ G) (h2 : G ≤ nth zs j) => Int.le_trans (cntL_set Ht.out hj h1 h2) h4
          have Hcs := Lib.hid hcs
          have hlg : leastG zs j = gapD zs j (nth zs j - 1).toNat := rfl
          have Hlg := Lib.hid hlg
          clear hb b5 k5 hcan h00 hcs hlg
          go_wp2_with fail
          go_loopw [42] (fun _ wr => ∃ G : Int, 1 ≤ G ∧ G ≤ nth zs j ∧ leastG zs j = gapD zs j (G - 1).toNat ∧ OwnI w5.heap.size wr (.slice (some ⟨g, 0, none⟩) zs.length cap') (zs.set j G) ∧ Below w.heap.size w wr)
            (fun _ wr => match wr.cell? ⟨g, j, none⟩ with | some (.int _ x) => x.toNat | _ => 0)
          case atStart => exact ⟨nth zs j, hgj.1, Int.le_refl _, Hlg.out, hoS, hB6⟩
          case round =>
            obtain ⟨G, hG1, hG2, hL, hoW, hBW⟩ := hrel
            have hjs : j < (zs.set j G).length := by rw [List.length_set]; exact hj
            have kc := hoW.cellAt hjs
            rw [nth_setEq hj] at kc
            have fc := hoW.frozen j
            have HL := Lib.hid hL
            clear hL ho hoS
            by_cases h1 : G = 1
            · subst h1
              have hl : leastG zs j = 1 := by rw [HL.out]; rfl
              have Hl := Lib.hid hl
              clear hl
              go_wp2_with fail
              go_ret2
              exact ⟨by rw [Hr.out, Hc.out, Hl.out]; rfl, hBW⟩
            · obtain ⟨m, hm'⟩ : ∃ m : Nat, G = (m : Int) + 2 := ⟨(G - 2).toNat, by omega⟩
              have hG3 : 1 < G := by omega
              have htG : tasksOk (zs.set j (G - 1)) = true := set_ok Ht.out (by omega) (by omega)
              have h4G := Hcs.out (G - 1) (by omega) (by omega)
              have hst2 := (hoW.stored j (G - 1)).1
              rw [List.set_set] at hst2
              have hBs : Below w.heap.size w (wr.setCell ⟨g, j, none⟩ (.int .i64 (G - 1))) := hBW.setCell (p := ⟨g, j, none⟩) (by show w.heap.size ≤ g; omega) _
              have hjs2 : j < (zs.set j (G - 1)).length := by rw [List.length_set]; exact hj
              have hwG : IntKind.i64.wrap (G - 1) = G - 1 := by rw [IntKind.wrap_i64]; omega
              have Hm := Lib.hid hm'
              have Hkc := Lib.hid kc
              have Hst := Lib.hid hst2
              clear hst2 hm' h1
              go_wp2_with fail
              refine (l02Can_c _ (zs.set j (G - 1)) _ Hst.out.ints htG h4G).mono ?_
              rintro e w7 ⟨rfl, hb⟩
              have hoV := Hst.out.below hb
              have hBV := hBs.trans (hb.mono hBs.size)
              have kv := hoV.cellAt hjs2
              rw [nth_setEq hj] at kv
              have hLe : leastG zs j = gapD zs j (m + 1) := by rw [HL.out]; congr 1; have := Hm.out; omega
              by_cases hc : CanL (zs.set j (G - 1))
              · rw [decide_eq_true hc]
                have hc' : CanAt zs j ((m : Int) + 1) := by unfold CanAt; rw [show (m : Int) + 1 = G - 1 by have := Hm.out; omega]; exact hc
                rw [gapD_yes hc'] at hLe
                have HLe := Lib.hid hLe
                have Hkv := Lib.hid kv
                clear hc hc' hLe hb kc kv fc
                go_wp2_with fail
                go_roundw
                case rel => exact ⟨G - 1, by omega, by omega, by rw [HLe.out]; congr 1; have := Hm.out; omega, hoV, hBV⟩
                case measure =>
                  rw [Hkc.out, Hkv.out]
                  simp only []
                  omega
              · rw [decide_eq_false hc]
                have hc' : ¬ CanAt zs j ((m : Int) + 1) := by unfold CanAt; rw [show (m : Int) + 1 = G - 1 by have := Hm.out; omega]; exact hc
                rw [gapD_no hc'] at hLe
                have hLG : leastG zs j = G := by rw [hLe]; have := Hm.out; omega
                have HLG := Lib.hid hLG
                clear hc hc' hLe hLG hb kc fc
                go_wp2_with fail
                go_ret2
                exact ⟨by rw [Hr.out, Hc.out, HLG.out]; simp, hBV⟩
        · have hs : servC zs = 4 := by unfold servC; rw [if_pos hf, if_neg hcan]
          have hre : gapR zs j = 0 := by unfold gapR; rw [hce, hs]; rfl
          rw [hs] at hce
          have Hc := Lib.hid hce
          have Hr := Lib.hid hre
          have Hd := Lib.hid (decide_eq_false hcan)
          clear ht hce hre hs hi hcan hf
          go_enter Try.func70, Try.ntmps70
          go_wp2_with fail
          refine (l01Is_c _ zs _ (hI.later hB0) (by omega)).mono ?_
          rintro e w1 ⟨he, hb⟩
          rw [Ht.out] at he
          subst he
          have b1 : Boxed w1 w.heap.size 26 (.slice a zs.length cap) := boxed_later (Boxed.new _ _ _) hb
          have k1 := b1.cell
          have hB1 := hB0.trans (hb.mono (by simp))
          clear hb
          go_wp2_with fail
          refine (l01K_c _ _ _ _).mono ?_
          rintro e w2 ⟨rfl, rfl⟩
          go_wp2_with fail
          refine (l01In_d true _ _ _ _ Hi.out).mono ?_
          rintro e w3 ⟨rfl, rfl⟩
          have b2 := b1.alloc (.cells #[.slice a zs.length cap] 26)
          have k2 := b2.cell
          have hB2 := hB1.alloc hB1.size (.cells #[.slice a zs.length cap] 26)
          clear b1 k1 hB1
          go_wp2_with fail
          refine (l02Few_c _ zs _ (hI.later hB2) hm).mono ?_
          rintro e w4 ⟨he, hb⟩
          rw [Hf.out] at he
          subst he
          have b4 := boxed_later b2 hb
          have k4 := b4.cell
          have hB4 := hB2.trans (hb.mono hB2.size)
          clear hb b2 k2 hB2
          go_wp2_with fail
          refine (l02Can_c _ zs _ (hI.later hB4) Ht.out h4).mono ?_
          rintro e w5 ⟨he, hb⟩
          rw [Hd.out] at he
          subst he
          go_wp2_with fail
          go_ret2
          exact ⟨by rw [Hc.out, Hr.out]; rfl, hB4.trans (hb.mono hB4.size)⟩
      · have hs : servC zs = fewC zs := by unfold servC; rw [if_neg hf]
        have hre : gapR zs j = 0 := by unfold gapR; rw [hce, hs, if_neg hf]
        rw [hs] at hce
        have Hc := Lib.hid hce
        have Hr := Lib.hid hre
        have hq : (fewC zs != 0) = true := by simpa using hf
        have hp := fewC_bd zs
        clear ht hce hre hs hi hf
        go_enter Try.func70, Try.ntmps70
        go_wp2_with fail
        refine (l01Is_c _ zs _ (hI.later hB0) (by omega)).mono ?_
        rintro e w1 ⟨he, hb⟩
        rw [Ht.out] at he
        subst he
        have b1 : Boxed w1 w.heap.size 26 (.slice a zs.length cap) := boxed_later (Boxed.new _ _ _) hb
        have k1 := b1.cell
        have hB1 := hB0.trans (hb.mono (by simp))
        clear hb
        go_wp2_with fail
        refine (l01K_c _ _ _ _).mono ?_
        rintro e w2 ⟨rfl, rfl⟩
        go_wp2_with fail
        refine (l01In_d true _ _ _ _ Hi.out).mono ?_
        rintro e w3 ⟨rfl, rfl⟩
        have b2 := b1.alloc (.cells #[.slice a zs.length cap] 26)
        have k2 := b2.cell
        have hB2 := hB1.alloc hB1.size (.cells #[.slice a zs.length cap] 26)
        clear b1 k1 hB1
        go_wp2_with fail
        refine (l02Few_c _ zs _ (hI.later hB2) hm).mono ?_
        rintro e w4 ⟨rfl, hb⟩
        go_wp2_with fail
        go_ret2
        exact ⟨by rw [Hc.out, Hr.out]; rfl, hB2.trans (hb.mono hB2.size)⟩

end Go.Proofs.Ythggpmgjgibcoaa
