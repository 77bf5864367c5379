/-
  FirstKept of the model: the whole function.
  Conditions: lists of at most 1048576 elements.
-/
import Derived.Test.YthggpmgjgibcoaaFstS
namespace Go.Proofs.Ythggpmgjgibcoaa
open Go.RowKit Go.Shelf
attribute [local go_sem] Oper.semAt_some

theorem firstC_bd (zs st cs : List Int) : 0 ≤ firstC zs st cs ∧ firstC zs st cs ≤ 5 := by
  have h1 := stCode_bd zs st
  have h2 := lastCode_bd zs st
  unfold firstC; split <;> (try split) <;> omega

set_option maxRecDepth 100000 in
set_option maxHeartbeats 8000000 in
open Classical in
theorem s_FirstKept (c0 : Value) (zs : List Int) (c1 : Value) (st : List Int) (c2 : Value) (cs : List Int) (w : World) (hI : Ints w.heap.size w c0 zs) (_hN : I64s zs) (hm : zs.length ≤ 1048576) (hT : Ints w.heap.size w c1 st) (_hN1 : I64s st) (hm1 : st.length ≤ 1048576) (hC : Ints w.heap.size w c2 cs) (_hN2 : I64s cs) (hm2 : cs.length ≤ 1048576) :
    Calls Try.prog 60 #[.agg #[c0], c1, c2] w fun e w' => e = .returned (.tuple #[.int .i64 (firstR zs st cs), .int .i64 (firstC zs st cs)]) ∧ Below w.heap.size w w' := by
  obtain ⟨a, cap, rfl⟩ := hI.shape
  obtain ⟨a2, cap2, rfl⟩ := hT.shape
  obtain ⟨a3, cap3, rfl⟩ := hC.shape
  have hB0 : Below w.heap.size w (w.alloc (.cells #[.slice a zs.length cap] 26)) := (Below.refl _ w).alloc (Nat.le_refl _) _
  by_cases h0 : stCode zs st = 0
  · obtain ⟨ht, hs⟩ := stCode_zero h0
    have H0 := Lib.hid h0
    by_cases hch : chOk zs cs = true
    · have hcl : cs.length ≤ 120 := by
        unfold chOk at hch
        simp at hch
        omega
      by_cases hfw0 : fewC zs = 0
      · obtain ⟨_, h4⟩ := fewC_ok hfw0
        have hp := pos_of ht
        obtain ⟨mm, hm1', hm2', hm3⟩ := num_nat hp hs
        have hbl := bAt_last hp hs
        rw [hm1'] at hbl
        have Hbl := Lib.hid hbl
        have Hm := Lib.hid hm1'
        have hyes : Lasting zs st → firstC zs st cs = 0 ∧ firstR zs st cs = (firstK zs st cs : Int) := fun hl => by
          have hf : firstC zs st cs = 0 := by unfold firstC lastCode; rw [if_pos h0, if_pos hch, if_pos hfw0, if_pos hl]
          exact ⟨hf, by unfold firstR; rw [if_pos hf]⟩
        have hno : ¬ Lasting zs st → firstC zs st cs = 5 ∧ firstR zs st cs = 0 := fun hl => by
          have hf : firstC zs st cs = 5 := by unfold firstC lastCode; rw [if_pos h0, if_pos hch, if_pos hfw0, if_neg hl]
          exact ⟨hf, by unfold firstR; rw [hf]; rfl⟩
        have Hyes := Lib.hid hyes
        have Hno := Lib.hid hno
        have Hch := Lib.hid hch
        have Hfw := Lib.hid hfw0
        obtain ⟨N, hN⟩ : ∃ N, cntN zs = N := ⟨_, rfl⟩
        have HN := Lib.hid hN
        have hlb : (lastB zs).length = N := by rw [lastB_length, hN]
        have Hlb := Lib.hid hlb
        rw [hN] at hm2'
        clear h0 hch hfw0 hbl hm1' hm3 hyes hno hN hlb
        go_enter Try.func60, Try.ntmps60
        go_wp2_with fail
        refine (l02Code_c _ zs _ st _ (hI.later hB0) hm (hT.later hB0) hm1).mono ?_
        rintro e w1 ⟨he, hb⟩
        rw [H0.out] at he
        subst he
        have b1 : Boxed w1 w.heap.size 26 (.slice a zs.length cap) := boxed_later (Boxed.new _ _ _) hb
        have k1 := b1.cell
        have hB1 := hB0.trans (hb.mono (by simp))
        clear hb
        go_wp2_with fail
        refine (l02Choices_c _ zs _ cs _ (hI.later hB1) hm (hC.later hB1) hm2).mono ?_
        rintro e w2 ⟨he, hb⟩
        rw [Hch.out] at he
        subst he
        have b2 := boxed_later b1 hb
        have k2 := b2.cell
        have hB2 := hB1.trans (hb.mono hB1.size)
        clear hb b1 k1 hB1
        go_wp2_with fail
        refine (l02Few_c _ zs _ (hI.later hB2) hm).mono ?_
        rintro e w3 ⟨he, hb⟩
        rw [Hfw.out] at he
        subst he
        have b3 := boxed_later b2 hb
        have k3 := b3.cell
        have hB3 := hB2.trans (hb.mono hB2.size)
        clear hb b2 k2 hB2
        go_wp2_with fail
        refine (l02Lasting_c _ zs _ (hI.later hB3) ht h4).mono ?_
        rintro e w4 ⟨g, rfl, ho, hb⟩
        have hB4 := hB3.trans (hb.mono hB3.size)
        have b4 := boxed_later b3 hb
        have k4 := b4.cell
        have ho4 := ho.base (Nat.zero_le _)
        rw [HN.out] at ho4 ⊢
        clear hb b3 k3 hB3 ho
        go_wp2_with fail
        refine (l02Number_c _ zs _ st _ (hI.later hB4) ht (hT.later hB4) hs).mono ?_
        rintro e w5 ⟨rfl, hb⟩
        have ho5 := ho4.below hb
        have hcm := ho_cell ho5 Hlb.out hm2'
        have hB5 := hB4.trans (hb.mono hB4.size)
        have b5 := boxed_later b4 hb
        have k5 := b5.cell
        rw [Hm.out]
        clear hb b4 k4 hB4 ho4
        cases hv : bAt (lastB zs) (mm : Int)
        · rw [hv] at hcm
          obtain ⟨q1, q2⟩ := Hno.out (fun hl => by have := Hbl.out; rw [hv, decide_eq_true hl] at this; cases this)
          have Q1 := Lib.hid q1
          have Q2 := Lib.hid q2
          clear q1 q2
          go_wp2_with fail
          go_ret2
          exact ⟨by rw [Q1.out, Q2.out]; rfl, hB5⟩
        · rw [hv] at hcm
          obtain ⟨q1, q2⟩ := Hyes.out (by have := Hbl.out; rw [hv] at this; exact of_decide_eq_true this.symm)
          have Q1 := Lib.hid q1
          have Q2 := Lib.hid q2
          clear q1 q2
          have hfw : Try.prog.follows Departure.mixedOrders = true := by kernel_rfl
          go_wp2_with fail
          go_loopw [1, 10] (fun v i wr => ∃ k : Nat, k ≤ cs.length ∧ i = .int .i64 k ∧ Ints wr.heap.size wr v (runSt zs st cs k) ∧ (∀ j, j < k → Kpc zs (runSt zs st cs j) (nth cs j)) ∧ OwnB 0 wr (.slice (some ⟨g, 0, none⟩) N N) (lastB zs) ∧ Boxed wr w.heap.size 26 (.slice a zs.length cap) ∧ Below w.heap.size w wr) (fun _ i _ => cs.length - (intOf i).toNat)
          case atStart => exact ⟨0, Nat.zero_le _, rfl, hT.later hB5, by simp, ho5, b5, hB5⟩
          case round =>
            clear hcm ho5 b5 hB5 k5
            obtain ⟨k, hk, rfl, hTk, hall, hoW, hbW, hBW⟩ := hrel
            have hst := runSt_st hs hall
            obtain ⟨xs, hxs⟩ : ∃ xs, runSt zs st cs k = xs := ⟨_, rfl⟩
            rw [hxs] at hTk hst
            have Hxs := Lib.hid hxs
            have Hall := Lib.hid hall
            clear hxs hall
            obtain ⟨aS, cS, rfl⟩ := hTk.shape
            by_cases hlt : k < cs.length
            · obtain ⟨b, off, rfl, hbb, hc⟩ := hC.at_ hlt
              have hcw : ∀ W, Below w.heap.size w W → W.cell? ⟨b, off + k, none⟩ = some (.int .i64 (nth cs k)) := fun W h => (h.cell (p := ⟨b, off + k, none⟩) hbb).trans (hc k hlt)
              have Hcw := Lib.hid hcw
              clear hc hcw
              go_wp2_with fail
              refine wp_region_noPanic (wp_region_held_drew (S := fun w' => Boxed w' w.heap.size 26 (.slice a zs.length cap) ∧ Below w.heap.size w w') hfw ⟨hbW, hBW.drew⟩ ?_)
              intro hS0
              refine wpAnyH_take (i := 0) (v := ?v0) rfl (by kernel_rfl) (by kernel_rfl) (by kernel_rfl) (fun _ _ _ h => h) (.inl ⟨by rfl, ?y0⟩) hS0 ?_
              case y0 =>
                intro w' hS
                (have k1 := hS.1.cell; have k2 := Hcw.out _ hS.2; clear hS)
                go_simp
                try with_reducible rfl
              refine wpAnyH_take (i := 1) (v := ?v1) rfl (by kernel_rfl) (by kernel_rfl) (by kernel_rfl) (fun _ _ _ h => h) (.inl ⟨by rfl, ?y1⟩) hS0 ?_
              case y1 =>
                intro w' hS
                (have k1 := hS.1.cell; have k2 := Hcw.out _ hS.2; clear hS)
                go_simp
                try with_reducible rfl
              refine wpAnyH_take (i := 2) (v := ?v2) rfl (by kernel_rfl) (by kernel_rfl) (by kernel_rfl) (fun _ _ _ h => h) (.inl ⟨by rfl, ?y2⟩) hS0 ?_
              case y2 =>
                intro w' hS
                (have k1 := hS.1.cell; have k2 := Hcw.out _ hS.2; clear hS)
                go_simp
                try with_reducible rfl
              refine wpAnyH_take (i := 3) (v := ?v3) rfl (by kernel_rfl) (by kernel_rfl) (by kernel_rfl) (fun _ _ _ h => h) (.inl ⟨by rfl, ?y3⟩) hS0 ?_
              case y3 =>
                intro w' hS
                (have k1 := hS.1.cell; have k2 := Hcw.out _ hS.2; clear hS)
                go_simp
                try with_reducible rfl
              refine wpAnyH_take (i := 4) (v := ?v4) rfl (by kernel_rfl) (by kernel_rfl) (by kernel_rfl) (fun _ _ _ h => h) (.inl ⟨by rfl, ?y4⟩) hS0 ?_
              case y4 =>
                intro w' hS
                (have k1 := hS.1.cell; have k2 := Hcw.out _ hS.2; clear hS)
                go_simp
                try with_reducible rfl
              refine wpAnyH_take (i := 5) (v := ?v5) rfl (by kernel_rfl) (by kernel_rfl) (by kernel_rfl) (fun _ _ _ h => h) (.inl ⟨by rfl, ?y5⟩) hS0 ?_
              case y5 =>
                intro w' hS
                (have k1 := hS.1.cell; have k2 := Hcw.out _ hS.2; clear hS)
                go_simp
                try with_reducible rfl
              refine wpAnyH_ready (rs := [6]) (by kernel_rfl) (by simp) ?_
              refine AllReadyH.cons rfl (fun K' hK' => ?_) AllReadyH.nil
              rw [if_pos (by rfl)]
              go_simp
              refine (l02Step_c _ zs _ xs _ _ (hI.later hS0.2) ht (by exact hTk) hst).mono ?_
              rintro e w6 (⟨hop, v, rfl, hoV, hb⟩ | ⟨hop, rfl, hb⟩)
              · obtain ⟨aV, cV, rfl⟩ := hoV.ints.shape
                have hss := hst.step hop
                obtain ⟨m2, hn1, hn2, hn3⟩ := num_nat hp hss
                rw [HN.out] at hn2
                have hbl2 := bAt_last hp hss
                rw [hn1] at hbl2
                have Hbl2 := Lib.hid hbl2
                obtain ⟨ys, hys⟩ : ∃ ys, stepL zs xs (nth cs k) = ys := ⟨_, rfl⟩
                have hyl : ys.length ≤ 8 := by
                  have := (tasksOk_len ht).2
                  rw [← hys, stepL_length, hst.1]; omega
                rw [hys] at hoV hss hn1
                rw [hys]
                have Hys := Lib.hid hys
                have hbE := boxed_later hS0.1 hb
                have hBE := hS0.2.trans (hb.mono hS0.2.size)
                have hoE : OwnB 0 w6 (.slice (some ⟨g, 0, none⟩) N N) (lastB zs) := (show OwnB 0 wr.drew _ (lastB zs) from hoW).below hb
                have hTE : Ints w6.heap.size w6 (.slice aV ys.length cV) ys := hoV.ints
                clear hys hbl2 hn3 hoW hbW hBW hTk hb
                refine hK'.out _ _ ⟨hbE, hBE⟩ fun hS1 => ?_
                try simp only [id]
                refine wpAnyH_take (i := 7) (v := ?vp7) rfl (by kernel_rfl) (by kernel_rfl) (by kernel_rfl) (fun _ _ _ h => h) (.inl ⟨by rfl, ?yp7⟩) hS1 ?_
                case yp7 =>
                  intro w' hS
                  (clear hS)
                  go_simp
                  try with_reducible rfl
                refine wpAnyH_take (i := 8) (v := ?vp8) rfl (by kernel_rfl) (by kernel_rfl) (by kernel_rfl) (fun _ _ _ h => h) (.inl ⟨by rfl, ?yp8⟩) hS1 ?_
                case yp8 =>
                  intro w' hS
                  (clear hS)
                  go_simp
                  try with_reducible rfl
                refine wpAnyH_take (i := 9) (v := ?vp9) rfl (by kernel_rfl) (by kernel_rfl) (by kernel_rfl) (fun _ _ _ h => h) (.inl ⟨by rfl, ?yp9⟩) hS1 ?_
                case yp9 =>
                  intro w' hS
                  (clear hS)
                  go_simp
                  try with_reducible rfl
                refine wpAnyH_take (i := 10) (v := ?vp10) rfl (by kernel_rfl) (by kernel_rfl) (by kernel_rfl) (fun _ _ _ h => h) (.inl ⟨by rfl, ?yp10⟩) hS1 ?_
                case yp10 =>
                  intro w' hS
                  (clear hS)
                  go_simp
                  try with_reducible rfl
                refine wpAnyH_take (i := 11) (v := ?vp11) rfl (by kernel_rfl) (by kernel_rfl) (by kernel_rfl) (fun _ _ _ h => h) (.inl ⟨by rfl, ?yp11⟩) hS1 ?_
                case yp11 =>
                  intro w' hS
                  (clear hS)
                  go_simp
                  try with_reducible rfl
                refine wpAnyH_done (by kernel_rfl) (NoPanic.normal ?_) _
                have kE := hbE.cell
                go_wp2_with fail
                refine (l02Number_c _ zs _ ys _ (hI.later hBE) ht (by exact hTE) hss).mono ?_
                rintro e w7 ⟨rfl, hb⟩
                have hoF := hoE.below hb
                have hbF := boxed_later hbE hb
                have hBF := hBE.trans (hb.mono hBE.size)
                have hTF := hTE.later hb
                have hcm := ho_cell hoF Hlb.out hn2
                rw [hn1]
                clear hb hoE hbE kE hn1 hoV hTE
                cases hv2 : bAt (lastB zs) (m2 : Int)
                · rw [hv2] at hcm
                  have hno : ¬ Kpc zs xs (nth cs k) := fun h => by
                    have := Hbl2.out
                    rw [hv2, decide_eq_true h.2] at this
                    cases this
                  have hfk := firstK_at hlt Hall.out (by rw [Hxs.out]; exact hno)
                  have Hfk := Lib.hid hfk
                  clear hno hfk
                  go_wp2_with fail
                  go_ret2
                  exact ⟨by rw [Q1.out, Q2.out, Hfk.out]; rfl, hBF⟩
                · rw [hv2] at hcm
                  have hye : Kpc zs xs (nth cs k) := ⟨hop, by
                    have := Hbl2.out
                    rw [hv2] at this
                    exact of_decide_eq_true this.symm⟩
                  have Hye := Lib.hid hye
                  clear hye
                  go_wp2_with fail
                  go_roundw
                  case rel =>
                    refine ⟨k + 1, by omega, by simp, ?_, fun j hj => ?_, hoF, hbF, hBF⟩
                    · show Ints _ w7 _ (stepL zs (runSt zs st cs k) (nth cs k))
                      rw [Hxs.out, Hys.out]; exact hTF
                    · by_cases e : j = k
                      · subst e; rw [Hxs.out]; exact Hye.out
                      · exact Hall.out j (by omega)
                  case measure => simp [intOf]; omega
              · have hno : ¬ Kpc zs xs (nth cs k) := fun h => hop h.1
                have hfk := firstK_at hlt Hall.out (by rw [Hxs.out]; exact hno)
                have Hfk := Lib.hid hfk
                clear hno hfk
                have hbE := boxed_later hS0.1 hb
                have hBE := hS0.2.trans (hb.mono hS0.2.size)
                clear hb hoW hbW hBW hTk
                refine hK'.out _ _ ⟨hbE, hBE⟩ fun hS1 => ?_
                try simp only [id]
                refine wpAnyH_take (i := 7) (v := ?vq7) rfl (by kernel_rfl) (by kernel_rfl) (by kernel_rfl) (fun _ _ _ h => h) (.inl ⟨by rfl, ?yq7⟩) hS1 ?_
                case yq7 =>
                  intro w' hS
                  (clear hS)
                  go_simp
                  try with_reducible rfl
                refine wpAnyH_take (i := 8) (v := ?vq8) rfl (by kernel_rfl) (by kernel_rfl) (by kernel_rfl) (fun _ _ _ h => h) (.inl ⟨by rfl, ?yq8⟩) hS1 ?_
                case yq8 =>
                  intro w' hS
                  (clear hS)
                  go_simp
                  try with_reducible rfl
                refine wpAnyH_take (i := 9) (v := ?vq9) rfl (by kernel_rfl) (by kernel_rfl) (by kernel_rfl) (fun _ _ _ h => h) (.inl ⟨by rfl, ?yq9⟩) hS1 ?_
                case yq9 =>
                  intro w' hS
                  (clear hS)
                  go_simp
                  try with_reducible rfl
                refine wpAnyH_take (i := 10) (v := ?vq10) rfl (by kernel_rfl) (by kernel_rfl) (by kernel_rfl) (fun _ _ _ h => h) (.inl ⟨by rfl, ?yq10⟩) hS1 ?_
                case yq10 =>
                  intro w' hS
                  (clear hS)
                  go_simp
                  try with_reducible rfl
                refine wpAnyH_take (i := 11) (v := ?vq11) rfl (by kernel_rfl) (by kernel_rfl) (by kernel_rfl) (fun _ _ _ h => h) (.inl ⟨by rfl, ?yq11⟩) hS1 ?_
                case yq11 =>
                  intro w' hS
                  (clear hS)
                  go_simp
                  try with_reducible rfl
                refine wpAnyH_done (by kernel_rfl) (NoPanic.normal ?_) _
                go_wp2_with fail
                go_ret2
                exact ⟨by rw [Q1.out, Q2.out, Hfk.out]; rfl, hBE⟩
            · obtain rfl : k = cs.length := by omega
              have hfk := firstK_all Hall.out
              have Hfk := Lib.hid hfk
              clear hfk
              go_wp2_with fail
              go_ret2
              exact ⟨by rw [Q1.out, Q2.out, Hfk.out]; rfl, hBW⟩
      · have hne : firstC zs st cs = fewC zs := by unfold firstC lastCode; rw [if_pos h0, if_pos hch, if_neg hfw0]
        have hr : firstR zs st cs = 0 := by unfold firstR; rw [hne, if_neg hfw0]
        have Hn := Lib.hid hne
        have Hr := Lib.hid hr
        have Hch := Lib.hid hch
        have hq : (fewC zs != 0) = true := by simpa using hfw0
        have hq2 : (fewC zs == 0) = false := by simpa using hfw0
        have hp := fewC_bd zs
        clear h0 hch hfw0 hne hr
        go_enter Try.func60, Try.ntmps60
        go_wp2_with fail
        refine (l02Code_c _ zs _ st _ (hI.later hB0) hm (hT.later hB0) hm1).mono ?_
        rintro e w1 ⟨he, hb⟩
        rw [H0.out] at he
        subst he
        have b1 : Boxed w1 w.heap.size 26 (.slice a zs.length cap) := boxed_later (Boxed.new _ _ _) hb
        have k1 := b1.cell
        have hB1 := hB0.trans (hb.mono (by simp))
        clear hb
        go_wp2_with fail
        refine (l02Choices_c _ zs _ cs _ (hI.later hB1) hm (hC.later hB1) hm2).mono ?_
        rintro e w2 ⟨he, hb⟩
        rw [Hch.out] at he
        subst he
        have b2 := boxed_later b1 hb
        have k2 := b2.cell
        have hB2 := hB1.trans (hb.mono hB1.size)
        clear hb b1 k1 hB1
        go_wp2_with fail
        refine (l02Few_c _ zs _ (hI.later hB2) hm).mono ?_
        rintro e w3 ⟨rfl, hb⟩
        go_wp2_with fail
        go_ret2
        exact ⟨by rw [Hn.out, Hr.out]; rfl, hB2.trans (hb.mono hB2.size)⟩
    · have hne : firstC zs st cs = 2 := by unfold firstC; rw [if_pos h0, if_neg hch]
      have hr : firstR zs st cs = 0 := by unfold firstR; rw [hne]; rfl
      have hcf : chOk zs cs = false := by simpa using hch
      have Hn := Lib.hid hne
      have Hr := Lib.hid hr
      have Hch := Lib.hid hcf
      clear h0 hch hne hr hcf
      go_enter Try.func60, Try.ntmps60
      go_wp2_with fail
      refine (l02Code_c _ zs _ st _ (hI.later hB0) hm (hT.later hB0) hm1).mono ?_
      rintro e w1 ⟨he, hb⟩
      rw [H0.out] at he
      subst he
      have b1 : Boxed w1 w.heap.size 26 (.slice a zs.length cap) := boxed_later (Boxed.new _ _ _) hb
      have k1 := b1.cell
      have hB1 := hB0.trans (hb.mono (by simp))
      clear hb
      go_wp2_with fail
      refine (l02Choices_c _ zs _ cs _ (hI.later hB1) hm (hC.later hB1) hm2).mono ?_
      rintro e w2 ⟨he, hb⟩
      rw [Hch.out] at he
      subst he
      go_wp2_with fail
      go_ret2
      exact ⟨by rw [Hn.out, Hr.out]; rfl, hB1.trans (hb.mono hB1.size)⟩
  · have hne : firstC zs st cs = stCode zs st := by unfold firstC; rw [if_neg h0]
    have hr : firstR zs st cs = 0 := by unfold firstR; rw [hne, if_neg h0]
    have Hn := Lib.hid hne
    have Hr := Lib.hid hr
    have hq : (stCode zs st != 0) = true := by simpa using h0
    have hq2 : (stCode zs st == 0) = false := by simpa using h0
    have hp := stCode_bd zs st
    clear h0 hne hr
    go_enter Try.func60, Try.ntmps60
    go_wp2_with fail
    refine (l02Code_c _ zs _ st _ (hI.later hB0) hm (hT.later hB0) hm1).mono ?_
    rintro e w1 ⟨rfl, hb⟩
    go_wp2_with fail
    go_ret2
    exact ⟨by rw [Hn.out, Hr.out]; rfl, hB0.trans (hb.mono (by simp))⟩

end Go.Proofs.Ythggpmgjgibcoaa
