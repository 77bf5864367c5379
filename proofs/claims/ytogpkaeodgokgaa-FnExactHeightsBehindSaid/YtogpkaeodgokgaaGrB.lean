/-
  HeightsBehind of both.
  Conditions: lists of at most 1048576 elements.
-/
import Derived.Test.YtogpkaeodgokgaaGrF
namespace Go.Proofs.Ytogpkaeodgokgaa
open Go.RowKit Go.Shelf
attribute [local go_sem] Oper.semAt_some

def hbC (rs ts : List Int) (d : Int) : Int := if gtC rs ts = 0 then if inB d 0 200 = true then 0 else 2 else gtC rs ts
def hbR (rs ts : List Int) (d : Int) : List Int := if hbC rs ts d = 0 then tnG rs ts d.toNat else []
theorem hbR_len (rs ts : List Int) (d : Int) : (hbR rs ts d).length * 8 ≤ 140737488351232 := by
  unfold hbR
  split
  · rename_i h
    have h0 : gtC rs ts = 0 := by
      unfold hbC at h
      split at h
      · assumption
      · rename_i h1; exact absurd h h1
    have := gtC_ok h0
    have := gardenOk_len this.1
    rw [tnG_length]; omega
  · simp
theorem tnG_hi {rs ts : List Int} (h : gardenOk rs = true) (ht : turnsOk ts rs.length = true) {n : Nat} (hn : n ≤ 200) (k : Nat) : 0 ≤ nth (tnG rs ts n) k ∧ nth (tnG rs ts n) k ≤ 100000 := by
  have := tnG_bd h ht n k; omega
theorem cutAt_neg {hs : List Int} {c : Int} (h : c < 0) : cutAt hs c = hs := if_pos h
theorem cutAt_pos (hs : List Int) (j : Nat) : cutAt hs (j : Int) = hs.set j 0 := by unfold cutAt; rw [if_neg (by omega)]; rfl

set_option maxRecDepth 100000 in
set_option maxHeartbeats 8000000 in
theorem s_HeightsBehind (c0 : Value) (rs : List Int) (c1 : Value) (ts : List Int) (x : Int) (w : World) (hI : Ints w.heap.size w c0 rs) (_hN : I64s rs) (hm : rs.length ≤ 1048576) (hT : Ints w.heap.size w c1 ts) (_hN1 : I64s ts) (hm1 : ts.length ≤ 1048576) (_hx : I64 x) :
    Calls Try.prog 49 #[.agg #[c0], c1, .int .i64 x] w (GivesI w (hbR rs ts x) fun v => .tuple #[v, .int .i64 (hbC rs ts x)]) := by
  obtain ⟨a, cap, rfl⟩ := hI.shape
  obtain ⟨a2, cap2, rfl⟩ := hT.shape
  have hB0 : Below w.heap.size w (w.alloc (.cells #[.slice a rs.length cap] 48)) := (Below.refl _ w).alloc (Nat.le_refl _) _
  by_cases h : gtC rs ts = 0
  · by_cases hx : inB x 0 200 = true
    · have hok := gtC_ok h
      have hg := hok.1
      have ht := hok.2
      have hl8 := gardenOk_len hg
      have hx2 := inB_true.1 hx
      obtain ⟨D, rfl⟩ : ∃ D : Nat, x = (D : Int) := ⟨x.toNat, by omega⟩
      have hD : D ≤ 200 := by omega
      have Hc := Lib.hid h
      have hcc : hbC rs ts D = 0 := by unfold hbC; rw [if_pos h, if_pos hx]
      have Hcc := Lib.hid hcc
      have Hr := Lib.hid (show hbR rs ts D = tnG rs ts D by unfold hbR; rw [if_pos hcc]; rfl)
      have Hx := Lib.hid hx
      have Ht := Lib.hid ht
      have hfw : Try.prog.follows Departure.mixedOrders = true := by kernel_rfl
      have ht0 := turn_bd ht 0
      have hz : ((ts.length : Nat) : Int) ≠ 0 := by omega
      have hne : ¬ ts = [] := fun e => by rw [e] at ht0; simp at ht0
      clear h hok ht hcc hx
      obtain ⟨i0, hi, hz0, hz1, hz2⟩ := info_parts Try.infoI
      go_enter Try.func49, Try.ntmps49
      go_wp2_with fail
      refine (l06Turns_c _ _ rs ts _ (hI.later hB0) (hT.later hB0) (by omega) (by omega)).mono ?_
      rintro e w1 ⟨he, hb⟩
      rw [Hc.out] at he
      subst he
      have hB1 := hB0.trans (hb.mono (by simp))
      have bG : Boxed w1 w.heap.size 48 (.slice a rs.length cap) := boxed_later (Boxed.new _ _ _) hb
      have kG := bG.cell
      clear hb hB0
      go_wp2_with (first | (go_at_call 86; refine (l01In_d true _ _ _ _ Hx.out).mono ?_; rintro e w' ⟨rfl, rfl⟩) | (at_make; refine wpList_make_full _ rfl (.tmp 27) (.tmp 27) 22 rfl (w.heap.size + 1) 2 i0 (.int .i64 0) 1 Try.underlying22 hi hz0 hz1 .i64 .i64 _ _ rs.length rfl rfl rfl rfl ?c1 ?c2 ?c3 ?_))
      case c1 => rw [hz2]; omega
      case c2 => unfold maxLen; omega
      case c3 => have := bG.lt; omega
      intro w2 hown hgrow
      have ho0 := ownI_made hown
      have hB2 : Below w.heap.size w w2 := hB1.grown hgrow hB1.size (by simp)
      have bG2 := bG.kept hgrow (by simp)
      clear hown hgrow kG
      go_wp2
      go_loopw [9, 10] (fun v i wr => ∃ n : Nat, n ≤ D ∧ i = .int .i64 n ∧ OwnI (w.heap.size + 1) wr v (tnG rs ts n) ∧ Boxed wr w.heap.size 48 (.slice a rs.length cap) ∧ Below w.heap.size w wr) (fun _ i _ => D - (intOf i).toNat)
      case atStart => exact ⟨0, Nat.zero_le _, rfl, ho0, bG2, hB2⟩
      case round =>
        obtain ⟨n, hn, rfl, ho, hbx, hB⟩ := hrel
        clear ho0 bG2 hB2 hB1 bG
        have kb := hbx.cell
        by_cases hlt : n < D
        · have hltI : (n : Int) < (D : Int) := by omega
          obtain ⟨hs, hhs⟩ : ∃ hs, tnG rs ts n = hs := ⟨_, rfl⟩
          have hln : hs.length = rs.length := by rw [← hhs]; exact tnG_length _ _ _
          have hbd : ∀ k, 0 ≤ nth hs k ∧ nth hs k ≤ 100000 := by rw [← hhs]; exact tnG_hi hg Ht.out (by omega)
          have hsu := tnG_succ rs ts n
          rw [hhs] at ho hsu
          have Hbd := Lib.hid hbd
          have Hln := Lib.hid hln
          have hb3 := turn_bd Ht.out n
          have hml := Nat.mod_lt n (show 0 < ts.length by omega)
          have hmo : ((n : Nat) : Int).tmod ((ts.length : Nat) : Int) = ((n % ts.length : Nat) : Int) := rfl
          have hme : ((n : Nat) : Int) % ((ts.length : Nat) : Int) = ((n % ts.length : Nat) : Int) := by simp
          obtain ⟨m, hm0⟩ : ∃ m, n % ts.length = m := ⟨_, rfl⟩
          rw [hm0] at hml hmo hme hb3 hsu
          have Hsu := Lib.hid hsu
          have hsw : w.heap.size + 1 ≤ wr.heap.size := hbx.lt
          clear hhs hln hbd hsu hm0
          go_wp2_with fail
          refine (l06Grow_c _ rs _ hs 1 _ (hI.later hB) ho.ints hg Hln.out Hbd.out (by omega) (by omega)).mono ?_
          rintro e w3 ⟨v, rfl, ho3, hb4⟩
          simp only [id]
          have hB3 := hB.trans (hb4.mono hB.size)
          have hbx3 := boxed_later hbx hb4
          have kb3 := hbx3.cell
          obtain ⟨b2, off2, rfl, hbb, hc2⟩ := (hT.below hB3).at_ hml
          have hcz := hc2 m hml
          have ho4 := ho3.base hsw
          have hl3 : (growL rs hs 1).length = rs.length := by rw [growL_length]; exact Hln.out
          obtain ⟨gs, hgs⟩ : ∃ gs, growL rs hs 1 = gs := ⟨_, rfl⟩
          rw [hgs] at ho4 hl3
          have Hgs := Lib.hid hgs
          obtain ⟨g2, cap3, rfl, hg2, hg3⟩ := ho3.shape (by rw [growL_length, Hln.out]; omega)
          have hl4 := hl3
          rw [hgs, hl3] at ho4 ⊢
          have Hl4 := Lib.hid hl4
          clear hc2 ho3 hb4 ho kb hl3 hgs hl4
          by_cases hneg : nth ts m < 0
          · go_wp2
            go_roundw
            case rel => exact ⟨n + 1, by omega, by simp, by rw [Hsu.out, cutAt_neg hneg, Hgs.out]; exact ho4, hbx3, hB3⟩
            case measure => simp [intOf]; omega
          · obtain ⟨j, hj⟩ : ∃ j : Nat, nth ts m = (j : Int) := ⟨(nth ts m).toNat, by omega⟩
            have hjl : j < rs.length := by omega
            rw [hj] at hcz
            have Hj := Lib.hid hj
            have hjI : (j : Int) < (rs.length : Int) := by omega
            have hj0 : ¬ (j : Int) < 0 := by omega
            have cj := ho4.cellAt (j := j) (by rw [Hl4.out]; exact hjl)
            have fj := ho4.frozen j
            clear hj hneg
            go_wp2
            go_roundw
            case rel => exact ⟨n + 1, by omega, by simp, by rw [Hsu.out, Hj.out, cutAt_pos, Hgs.out]; exact (ho4.stored j 0).1, hbx3.kept (grownBy_setCell2 _ _ _ _) (by simp; omega), hB3.setCell (p := ⟨g2, j, none⟩) (by show w.heap.size ≤ g2; omega) _⟩
            case measure => simp [intOf]; omega
        · obtain rfl : n = D := by omega
          go_wp2
          go_ret2
          exact ⟨_, ret_v2 Hcc.out.symm, by rw [Hr.out]; exact ho.base (by omega), hB⟩
    · have hx : inB x 0 200 = false := by simpa using hx
      have Hc := Lib.hid h
      have hcc : hbC rs ts x = 2 := by unfold hbC; rw [if_pos h, if_neg (by rw [hx]; simp)]
      have Hcc := Lib.hid hcc
      have Hr := Lib.hid (show hbR rs ts x = [] by unfold hbR; rw [if_neg (by omega)])
      have Hx := Lib.hid hx
      have hx2 := inB_false.1 hx
      clear h hx hcc
      clear hx2
      go_enter Try.func49, Try.ntmps49
      go_wp2_with fail
      refine (l06Turns_c _ _ rs ts _ (hI.later hB0) (hT.later hB0) (by omega) (by omega)).mono ?_
      rintro e w1 ⟨he, hb⟩
      rw [Hc.out] at he
      subst he
      have hB1 := hB0.trans (hb.mono (by simp))
      have bG : Boxed w1 w.heap.size 48 (.slice a rs.length cap) := boxed_later (Boxed.new _ _ _) hb
      have kG := bG.cell
      clear hb hB0
      go_wp2_with (go_at_call 86; refine (l01In_d false _ _ _ _ Hx.out).mono ?_; rintro e w' ⟨rfl, rfl⟩)
      go_ret2
      exact ⟨_, ret_v2 Hcc.out.symm, by rw [Hr.out]; exact ownI_nil _ _, hB1⟩
  · have hq : (gtC rs ts != 0) = true := by simpa using h
    have hq2 : (gtC rs ts == 0) = false := by simpa using h
    have hcc : hbC rs ts x = gtC rs ts := by unfold hbC; rw [if_neg h]
    have Hr := Lib.hid (show hbR rs ts x = [] by unfold hbR; rw [if_neg (by rw [hcc]; exact h)])
    obtain ⟨c, hc⟩ : ∃ c, gtC rs ts = c := ⟨_, rfl⟩
    rw [hc] at hq hq2 hcc
    have Hcc := Lib.hid hcc
    have Hc := Lib.hid hc
    clear h hc hcc
    go_enter Try.func49, Try.ntmps49
    go_wp2_with fail
    refine (l06Turns_c _ _ rs ts _ (hI.later hB0) (hT.later hB0) (by omega) (by omega)).mono ?_
    rintro e w1 ⟨he, hb⟩
    rw [Hc.out] at he
    subst he
    have hB1 := hB0.trans (hb.mono (by simp))
    have bG : Boxed w1 w.heap.size 48 (.slice a rs.length cap) := boxed_later (Boxed.new _ _ _) hb
    have kG := bG.cell
    clear hb hB0
    go_wp2
    go_ret2
    exact ⟨_, ret_v2 Hcc.out.symm, by rw [Hr.out]; exact ownI_nil _ _, hB1⟩

set_option maxRecDepth 100000 in
set_option maxHeartbeats 8000000 in
theorem i_HeightsBehind (c0 : Value) (rs : List Int) (c1 : Value) (ts : List Int) (x : Int) (w : World) (hI : Ints w.heap.size w c0 rs) (_hN : I64s rs) (hm : rs.length ≤ 1048576) (hT : Ints w.heap.size w c1 ts) (_hN1 : I64s ts) (hm1 : ts.length ≤ 1048576) (_hx : I64 x) :
    Calls Try.prog 50 #[.agg #[c0], c1, .int .i64 x] w (GivesI w (hbR rs ts x) fun v => .tuple #[v, .int .i64 (hbC rs ts x)]) := by
  obtain ⟨a, cap, rfl⟩ := hI.shape
  obtain ⟨a2, cap2, rfl⟩ := hT.shape
  have hB0 : Below w.heap.size w (w.alloc (.cells #[.slice a rs.length cap] 48)) := (Below.refl _ w).alloc (Nat.le_refl _) _
  by_cases h : gtC rs ts = 0
  · by_cases hx : inB x 0 200 = true
    · have hok := gtC_ok h
      have hg := hok.1
      have ht := hok.2
      have hl8 := gardenOk_len hg
      have hx2 := inB_true.1 hx
      obtain ⟨D, rfl⟩ : ∃ D : Nat, x = (D : Int) := ⟨x.toNat, by omega⟩
      have hD : D ≤ 200 := by omega
      have Hc := Lib.hid h
      have hcc : hbC rs ts D = 0 := by unfold hbC; rw [if_pos h, if_pos hx]
      have Hcc := Lib.hid hcc
      have Hr := Lib.hid (show hbR rs ts D = tnG rs ts D by unfold hbR; rw [if_pos hcc]; rfl)
      have Hx := Lib.hid hx
      have Ht := Lib.hid ht
      have hfw : Try.prog.follows Departure.mixedOrders = true := by kernel_rfl
      have ht0 := turn_bd ht 0
      have hz : ((ts.length : Nat) : Int) ≠ 0 := by omega
      have hne : ¬ ts = [] := fun e => by rw [e] at ht0; simp at ht0
      clear h hok ht hcc hx
      go_enter Try.func50, Try.ntmps50
      go_wp2_with fail
      refine (checkTurnsIn_c _ _ rs ts _ (hI.later hB0) (hT.later hB0) (by omega) (by omega)).mono ?_
      rintro e w1 ⟨he, hb⟩
      rw [Hc.out] at he
      subst he
      have hB1 := hB0.trans (hb.mono (by simp))
      have bG : Boxed w1 w.heap.size 48 (.slice a rs.length cap) := boxed_later (Boxed.new _ _ _) hb
      have kG := bG.cell
      clear hb hB0
      go_wp2_with fail
      refine (byPlantOf_c _ rs _ (hI.later hB1) hl8.1 hl8.2).mono ?_
      rintro e w2 ⟨rfl, hb2⟩
      have hB2 := hB1.trans (hb2.mono hB1.size)
      have bG2 := boxed_later bG hb2
      clear hb2 hB1 bG kG
      obtain ⟨W0, hW0⟩ : ∃ W0, (w2.alloc (.cells (ceI rs) 90)).alloc (.cells (ceI []) 90) = W0 := ⟨_, rfl⟩
      have hbW : Below w2.heap.size w2 W0 := by rw [← hW0]; exact ((Below.refl _ _).alloc (Nat.le_refl _) _).alloc (by simp) _
      have bS : ArI W0 w2.heap.size rs := by rw [← hW0]; exact (ArI.new _ _).alloc _
      have bH : ArI W0 (w2.heap.size + 1) [] := by rw [← hW0]; simpa using ArI.new (w2.alloc (.cells (ceI rs) 90)) []
      have hW1 : (w2.alloc (.cells #[.int .i64 (nth rs 0), .int .i64 (nth rs 1), .int .i64 (nth rs 2), .int .i64 (nth rs 3), .int .i64 (nth rs 4), .int .i64 (nth rs 5), .int .i64 (nth rs 6), .int .i64 (nth rs 7)] 90)).alloc (.cells #[.int .i64 0, .int .i64 0, .int .i64 0, .int .i64 0, .int .i64 0, .int .i64 0, .int .i64 0, .int .i64 0] 90) = W0 := hW0
      have hB3 := hB2.trans (hbW.mono hB2.size)
      have bG3 := boxed_later bG2 hbW
      have hs2 : w.heap.size + 1 ≤ w2.heap.size := bG2.lt
      obtain ⟨V0, hV0⟩ : ∃ V0, stoI W0 (w2.heap.size + 1) [] = V0 := ⟨_, rfl⟩
      have gg := grownBy_stoI W0 (w2.heap.size + 1) []
      have bH0 : ArI V0 (w2.heap.size + 1) (tnG rs ts 0) := by
        rw [← hV0]
        exact (ArI.storedI [] bH).ext fun i hi => by rw [show tnG rs ts 0 = List.replicate rs.length 0 from rfl, nth_zeros]; unfold nth; simp
      have gB := below_stoI [] hB3 (b := w2.heap.size + 1) (by omega) (Nat.le_refl _)
      replace bS := bS.kept gg (by simp)
      replace bG3 := bG3.kept gg (by simp; omega)
      rw [hV0] at bS bG3 gB
      replace hV0 : ((((((((W0.setCell ⟨w2.heap.size + 1, 0, none⟩ (.int .i64 0)).setCell ⟨w2.heap.size + 1, 1, none⟩ (.int .i64 0)).setCell ⟨w2.heap.size + 1, 2, none⟩ (.int .i64 0)).setCell ⟨w2.heap.size + 1, 3, none⟩ (.int .i64 0)).setCell ⟨w2.heap.size + 1, 4, none⟩ (.int .i64 0)).setCell ⟨w2.heap.size + 1, 5, none⟩ (.int .i64 0)).setCell ⟨w2.heap.size + 1, 6, none⟩ (.int .i64 0)).setCell ⟨w2.heap.size + 1, 7, none⟩ (.int .i64 0)) = V0 := hV0
      have cH0 := bH.cell (i := 0) (by omega)
      have cH1 := bH.cell (i := 1) (by omega)
      have cH2 := bH.cell (i := 2) (by omega)
      have cH3 := bH.cell (i := 3) (by omega)
      have cH4 := bH.cell (i := 4) (by omega)
      have cH5 := bH.cell (i := 5) (by omega)
      have cH6 := bH.cell (i := 6) (by omega)
      have cH7 := bH.cell (i := 7) (by omega)
      have fH0 := bH.frozen 0
      have fH1 := bH.frozen 1
      have fH2 := bH.frozen 2
      have fH3 := bH.frozen 3
      have fH4 := bH.frozen 4
      have fH5 := bH.frozen 5
      have fH6 := bH.frozen 6
      have fH7 := bH.frozen 7
      clear hW0 hbW bH hB3 gg
      have hB3 := gB
      clear gB
      unfold arI
      rw [show ceI rs = #[.int .i64 (nth rs 0), .int .i64 (nth rs 1), .int .i64 (nth rs 2), .int .i64 (nth rs 3), .int .i64 (nth rs 4), .int .i64 (nth rs 5), .int .i64 (nth rs 6), .int .i64 (nth rs 7)] from rfl]
      go_wp2_with fail
      try rw [hW1]
      try rw [hV0]
      clear hW1 hV0 cH0 cH1 cH2 cH3 cH4 cH5 cH6 cH7 fH0 fH1 fH2 fH3 fH4 fH5 fH6 fH7
      go_loopw [29] (fun i wr => ∃ n : Nat, n ≤ D ∧ i = .int .i64 n ∧ ArI wr (w2.heap.size + 1) (tnG rs ts n) ∧ ArI wr w2.heap.size rs ∧ Boxed wr w.heap.size 48 (.slice a rs.length cap) ∧ Below w.heap.size w wr) (fun i _ => D - (intOf i).toNat)
      case atStart => exact ⟨0, Nat.zero_le _, rfl, bH0, bS, bG3, hB3⟩
      case round =>
        obtain ⟨n, hn, rfl, h1, h2, h3, hB⟩ := hrel
        clear bH0 bS bG3 hB3 hB2 bG2
        by_cases hlt : n < D
        · have hltI : (n : Int) < (D : Int) := by omega
          obtain ⟨hs, hhs⟩ : ∃ hs, tnG rs ts n = hs := ⟨_, rfl⟩
          have hln : hs.length = rs.length := by rw [← hhs]; exact tnG_length _ _ _
          have hbd : ∀ k, 0 ≤ nth hs k ∧ nth hs k ≤ 100000 := by rw [← hhs]; exact tnG_hi hg Ht.out (by omega)
          have hsu := tnG_succ rs ts n
          rw [hhs] at h1 hsu
          have Hbd := Lib.hid hbd
          have Hln := Lib.hid hln
          have hb3 := turn_bd Ht.out n
          have hml := Nat.mod_lt n (show 0 < ts.length by omega)
          have hmo : ((n : Nat) : Int).tmod ((ts.length : Nat) : Int) = ((n % ts.length : Nat) : Int) := rfl
          have hme : ((n : Nat) : Int) % ((ts.length : Nat) : Int) = ((n % ts.length : Nat) : Int) := by simp
          obtain ⟨m, hm0⟩ : ∃ m, n % ts.length = m := ⟨_, rfl⟩
          rw [hm0] at hml hmo hme hb3 hsu
          obtain ⟨b2, off2, rfl, hbb, hc2⟩ := hT.at_ hml
          have hcz := hc2 m hml
          obtain ⟨z, hz9⟩ : ∃ z, nth ts m = z := ⟨_, rfl⟩
          rw [hz9] at hcz hb3 hsu
          have Hsu := Lib.hid hsu
          have hmlI : (m : Int) < (ts.length : Int) := by omega
          have hd := (Below.refl wr.heap.size wr).drew
          have h1d := h1.later hd
          clear hhs hln hbd hsu hm0 hc2 hz9
          go_wp2_with fail
          refine wp_region_noPanic (wp_region_held_drew (S := fun w' => ArI w' w2.heap.size rs ∧ Boxed w' w.heap.size 48 (.slice a rs.length cap) ∧ Below w.heap.size w w') hfw ⟨h2.later hd, boxed_later h3 hd, hB.drew⟩ ?_)
          intro hS0
          refine wpAnyH_take (i := 1) (v := ?vp11) rfl (by kernel_rfl) (by kernel_rfl) (by kernel_rfl) (fun _ _ _ h => h) (.inl ⟨by rfl, ?yp11⟩) hS0 ?_
          case yp11 =>
            intro w' hS
            (have k0 := hS.1.cell (i := 0) (by omega); have k1 := hS.1.cell (i := 1) (by omega); have k2 := hS.1.cell (i := 2) (by omega); have k3 := hS.1.cell (i := 3) (by omega); have k4 := hS.1.cell (i := 4) (by omega); have k5 := hS.1.cell (i := 5) (by omega); have k6 := hS.1.cell (i := 6) (by omega); have k7 := hS.1.cell (i := 7) (by omega); clear hS)
            go_simp
            try with_reducible rfl
          refine wpAnyH_take (i := 3) (v := ?vp23) rfl (by kernel_rfl) (by kernel_rfl) (by kernel_rfl) (fun _ _ _ h => h) (.inl ⟨by rfl, ?yp23⟩) hS0 ?_
          case yp23 =>
            intro w' hS
            (clear hS)
            go_simp
            try with_reducible rfl
          refine wpAnyH_take (i := 4) (v := ?vp24) rfl (by kernel_rfl) (by kernel_rfl) (by kernel_rfl) (fun _ _ _ h => h) (.inl ⟨by rfl, ?yp24⟩) hS0 ?_
          case yp24 =>
            intro w' hS
            (clear hS)
            go_simp
            try with_reducible rfl
          refine wpAnyH_take (i := 5) (v := ?vp25) rfl (by kernel_rfl) (by kernel_rfl) (by kernel_rfl) (fun _ _ _ h => h) (.inl ⟨by rfl, ?yp25⟩) hS0 ?_
          case yp25 =>
            intro w' hS
            (clear hS)
            go_simp
            try with_reducible rfl
          refine wpAnyH_take (i := 6) (v := ?vp26) rfl (by kernel_rfl) (by kernel_rfl) (by kernel_rfl) (fun _ _ _ h => h) (.inl ⟨by rfl, ?yp26⟩) hS0 ?_
          case yp26 =>
            intro w' hS
            (clear hS)
            go_simp
            try with_reducible rfl
          refine wpAnyH_take (i := 7) (v := (.int .i64 (m : Int))) rfl (by kernel_rfl) (by kernel_rfl) (by kernel_rfl) (fun _ _ _ h => h) (.inl ⟨by first | kernel_rfl | rfl, ?yp37⟩) hS0 ?_
          case yp37 =>
            intro w' hS
            (clear hS)
            go_simp
            try exact hne
            first | done | (simp; done) | (simp; omega) | omega | (simp [*]; done)
          refine wpAnyH_take (i := 8) (v := ?vp48) rfl (by kernel_rfl) (by kernel_rfl) (by kernel_rfl) (fun _ _ _ h => h) (.inl ⟨by rfl, ?yp48⟩) hS0 ?_
          case yp48 =>
            intro w' hS
            (have k1 := (hS.2.2.cell (p := ⟨b2, off2 + m, none⟩) hbb).trans hcz; clear hS)
            go_simp
            try with_reducible rfl
          refine wpAnyH_take (i := 9) (v := ?vp49) rfl (by kernel_rfl) (by kernel_rfl) (by kernel_rfl) (fun _ _ _ h => h) (.inl ⟨by rfl, ?yp49⟩) hS0 ?_
          case yp49 =>
            intro w' hS
            (have k1 := (hS.2.2.cell (p := ⟨b2, off2 + m, none⟩) hbb).trans hcz; clear hS)
            go_simp
            try with_reducible rfl
          have k0 := h1d.cell (i := 0) (by omega)
          have k1 := h1d.cell (i := 1) (by omega)
          have k2 := h1d.cell (i := 2) (by omega)
          have k3 := h1d.cell (i := 3) (by omega)
          have k4 := h1d.cell (i := 4) (by omega)
          have k5 := h1d.cell (i := 5) (by omega)
          have k6 := h1d.cell (i := 6) (by omega)
          have k7 := h1d.cell (i := 7) (by omega)
          refine wpAnyH_ready (rs := [0]) (by kernel_rfl) (by simp) ?_
          refine AllReadyH.cons rfl (fun K' hK' => ?_) AllReadyH.nil
          rw [if_pos (by rfl)]
          go_simp
          refine hK'.out _ _ hS0 fun hS1 => ?_
          clear k0 k1 k2 k3 k4 k5 k6 k7
          refine wpAnyH_ready (rs := [2]) (by kernel_rfl) (by simp) ?_
          refine AllReadyH.cons rfl (fun K' hK' => ?_) AllReadyH.nil
          rw [if_pos (by rfl)]
          go_simp
          refine (grown_c hs rs (growL rs hs 1) 1 _ Hbd.out (gardenOk_any hg) (by omega) (by omega) (fun i _ => nth_growA Hln.out i)).mono ?_
          rintro e w5 ⟨rfl, hb5⟩
          refine hK'.out _ _ ⟨hS1.1.later hb5, boxed_later hS1.2.1 hb5, hS1.2.2.trans (hb5.mono hS1.2.2.size)⟩ fun hS2 => ?_
          refine wpAnyH_ready (rs := [10]) (by kernel_rfl) (by simp) ?_
          refine AllReadyH.cons rfl (fun K' hK' => ?_) AllReadyH.nil
          rw [if_pos (by rfl)]
          go_simp
          refine (without_c (growL rs hs 1) (cutAt (growL rs hs 1) z) z _ (by omega) (by omega) (fun i _ => nth_cutAt (by omega) i)).mono ?_
          rintro e w6 ⟨rfl, hb6⟩
          refine hK'.out _ _ ⟨hS2.1.later hb6, boxed_later hS2.2.1 hb6, hS2.2.2.trans (hb6.mono hS2.2.2.size)⟩ fun hS3 => ?_
          have h16 : ArI w6 (w2.heap.size + 1) hs := (h1d.later hb5).later hb6
          rw [← Hsu.out]
          obtain ⟨ys, hys⟩ : ∃ ys, tnG rs ts (n + 1) = ys := ⟨_, rfl⟩
          have Hys := Lib.hid hys
          rw [hys]
          have g1 : ArI (stoI w6 (w2.heap.size + 1) ys) (w2.heap.size + 1) ys := ArI.storedI ys h16
          have gg := grownBy_stoI w6 (w2.heap.size + 1) ys
          have g2 := hS3.1.kept gg (by simp)
          have g3 := hS3.2.1.kept gg (by simp; omega)
          have gB := below_stoI ys hS3.2.2 (b := w2.heap.size + 1) (by omega) (Nat.le_refl _)
          obtain ⟨W5, hW5⟩ : ∃ W5, stoI w6 (w2.heap.size + 1) ys = W5 := ⟨_, rfl⟩
          rw [hW5] at g1 g2 g3 gB
          unfold stoI at hW5
          have q0 := h16.cell (i := 0) (by omega)
          have q1 := h16.cell (i := 1) (by omega)
          have q2 := h16.cell (i := 2) (by omega)
          have q3 := h16.cell (i := 3) (by omega)
          have q4 := h16.cell (i := 4) (by omega)
          have q5 := h16.cell (i := 5) (by omega)
          have q6 := h16.cell (i := 6) (by omega)
          have q7 := h16.cell (i := 7) (by omega)
          have f0 := h16.frozen 0
          have f1 := h16.frozen 1
          have f2 := h16.frozen 2
          have f3 := h16.frozen 3
          have f4 := h16.frozen 4
          have f5 := h16.frozen 5
          have f6 := h16.frozen 6
          have f7 := h16.frozen 7
          clear h1 h2 h3 hB hS0 hS1 hS2 hb5 hb6 h1d hd gg hys
          unfold arI
          rw [show ceI ys = #[.int .i64 (nth ys 0), .int .i64 (nth ys 1), .int .i64 (nth ys 2), .int .i64 (nth ys 3), .int .i64 (nth ys 4), .int .i64 (nth ys 5), .int .i64 (nth ys 6), .int .i64 (nth ys 7)] from rfl]
          refine wpAnyH_ready (rs := [11]) (by kernel_rfl) (by simp) ?_
          refine AllReadyH.cons rfl (fun K' hK' => ?_) AllReadyH.nil
          rw [if_pos (by rfl)]
          go_simp
          try rw [hW5]
          refine hK'.out _ _ ⟨g2, g3, gB⟩ fun hS4 => ?_
          refine wpAnyH_done (by kernel_rfl) (NoPanic.normal ?_) _
          clear hS3 hS4 hW5 h16 q0 q1 q2 q3 q4 q5 q6 q7 f0 f1 f2 f3 f4 f5 f6 f7
          go_wp2
          go_roundw
          case rel => exact ⟨n + 1, by omega, by first | rfl | simp, by rw [Hys.out]; exact g1, g2, g3, gB⟩
          case measure => simp [intOf]; omega
        · obtain rfl : n = D := by omega
          have k3 := h3.cell
          have k0 := h1.cell (i := 0) (by omega)
          have k1 := h1.cell (i := 1) (by omega)
          have k2 := h1.cell (i := 2) (by omega)
          have k3 := h1.cell (i := 3) (by omega)
          have k4 := h1.cell (i := 4) (by omega)
          have k5 := h1.cell (i := 5) (by omega)
          have k6 := h1.cell (i := 6) (by omega)
          have k7 := h1.cell (i := 7) (by omega)
          have hln : (tnG rs ts n).length = rs.length := tnG_length _ _ _
          go_wp2_with fail
          refine (numbers_c2 (tnG rs ts n) _ rs _ (hI.later hB) hl8.1 hl8.2 hln).mono ?_
          rintro e w6 ⟨v, rfl, ho, hb6⟩
          simp only [id]
          clear k0 k1 k2 k3 k4 k5 k6 k7
          go_wp2
          go_ret2
          exact ⟨v, ret_v2 Hcc.out.symm, by rw [Hr.out]; exact ho.base hB.size, hB.trans (hb6.mono hB.size)⟩
    · have hx : inB x 0 200 = false := by simpa using hx
      have Hc := Lib.hid h
      have hcc : hbC rs ts x = 2 := by unfold hbC; rw [if_pos h, if_neg (by rw [hx]; simp)]
      have Hcc := Lib.hid hcc
      have Hr := Lib.hid (show hbR rs ts x = [] by unfold hbR; rw [if_neg (by omega)])
      have Hx := Lib.hid hx
      have hx2 := inB_false.1 hx
      clear h hx hcc
      by_cases hx0 : x < 0
      · clear hx2
        go_enter Try.func50, Try.ntmps50
        go_wp2_with fail
        refine (checkTurnsIn_c _ _ rs ts _ (hI.later hB0) (hT.later hB0) (by omega) (by omega)).mono ?_
        rintro e w1 ⟨he, hb⟩
        rw [Hc.out] at he
        subst he
        have hB1 := hB0.trans (hb.mono (by simp))
        have bG : Boxed w1 w.heap.size 48 (.slice a rs.length cap) := boxed_later (Boxed.new _ _ _) hb
        have kG := bG.cell
        clear hb hB0
        go_wp2
        go_ret2
        exact ⟨_, ret_v2 Hcc.out.symm, by rw [Hr.out]; exact ownI_nil _ _, hB1⟩
      · have hx1 : 200 < x := by omega
        clear hx2
        go_enter Try.func50, Try.ntmps50
        go_wp2_with fail
        refine (checkTurnsIn_c _ _ rs ts _ (hI.later hB0) (hT.later hB0) (by omega) (by omega)).mono ?_
        rintro e w1 ⟨he, hb⟩
        rw [Hc.out] at he
        subst he
        have hB1 := hB0.trans (hb.mono (by simp))
        have bG : Boxed w1 w.heap.size 48 (.slice a rs.length cap) := boxed_later (Boxed.new _ _ _) hb
        have kG := bG.cell
        clear hb hB0
        go_wp2
        go_ret2
        exact ⟨_, ret_v2 Hcc.out.symm, by rw [Hr.out]; exact ownI_nil _ _, hB1⟩
  · have hq : (gtC rs ts != 0) = true := by simpa using h
    have hq2 : (gtC rs ts == 0) = false := by simpa using h
    have hcc : hbC rs ts x = gtC rs ts := by unfold hbC; rw [if_neg h]
    have Hr := Lib.hid (show hbR rs ts x = [] by unfold hbR; rw [if_neg (by rw [hcc]; exact h)])
    obtain ⟨c, hc⟩ : ∃ c, gtC rs ts = c := ⟨_, rfl⟩
    rw [hc] at hq hq2 hcc
    have Hcc := Lib.hid hcc
    have Hc := Lib.hid hc
    clear h hc hcc
    go_enter Try.func50, Try.ntmps50
    go_wp2_with fail
    refine (checkTurnsIn_c _ _ rs ts _ (hI.later hB0) (hT.later hB0) (by omega) (by omega)).mono ?_
    rintro e w1 ⟨he, hb⟩
    rw [Hc.out] at he
    subst he
    have hB1 := hB0.trans (hb.mono (by simp))
    have bG : Boxed w1 w.heap.size 48 (.slice a rs.length cap) := boxed_later (Boxed.new _ _ _) hb
    have kG := bG.cell
    clear hb hB0
    go_wp2
    go_ret2
    exact ⟨_, ret_v2 Hcc.out.symm, by rw [Hr.out]; exact ownI_nil _ _, hB1⟩

end Go.Proofs.Ytogpkaeodgokgaa
