/-
  LeastGap of the program.
  Conditions: lists of at most 1048576 elements.
-/
import Derived.Test.YthggpmgjgibcoaaTopI
import Derived.Test.YthggpmgjgibcoaaRen
namespace Go.Proofs.Ythggpmgjgibcoaa
open Go.RowKit Go.Shelf Go.Maps
attribute [local go_sem] Oper.semAt_some

/-! ### the mathematics -/
/-- can the tasks be served with the gap g of the task j? -/
def CanAt (zs : List Int) (j : Nat) (g : Int) : Prop := CanL (zs.set j g)
theorem nth_setEq {zs : List Int} {j : Nat} {g : Int} (h : j < zs.length) : nth (zs.set j g) j = g := by rw [nth_set h, if_pos rfl]
theorem set_same {zs : List Int} {j : Nat} (h : j < zs.length) : zs.set j (nth zs j) = zs := by
  refine List.ext_getElem (by simp) fun i h1 h2 => ?_
  rw [List.getElem_set]
  split
  · rename_i e; subst e; simp [nth, h]
  · rfl
theorem set_ok {zs : List Int} (ht : tasksOk zs = true) {j : Nat} {g : Int} (h1 : 1 ≤ g) (h2 : g ≤ 40) : tasksOk (zs.set j g) = true := by
  have hl := tasksOk_len ht
  unfold tasksOk
  rw [all_true_of fun k hk => ?_, inB_true.2 (by rw [List.length_set]; omega)]
  · rfl
  · rw [List.length_set] at hk
    rw [nth_set hk]
    split
    · exact inB_true.2 ⟨h1, h2⟩
    · exact inB_true.2 (tasksOk_nth ht hk)
theorem set_le {zs : List Int} {j : Nat} {g g' : Int} (h : g ≤ g') : LeL (zs.set j g) (zs.set j g') := by
  refine ⟨by simp, fun i hi => ?_⟩
  rw [List.length_set] at hi
  rw [nth_set hi, nth_set hi]
  split
  · exact h
  · exact Int.le_refl _
theorem canAt_mono {zs : List Int} (ht : tasksOk zs = true) {j : Nat} {g g' : Int} (h1 : 1 ≤ g) (h2 : g ≤ 40) (h : g ≤ g') (hc : CanAt zs j g) : CanAt zs j g' := can_mono (pos_of (set_ok ht h1 h2)) (set_le h) hc
open Classical in
/-- counted down from n + 1 -/
noncomputable def gapD (zs : List Int) (j : Nat) : Nat → Int
  | 0 => 1
  | n + 1 => if CanAt zs j ((n : Int) + 1) then gapD zs j n else (n : Int) + 2
theorem gapD_eq {zs : List Int} (ht : tasksOk zs = true) {j : Nat} {G : Int} (h1 : 1 ≤ G) (h40 : G ≤ 40) (hc : CanAt zs j G) (hno : ∀ g : Int, 1 ≤ g → g < G → ¬ CanAt zs j g) : ∀ n : Nat, G ≤ (n : Int) + 1 → gapD zs j n = G := by
  intro n
  induction n with
  | zero => intro h; have : G = 1 := by omega
            rw [this]; rfl
  | succ n ih =>
    intro h
    unfold gapD
    by_cases e : G ≤ (n : Int) + 1
    · rw [if_pos (canAt_mono ht h1 h40 e hc)]
      exact ih e
    · rw [if_neg (hno _ (by omega) (by omega))]
      omega
noncomputable def leastG (zs : List Int) (j : Nat) : Int := gapD zs j (nth zs j - 1).toNat
open Classical in
noncomputable def servC (zs : List Int) : Int := if fewC zs = 0 then (if CanL zs then 0 else 4) else fewC zs
noncomputable def gapC (zs : List Int) (i : Int) : Int := if tasksOk zs then (if inB i 0 (zs.length - 1) then servC zs else 2) else 1
noncomputable def gapR (zs : List Int) (i : Int) : Int := if gapC zs i = 0 then leastG zs i.toNat else 0
theorem servC_bd (zs : List Int) : 0 ≤ servC zs ∧ servC zs ≤ 4 := by
  have := fewC_bd zs
  unfold servC; split <;> (try split) <;> omega
theorem servC_ok {zs : List Int} (h : servC zs = 0) : fewC zs = 0 ∧ CanL zs := by
  unfold servC at h
  by_cases h0 : fewC zs = 0
  · rw [if_pos h0] at h
    by_cases hc : CanL zs
    · exact ⟨h0, hc⟩
    · rw [if_neg hc] at h; cases h
  · rw [if_neg h0] at h; exact absurd h h0

set_option maxRecDepth 100000 in
set_option maxHeartbeats 8000000 in
open Classical in
theorem checkServed_c (c0 : Value) (zs : List Int) (w : World) (hI : Ints w.heap.size w c0 zs) (hN : I64s zs) (hm : zs.length ≤ 1048576) :
    Calls Try.prog 148 #[.agg #[c0]] w fun e w' => e = .returned (.int .i64 (servC zs)) ∧ Below w.heap.size w w' := by
  obtain ⟨a, cap, rfl⟩ := hI.shape
  have hB0 : Below w.heap.size w (w.alloc (.cells #[.slice a zs.length cap] 26)) := (Below.refl _ w).alloc (Nat.le_refl _) _
  by_cases hc : fewC zs = 0
  · obtain ⟨ht, _⟩ := fewC_ok hc
    have Hc := Lib.hid hc
    obtain ⟨d, hd⟩ : ∃ d, decide (CanL zs) = d := ⟨_, rfl⟩
    have hv : servC zs = if d then 0 else 4 := by
      unfold servC; rw [if_pos hc, ← hd]; simp
    have Hv := Lib.hid hv
    have Hd := Lib.hid hd
    clear hc hv hd
    go_enter Try.func148, Try.ntmps148
    go_wp2_with fail
    refine (checkStatesOf_c _ zs _ (hI.later hB0) hN hm).mono ?_
    rintro e w1 ⟨he, hb⟩
    rw [Hc.out] at he
    subst he
    have b1 : Boxed w1 w.heap.size 26 (.slice a zs.length cap) := boxed_later (Boxed.new _ _ _) hb
    have k1 := b1.cell
    have hB1 := hB0.trans (hb.mono (by simp))
    go_wp2_with fail
    refine (canBeServed_c _ zs _ (hI.later hB1) ht).mono ?_
    rintro e w2 ⟨he, hb2⟩
    rw [Hd.out] at he
    subst he
    cases d
    · go_wp2
      go_ret
      exact ⟨ret_int Hv.out.symm, hB1.trans (hb2.mono hB1.size)⟩
    · go_wp2
      go_ret
      exact ⟨ret_int Hv.out.symm, hB1.trans (hb2.mono hB1.size)⟩
  · have Hr := Lib.hid (show servC zs = fewC zs by unfold servC; rw [if_neg hc])
    have hq : (fewC zs != 0) = true := by simpa using hc
    have hp := fewC_bd zs
    clear hc
    go_enter Try.func148, Try.ntmps148
    go_wp2_with fail
    refine (checkStatesOf_c _ zs _ (hI.later hB0) hN hm).mono ?_
    rintro e w1 ⟨rfl, hb⟩
    go_wp2
    go_ret
    exact ⟨ret_int Hr.out.symm, hB0.trans (hb.mono (by simp))⟩

set_option maxRecDepth 100000 in
set_option maxHeartbeats 8000000 in
open Classical in
theorem i_LeastGap (c0 : Value) (zs : List Int) (x : Int) (w : World) (hI : Ints w.heap.size w c0 zs) (hN : I64s zs) (hm : zs.length ≤ 1048576) (hx : I64 x) :
    Calls Try.prog 69 #[.agg #[c0], .int .i64 x] w fun e w' => e = .returned (.tuple #[.int .i64 (gapR zs x), .int .i64 (gapC zs x)]) ∧ Below w.heap.size w w' := by
  obtain ⟨a, cap, rfl⟩ := hI.shape
  have hB0 : Below w.heap.size w (w.alloc (.cells #[.slice a zs.length cap] 26)) := (Below.refl _ w).alloc (Nat.le_refl _) _
  cases ht : tasksOk zs
  · have hc : gapC zs x = 1 := by unfold gapC; rw [ht]; rfl
    have hr : gapR zs x = 0 := by unfold gapR; rw [hc]; rfl
    have Hc := Lib.hid hc
    have Hr := Lib.hid hr
    have Ht := Lib.hid ht
    clear ht hc hr
    go_enter Try.func69, Try.ntmps69
    go_wp2_with fail
    refine (isTasks_c _ zs _ (hI.later hB0) (by omega)).mono ?_
    rintro e w1 ⟨he, hb⟩
    rw [Ht.out] at he
    subst he
    go_wp2
    go_ret2
    exact ⟨by rw [Hc.out, Hr.out]; rfl, hB0.trans (hb.mono (by simp))⟩
  · have hl8 := tasksOk_len ht
    have Ht := Lib.hid ht
    by_cases hi : 0 ≤ x ∧ x < zs.length
    · obtain ⟨j, rfl⟩ : ∃ j : Nat, x = j := ⟨x.toNat, by omega⟩
      have hj : j < zs.length := by omega
      have hib : inB (j : Int) 0 (zs.length - 1) = true := inB_true.2 (by omega)
      have hce : gapC zs j = servC zs := by unfold gapC; rw [ht, hib]; rfl
      by_cases hs : servC zs = 0
      · have hre : gapR zs j = leastG zs j := by unfold gapR; rw [hce, if_pos hs]; rfl
        rw [hs] at hce
        have Hc := Lib.hid hce
        have Hr := Lib.hid hre
        have Hs := Lib.hid hs
        obtain ⟨_, hcan⟩ := servC_ok hs
        have Hcan := Lib.hid hcan
        have hgj := tasksOk_nth ht hj
        clear ht hce hre hs hi hib hcan
        go_enter Try.func69, Try.ntmps69
        go_wp2_with fail
        refine (isTasks_c _ zs _ (hI.later hB0) (by omega)).mono ?_
        rintro e w1 ⟨he, hb⟩
        rw [Ht.out] at he
        subst he
        have b1 : Boxed w1 w.heap.size 26 (.slice a zs.length cap) := boxed_later (Boxed.new _ _ _) hb
        have k1 := b1.cell
        have hB1 := hB0.trans (hb.mono (by simp))
        clear hb
        go_wp2_with fail
        refine (checkServed_c _ zs _ (hI.later hB1) hN hm).mono ?_
        rintro e w2 ⟨he, hb⟩
        rw [Hs.out] at he
        subst he
        have b2 := boxed_later b1 hb
        have k2 := b2.cell
        have hB2 := hB1.trans (hb.mono hB1.size)
        clear hb b1 k1
        go_wp2_with fail
        refine (clone_c _ zs _ (hI.later hB2) (by omega) hm).mono ?_
        rintro e w3 ⟨v, rfl, ho, hb⟩
        obtain ⟨g, cap', rfl, hg1, hg2⟩ := ho.shape (by omega)
        have hB3 := hB2.trans (hb.mono hB2.size)
        have hs2 := hB2.size
        have hs3 := hb.size
        simp only [id]
        obtain ⟨wt, hwt⟩ : ∃ wt, (w3.alloc (.cells #[.slice none 0 0] 26)).setCell ⟨w3.heap.size, 0, none⟩ (.slice (some ⟨g, 0, none⟩) zs.length cap') = wt := ⟨_, rfl⟩
        have bt : Boxed wt w3.heap.size 26 (.slice (some ⟨g, 0, none⟩) zs.length cap') := by rw [← hwt]; exact (Boxed.new w3 _ _).set _
        have hot : OwnI w2.heap.size wt (.slice (some ⟨g, 0, none⟩) zs.length cap') zs := by rw [← hwt]; exact (ho.below ((Below.refl _ w3).alloc (Nat.le_refl _) _)).kept (grownBy_setCell2 _ _ _ _) (.inr (by simp [Value.ownBlock]; omega))
        have hBt : Below w.heap.size w wt := by rw [← hwt]; exact (hB3.alloc hB3.size _).setCell (p := ⟨w3.heap.size, 0, none⟩) (by show w.heap.size ≤ w3.heap.size; omega) _
        have hst : w3.heap.size + 1 ≤ wt.heap.size := by rw [← hwt]; simp [World.setCell]
        have kt := bt.cell
        have kg := hot.cellAt hj
        have fg := hot.frozen j
        clear hb b2 k2
        go_wp2_with fail
        have hcan : CanAt zs j (nth zs j) := by unfold CanAt; rw [set_same hj]; exact Hcan.out
        have Hca := Lib.hid hcan
        go_loopw [35] (fun _ wr => ∃ G : Int, 1 ≤ G ∧ G ≤ nth zs j ∧ (∀ h : Int, 1 ≤ h → h < G → ¬ CanAt zs j h) ∧ OwnI w2.heap.size wr (.slice (some ⟨g, 0, none⟩) zs.length cap') (zs.set j G) ∧ Boxed wr w3.heap.size 26 (.slice (some ⟨g, 0, none⟩) zs.length cap') ∧ Below w.heap.size w wr)
          (fun _ wr => match wr.cell? ⟨g, j, none⟩ with | some (.int _ x) => (41 - x).toNat | _ => 0)
        case atStart => exact ⟨1, Int.le_refl _, hgj.1, fun h h1 h2 => by omega, (hot.stored j 1).1, boxed_setFar bt (by omega), hBt.setCell (p := ⟨g, j, none⟩) (by show w.heap.size ≤ g; omega) _⟩
        case round =>
          obtain ⟨G, hG1, hG2, hno, hoW, hbW, hBW⟩ := hrel
          have kb := hbW.cell
          have hjs : j < (zs.set j G).length := by rw [List.length_set]; exact hj
          have kc := hoW.cellAt hjs
          rw [nth_setEq hj] at kc
          have htG : tasksOk (zs.set j G) = true := set_ok Ht.out hG1 (by omega)
          have Hno := Lib.hid hno
          clear hno hot bt hBt kt kg fg hwt hcan
          go_wp2_with fail
          refine (canBeServed_c _ (zs.set j G) _ hoW.ints htG).mono ?_
          rintro e w5 ⟨rfl, hb⟩
          have hoV := hoW.below hb
          have hbV := boxed_later hbW hb
          have hBV := hBW.trans (hb.mono hBW.size)
          have kv := hbV.cell
          have kw := hoV.cellAt hjs
          rw [nth_setEq hj] at kw
          have fw := hoV.frozen j
          by_cases hc : CanL (zs.set j G)
          · rw [decide_eq_true hc]
            have hl := gapD_eq Ht.out hG1 (by omega) hc Hno.out (nth zs j - 1).toNat (by omega)
            have hlg : leastG zs j = G := hl
            have Hlg := Lib.hid hlg
            clear hc hl hlg hb
            go_wp2_with fail
            go_ret2
            exact ⟨by rw [Hr.out, Hc.out, Hlg.out]; rfl, hBV⟩
          · rw [decide_eq_false hc]
            have hne : G ≠ nth zs j := fun e => hc (by rw [e]; exact Hca.out)
            have hlt : G + 1 ≤ nth zs j := by omega
            have Hc2 := Lib.hid hc
            have hst2 := (hoV.stored j (G + 1)).1
            rw [List.set_set] at hst2
            have Hst := Lib.hid hst2
            have Hkc := Lib.hid kc
            have Hcell := Lib.hid (hst2.cellAt (j := j) (by rw [List.length_set]; exact hj))
            clear hc hb hne hst2 kc
            go_wp2_with fail
            go_roundw
            case rel => exact ⟨G + 1, by omega, hlt, fun h h1 h2 => by by_cases e : h = G; exact e ▸ Hc2.out; exact Hno.out h h1 (by omega), Hst.out, boxed_setFar hbV (by omega), hBV.setCell (p := ⟨g, j, none⟩) (by show w.heap.size ≤ g; omega) _⟩
            case measure =>
              rw [Hkc.out, Hcell.out, nth_setEq hj]
              simp only []
              omega
      · have hr : gapR zs j = 0 := by unfold gapR; rw [hce, if_neg hs]
        have Hc := Lib.hid hce
        have Hr := Lib.hid hr
        have hq : (servC zs != 0) = true := by simpa using hs
        have hp := servC_bd zs
        clear ht hce hr hs hi hib
        go_enter Try.func69, Try.ntmps69
        go_wp2_with fail
        refine (isTasks_c _ zs _ (hI.later hB0) (by omega)).mono ?_
        rintro e w1 ⟨he, hb⟩
        rw [Ht.out] at he
        subst he
        have b1 : Boxed w1 w.heap.size 26 (.slice a zs.length cap) := boxed_later (Boxed.new _ _ _) hb
        have k1 := b1.cell
        have hB1 := hB0.trans (hb.mono (by simp))
        clear hb
        go_wp2_with fail
        refine (checkServed_c _ zs _ (hI.later hB1) hN hm).mono ?_
        rintro e w2 ⟨rfl, hb⟩
        go_wp2
        go_ret2
        exact ⟨by rw [Hc.out, Hr.out]; rfl, hB1.trans (hb.mono hB1.size)⟩
    · have hib : inB x 0 (zs.length - 1) = false := inB_false.2 (by omega)
      have hce : gapC zs x = 2 := by unfold gapC; rw [ht, hib]; rfl
      have hr : gapR zs x = 0 := by unfold gapR; rw [hce]; rfl
      have Hc := Lib.hid hce
      have Hr := Lib.hid hr
      clear ht hce hr hib
      by_cases h0 : x < 0
      · clear hi
        go_enter Try.func69, Try.ntmps69
        go_wp2_with fail
        refine (isTasks_c _ zs _ (hI.later hB0) (by omega)).mono ?_
        rintro e w1 ⟨he, hb⟩
        rw [Ht.out] at he
        subst he
        have b1 : Boxed w1 w.heap.size 26 (.slice a zs.length cap) := boxed_later (Boxed.new _ _ _) hb
        have k1 := b1.cell
        have hB1 := hB0.trans (hb.mono (by simp))
        clear hb
        go_wp2
        go_ret2
        exact ⟨by rw [Hc.out, Hr.out]; rfl, hB1⟩
      · have h1 : (zs.length : Int) ≤ x := by omega
        clear hi
        go_enter Try.func69, Try.ntmps69
        go_wp2_with fail
        refine (isTasks_c _ zs _ (hI.later hB0) (by omega)).mono ?_
        rintro e w1 ⟨he, hb⟩
        rw [Ht.out] at he
        subst he
        have b1 : Boxed w1 w.heap.size 26 (.slice a zs.length cap) := boxed_later (Boxed.new _ _ _) hb
        have k1 := b1.cell
        have hB1 := hB0.trans (hb.mono (by simp))
        clear hb
        go_wp2
        go_ret2
        exact ⟨by rw [Hc.out, Hr.out]; rfl, hB1⟩

end Go.Proofs.Ythggpmgjgibcoaa
