/-
  ServeTogether of both.
  Conditions: at most 1048576 gaps and lists, of at most 1048576 elements each.
-/
import Derived.Test.YtlgjnceedjbakaaClc
import Derived.Test.YtlgjnceedjbakaaWtI
import Derived.Test.YtlgjnceedjbakaaServe
namespace Go.Proofs.Ytlgjnceedjbakaa
open Go.RowKit Go.Shelf
attribute [local go_sem] Oper.semAt_some

/-- the first n tasks are served -/
def stTo (zs : List Int) (xss : List (List Int)) (n : Nat) : Bool := (List.range n).all fun i => inB (greatW (togL xss (i : Int)) (i : Int)) 1 (nth zs i)
theorem stTo_succ (zs : List Int) (xss : List (List Int)) (n : Nat) : stTo zs xss (n + 1) = (stTo zs xss n && inB (greatW (togL xss (n : Int)) (n : Int)) 1 (nth zs n)) := by
  simp [stTo, List.range_succ, List.all_append]
theorem stTo_false {zs : List Int} {xss : List (List Int)} {n m : Nat} (h : n < m) (hd : inB (greatW (togL xss (n : Int)) (n : Int)) 1 (nth zs n) = false) : stTo zs xss m = false := by
  unfold stTo
  rw [List.all_eq_false]
  exact ⟨n, List.mem_range.2 h, by simp [hd]⟩
def stC (zs : List Int) (xss : List (List Int)) : Int := if tasksOk zs then (if chOk zs.length xss then (if 0 < (clL zs.length xss).length then 5 else 0) else 2) else 1
def stR (zs : List Int) (xss : List (List Int)) : Bool := if stC zs xss = 0 then stTo zs xss zs.length else false
theorem stR_no {zs : List Int} {xss : List (List Int)} (h : stC zs xss ≠ 0) : stR zs xss = false := if_neg h
theorem ret_b2s {a b : Bool} {c d : Int} (h : a = b) (k : c = d) : Ending.returned (.tuple #[.bool a, .int .i64 c]) = .returned (.tuple #[.bool b, .int .i64 d]) := by rw [h, k]

set_option maxRecDepth 100000 in
set_option maxHeartbeats 16000000 in
theorem s_ServeTogether (c0 : Value) (zs : List Int) (c1 : Value) (xss : List (List Int)) (w : World) (hI : Ints w.heap.size w c0 zs) (_hN : I64s zs) (hm0 : zs.length ≤ 1048576) (hX : Lsts w.heap.size w c1 xss) (hm : xss.length ≤ 1048576) (hm2 : ∀ c, c < xss.length → (lst xss c).length ≤ 1048576) :
    Calls Try.prog 28 #[.agg #[c0], c1] w fun e w' => e = .returned (.tuple #[.bool (stR zs xss), .int .i64 (stC zs xss)]) ∧ Below w.heap.size w w' := by
  obtain ⟨a, cap, rfl⟩ := hI.shape
  obtain ⟨a2, cap2, rfl⟩ := hX.shape
  have HX := Lib.hid hX
  have Hm2 := Lib.hid hm2
  have hB0 : Below w.heap.size w (w.alloc (.cells #[.slice a zs.length cap] 42)) := (Below.refl _ w).alloc (Nat.le_refl _) _
  clear hX hm2
  go_enter Try.func28, Try.ntmps28
  go_wp2_with fail
  refine (l01Is_c _ zs _ (hI.later hB0) (by omega)).mono ?_
  rintro e w1 ⟨rfl, hb1⟩
  have b1 : Boxed w1 w.heap.size 42 (.slice a zs.length cap) := boxed_later (Boxed.new _ _ _) hb1
  have hB1 := hB0.trans (hb1.mono (by simp))
  clear hb1
  cases ht : tasksOk zs
  · have hc : stC zs xss = 1 := by unfold stC; rw [ht]; rfl
    have Hr := Lib.hid (stR_no (zs := zs) (xss := xss) (by omega))
    have Hc := Lib.hid hc
    clear ht hc
    go_wp2
    go_ret2
    exact ⟨ret_b2s Hr.out.symm Hc.out.symm, hB1⟩
  have htb := tasksOk_len ht
  have k1 := b1.cell
  have Ht := Lib.hid ht
  have hk64 : I64 (zs.length : Int) := by unfold I64; omega
  clear ht
  go_wp2_with fail
  refine (l01K_c _ _ _ _).mono ?_
  rintro e w2 ⟨rfl, rfl⟩
  have b2 := b1.alloc (.cells #[.slice a zs.length cap] 42)
  have hB2 := hB1.alloc hB1.size (.cells #[.slice a zs.length cap] 42)
  go_wp2_with fail
  refine (l08Are_c (zs.length : Int) _ xss _ hk64 (HX.out.later hB2) hm Hm2.out).mono ?_
  rintro e w3 ⟨rfl, hb3⟩
  have b3 := boxed_later b2 hb3
  have hB3 := hB2.trans (hb3.mono hB2.size)
  clear b1 b2 k1 hB1 hB2 hb3 hB0
  cases hch : chOk zs.length xss
  · have hc : stC zs xss = 2 := by unfold stC; rw [Ht.out, hch]; rfl
    have Hr := Lib.hid (stR_no (zs := zs) (xss := xss) (by omega))
    have Hc := Lib.hid hc
    clear hch hc
    go_wp2
    go_ret2
    exact ⟨ret_b2s Hr.out.symm Hc.out.symm, hB3⟩
  have HC := Lib.hid (chOk_iff.1 hch)
  have Hch := Lib.hid hch
  have k3 := b3.cell
  clear hch
  go_wp2_with fail
  refine (l01K_c _ _ _ _).mono ?_
  rintro e w4 ⟨rfl, rfl⟩
  have b4 := b3.alloc (.cells #[.slice a zs.length cap] 42)
  have hB4 := hB3.alloc hB3.size (.cells #[.slice a zs.length cap] 42)
  go_wp2_with fail
  refine (l08Clashes_c zs.length _ xss _ (HX.out.later hB4) HC.out).mono ?_
  rintro e w5 ⟨v5, rfl, ho5, hb5⟩
  simp only [id]
  obtain ⟨a5, c5, rfl⟩ := ho5.shape
  rw [clPairs_length]
  have b5 := boxed_later b4 hb5
  have hB5 := hB4.trans (hb5.mono hB4.size)
  clear b3 b4 k3 hB3 hB4 hb5 ho5
  by_cases hcl : 0 < (clL zs.length xss).length
  · have hc : stC zs xss = 5 := by unfold stC; rw [Ht.out, Hch.out, if_pos rfl, if_pos rfl, if_pos hcl]
    have Hr := Lib.hid (stR_no (zs := zs) (xss := xss) (by omega))
    have Hc := Lib.hid hc
    have hci : (0 : Int) < (((clL zs.length xss).length : Nat) : Int) := by omega
    clear hcl hc
    go_wp2
    go_ret2
    exact ⟨ret_b2s Hr.out.symm Hc.out.symm, hB5⟩
  have hc : stC zs xss = 0 := by unfold stC; rw [Ht.out, Hch.out, if_pos rfl, if_pos rfl, if_neg hcl]
  have Hr := Lib.hid (show stR zs xss = stTo zs xss zs.length from if_pos hc)
  have Hc := Lib.hid hc
  have hci : ¬ (0 : Int) < (((clL zs.length xss).length : Nat) : Int) := by omega
  clear hcl hc
  go_wp2
  go_loopw [6] (fun q wr => ∃ i : Nat, i ≤ zs.length ∧ q = .int .i64 i ∧ stTo zs xss i = true ∧ Boxed wr w.heap.size 42 (.slice a zs.length cap) ∧ Below w.heap.size w wr) (fun q _ => zs.length - (intOf q).toNat)
  case atStart => exact ⟨0, Nat.zero_le _, rfl, rfl, b5, hB5⟩
  case round =>
    obtain ⟨i, hi, rfl, hst, bT, hB⟩ := hrel
    have Hst := Lib.hid hst
    have kT := bT.cell
    clear hst b5 hB5
    go_wp2_with fail
    refine (l01K_c _ _ _ _).mono ?_
    rintro e w6 ⟨rfl, rfl⟩
    have b6 := bT.alloc (.cells #[.slice a zs.length cap] 42)
    have hB6 := hB.alloc hB.size (.cells #[.slice a zs.length cap] 42)
    clear kT bT hB
    by_cases hlt : i < zs.length
    · have hii : (i : Int) < (zs.length : Int) := by omega
      go_wp2_with fail
      refine (l08Wait_c _ xss i (zs.length : Int) _ (HX.out.later hB6) HC.out).mono ?_
      rintro e w7 ⟨rfl, hb7⟩
      have b7 := boxed_later b6 hb7
      have hB7 := hB6.trans (hb7.mono hB6.size)
      obtain ⟨b, off, rfl, hb, hcc⟩ := (hI.later hB7).at_ hlt
      have kz := hcc i hlt
      have k7 := b7.cell
      have hg := greatW_bd (togL xss (i : Int)) (i : Int)
      have hsu := stTo_succ zs xss i
      rw [Hst.out] at hsu
      have hfl := stTo_false (zs := zs) (xss := xss) hlt
      obtain ⟨g, hgg⟩ : ∃ g, greatW (togL xss (i : Int)) (i : Int) = g := ⟨_, rfl⟩
      rw [hgg] at hg hsu hfl ⊢
      have Hsu := Lib.hid hsu
      have Hfl := Lib.hid hfl
      clear hcc hb7 b6 hB6 hgg hsu hfl
      by_cases h0 : g = 0
      · have Hd := Lib.hid (Hfl.out (inB_false.2 (by omega)))
        subst h0
        go_wp2
        go_ret2
        exact ⟨ret_b2s (by rw [Hr.out, Hd.out]) Hc.out.symm, hB7⟩
      · have hq : (g == 0) = false := by simpa using h0
        by_cases h1 : nth zs i < g
        · have Hd := Lib.hid (Hfl.out (inB_false.2 (by omega)))
          go_wp2
          go_ret2
          exact ⟨ret_b2s (by rw [Hr.out, Hd.out]) Hc.out.symm, hB7⟩
        · have Hd := Lib.hid (show stTo zs xss (i + 1) = true by rw [Hsu.out, inB_true.2 (by omega)]; rfl)
          clear h0
          go_wp2
          go_roundw
          case rel => exact ⟨i + 1, by omega, by simp, Hd.out, b7, hB7⟩
          case measure => simp [intOf]; omega
    · obtain rfl : i = zs.length := by omega
      go_wp2
      go_ret2
      exact ⟨ret_b2s (by rw [Hr.out, Hst.out]) Hc.out.symm, hB6⟩

set_option maxRecDepth 100000 in
set_option maxHeartbeats 16000000 in
theorem i_ServeTogether (c0 : Value) (zs : List Int) (c1 : Value) (xss : List (List Int)) (w : World) (hI : Ints w.heap.size w c0 zs) (_hN : I64s zs) (hm0 : zs.length ≤ 1048576) (hX : Lsts w.heap.size w c1 xss) (hm : xss.length ≤ 1048576) (hm2 : ∀ c, c < xss.length → (lst xss c).length ≤ 1048576) :
    Calls Try.prog 30 #[.agg #[c0], c1] w fun e w' => e = .returned (.tuple #[.bool (stR zs xss), .int .i64 (stC zs xss)]) ∧ Below w.heap.size w w' := by
  obtain ⟨a, cap, rfl⟩ := hI.shape
  obtain ⟨a2, cap2, rfl⟩ := hX.shape
  have HX := Lib.hid hX
  have HI := Lib.hid hI
  have Hm2 := Lib.hid hm2
  clear hX hm2 hI
  refine (callsIn_wide (n := 9)).1 ?_
  refine callsIn_of_wp_marks Try.func30 rfl trivial ?_ rfl
  simp only [Try.ntmps30, List.size_toArray, List.length_cons, List.length_nil, Nat.reduceAdd, Nat.reduceSub, Array.replicate_succ, Array.replicate_zero, List.push_toArray, List.append_toArray, List.nil_append, List.cons_append]
  gi_wp2_with fail
  obtain ⟨W0, hW0⟩ : ∃ W0, ((((w.alloc (.cells #[.slice a zs.length cap] 42)).alloc (.cells #[.slice a2 xss.length cap2] 30)).alloc (.cells #[.bool false] 4)).alloc (.cells #[.int .i64 0] 2)) = W0 := ⟨_, rfl⟩
  have hB0 : Below w.heap.size w W0 := by rw [← hW0]; exact (((((Below.refl _ w).alloc (Nat.le_refl _) _).alloc (by simp; try omega) _).alloc (by simp; try omega) _).alloc (by simp; try omega) _)
  have hs0 : w.heap.size + 4 ≤ W0.heap.size := by rw [← hW0]; simp
  have bT : Boxed W0 (w.heap.size) 42 (.slice a zs.length cap) := by rw [← hW0]; repeat first | (refine boxed_at ?_; (simp; done)) | refine Boxed.alloc ?_ _
  have bL : Boxed W0 (w.heap.size + 1) 30 (.slice a2 xss.length cap2) := by rw [← hW0]; repeat first | (refine boxed_at ?_; (simp; done)) | refine Boxed.alloc ?_ _
  have bR : Boxed W0 (w.heap.size + 1 + 1) 4 (.bool false) := by rw [← hW0]; repeat first | (refine boxed_at ?_; (simp; done)) | refine Boxed.alloc ?_ _
  have bC : Boxed W0 (w.heap.size + 1 + 1 + 1) 2 (.int .i64 0) := by rw [← hW0]; repeat first | (refine boxed_at ?_; (simp; done)) | refine Boxed.alloc ?_ _
  rw [hW0]
  clear hW0
  refine ⟨trivial, (callsIn_wide.2 (isTasks_c _ zs _ (HI.out.later hB0) (by omega))).mono ?_⟩
  rintro e w1 ⟨rfl, hb1⟩
  have hB1 := hB0.trans (hb1.mono (by omega))
  replace bT := boxed_later bT hb1
  replace bL := boxed_later bL hb1
  replace bR := boxed_later bR hb1
  replace bC := boxed_later bC hb1
  clear hb1 hB0
  cases ht : tasksOk zs
  · have hc : stC zs xss = 1 := by unfold stC; rw [ht]; rfl
    have Hr := Lib.hid (stR_no (zs := zs) (xss := xss) (by omega))
    have Hc := Lib.hid hc
    have cR := bR.cell
    have fR := bR.frozen
    have bC2 := bC.other (B' := w.heap.size + 1 + 1) (by omega) (.bool false)
    have cC := bC2.cell
    have fC := bC2.frozen
    clear ht hc
    gi_wp2
    have bR3 := (bR.set (.bool false)).other (B' := w.heap.size + 1 + 1 + 1) (by omega) (.int .i64 1)
    have bC3 := bC2.set (.int .i64 1)
    have c1 := bR3.cell
    have c2 := bC3.cell
    refine retM0 ⟨.tuple #[.bool false, .int .i64 1], by simp [results, Try.f30, go_sem, c1, c2], ?_⟩
    exact ⟨ret_b2s Hr.out.symm Hc.out.symm, (hB1.setCell (p := ⟨w.heap.size + 1 + 1, 0, none⟩) (by simp; omega) _).setCell (p := ⟨w.heap.size + 1 + 1 + 1, 0, none⟩) (by simp; omega) _⟩
  have htb := tasksOk_len ht
  have Ht := Lib.hid ht
  have hk64 : I64 (zs.length : Int) := by unfold I64; omega
  have cT := bT.cell
  have cL := bL.cell
  clear ht
  gi_wp2_with fail
  refine ⟨trivial, (callsIn_wide.2 (i_AreChannels (zs.length : Int) _ xss _ hk64 (HX.out.later hB1) hm Hm2.out)).mono ?_⟩
  rintro e w2 ⟨rfl, hb2⟩
  have hB2 := hB1.trans (hb2.mono hB1.size)
  replace bT := boxed_later bT hb2
  replace bL := boxed_later bL hb2
  replace bR := boxed_later bR hb2
  replace bC := boxed_later bC hb2
  clear hb2 hB1 cT cL
  cases hch : chOk zs.length xss
  · have hc : stC zs xss = 2 := by unfold stC; rw [Ht.out, hch]; rfl
    have Hr := Lib.hid (stR_no (zs := zs) (xss := xss) (by omega))
    have Hc := Lib.hid hc
    have cR := bR.cell
    have fR := bR.frozen
    have bC2 := bC.other (B' := w.heap.size + 1 + 1) (by omega) (.bool false)
    have cC := bC2.cell
    have fC := bC2.frozen
    clear hch hc
    gi_wp2
    have bR3 := (bR.set (.bool false)).other (B' := w.heap.size + 1 + 1 + 1) (by omega) (.int .i64 2)
    have bC3 := bC2.set (.int .i64 2)
    have c1 := bR3.cell
    have c2 := bC3.cell
    refine retM0 ⟨.tuple #[.bool false, .int .i64 2], by simp [results, Try.f30, go_sem, c1, c2], ?_⟩
    exact ⟨ret_b2s Hr.out.symm Hc.out.symm, (hB2.setCell (p := ⟨w.heap.size + 1 + 1, 0, none⟩) (by simp; omega) _).setCell (p := ⟨w.heap.size + 1 + 1 + 1, 0, none⟩) (by simp; omega) _⟩
  have HC := Lib.hid (chOk_iff.1 hch)
  have Hch := Lib.hid hch
  have cT := bT.cell
  have cL := bL.cell
  clear hch
  gi_wp2_with fail
  refine ⟨trivial, (callsIn_wide.2 (haveClash_c zs.length _ xss _ (HX.out.later hB2) HC.out)).mono ?_⟩
  rintro e w3 ⟨rfl, hb3⟩
  have hB3 := hB2.trans (hb3.mono hB2.size)
  replace bT := boxed_later bT hb3
  replace bL := boxed_later bL hb3
  replace bR := boxed_later bR hb3
  replace bC := boxed_later bC hb3
  clear hb3 hB2 cT cL
  by_cases hcl : 0 < (clL zs.length xss).length
  · have hc : stC zs xss = 5 := by unfold stC; rw [Ht.out, Hch.out, if_pos rfl, if_pos rfl, if_pos hcl]
    have Hr := Lib.hid (stR_no (zs := zs) (xss := xss) (by omega))
    have Hc := Lib.hid hc
    rw [decide_eq_true hcl]
    have cR := bR.cell
    have fR := bR.frozen
    have bC2 := bC.other (B' := w.heap.size + 1 + 1) (by omega) (.bool false)
    have cC := bC2.cell
    have fC := bC2.frozen
    clear hcl hc
    gi_wp2
    have bR3 := (bR.set (.bool false)).other (B' := w.heap.size + 1 + 1 + 1) (by omega) (.int .i64 5)
    have bC3 := bC2.set (.int .i64 5)
    have c1 := bR3.cell
    have c2 := bC3.cell
    refine retM0 ⟨.tuple #[.bool false, .int .i64 5], by simp [results, Try.f30, go_sem, c1, c2], ?_⟩
    exact ⟨ret_b2s Hr.out.symm Hc.out.symm, (hB3.setCell (p := ⟨w.heap.size + 1 + 1, 0, none⟩) (by simp; omega) _).setCell (p := ⟨w.heap.size + 1 + 1 + 1, 0, none⟩) (by simp; omega) _⟩
  have hc : stC zs xss = 0 := by unfold stC; rw [Ht.out, Hch.out, if_pos rfl, if_pos rfl, if_neg hcl]
  have Hr := Lib.hid (show stR zs xss = stTo zs xss zs.length from if_pos hc)
  have Hc := Lib.hid hc
  rw [decide_eq_false hcl]
  have cT := bT.cell
  have cL := bL.cell
  have hs3 := hB3.size
  clear hcl hc
  gi_wp2_with (first | (gi_at_call 66; refine (callsIn_wide.2 (numbered_c _ _ _ _)).mono ?_; rintro e w' ⟨rfl, rfl⟩) | (refine ⟨trivial, ?_⟩; gi_at_call 66; refine (callsIn_wide.2 (numbered_c _ _ _ _)).mono ?_; rintro e w' ⟨rfl, rfl⟩))
  obtain ⟨W4, hW4⟩ : ∃ W4, w3.alloc (.cells #[.slice a zs.length cap] 37) = W4 := ⟨_, rfl⟩
  have hb4 : Below w3.heap.size w3 W4 := by rw [← hW4]; exact (Below.refl _ _).alloc (Nat.le_refl _) _
  have bN : Boxed W4 w3.heap.size 37 (.slice a zs.length cap) := by rw [← hW4]; exact Boxed.new _ _ _
  have hB4 := hB3.trans (hb4.mono hs3)
  have hs4 : w3.heap.size + 1 ≤ W4.heap.size := by rw [← hW4]; simp
  have lC3 := bC.lt
  replace bT := boxed_later bT hb4
  replace bL := boxed_later bL hb4
  replace bR := boxed_later bR hb4
  replace bC := boxed_later bC hb4
  try rw [hW4]
  clear hW4 hb4 cT cL hB3
  refine range_outA (Keep := fun b => b < w.heap.size) (c := 0) rfl (by omega) rfl trivial (enters_of Try.func101 (by kernel_rfl) rfl) (numbered_at Fence.wide 8 trivial rfl (by omega) w3.heap.size w.heap.size _ zs (by omega) W4 bN (by omega) (HI.out.below hB4)) (fun b hb => by omega) (fun _ => rfl)
    (fun n W => (stTo zs xss n = true ∧ (Boxed W (w.heap.size + 1) 30 (.slice a2 xss.length cap2) ∧ Boxed W (w.heap.size + 1 + 1) 4 (.bool false) ∧ Boxed W (w.heap.size + 1 + 1 + 1) 2 (.int .i64 0))) ∧ Below w.heap.size w W)
    (fun c _ W => ((c = .ret ∧ stTo zs xss zs.length = false) ∧ (Boxed W (w.heap.size + 1 + 1) 4 (.bool false) ∧ Boxed W (w.heap.size + 1 + 1 + 1) 2 (.int .i64 0))) ∧ Below w.heap.size w W)
    (by repeat' (first | exact ownFrom_pure _ _ | exact Own.from (boxed_own _ _ _) _ | exact Own.from (ownI_Own _ _ _) _ | exact Own.from (ownB_Own _ _ _) _ | exact ownFrom_below (Nat.le_refl _) (by omega) | exact ownFrom_kps (by omega) | apply OwnFrom.and)) (fun _ => (by repeat' (first | exact ownFrom_pure _ _ | exact Own.from (boxed_own _ _ _) _ | exact Own.from (ownI_Own _ _ _) _ | exact Own.from (ownB_Own _ _ _) _ | exact ownFrom_below (Nat.le_refl _) (by omega) | exact ownFrom_kps (by omega) | apply OwnFrom.and))) ⟨⟨rfl, bL, bR, bC⟩, hB4⟩ ?a1 ?assign ?body ?done ?stop
  case assign =>
    intro l n U K' hi hK
    simp only [numAt]
    gi_wp2
    exact hK
  case body =>
    rintro l n U hl' hr ⟨⟨hst, bL1, bR1, bC1⟩, hB⟩ hn hsU
    have cL := bL1.cell
    have hsB := hB.size
    have hband : ∀ b, Band (fun b => b < w.heap.size) W4.heap.size (W4.heap.size + 2 + 0) b → ¬ (b = w.heap.size + 1 + 1 ∨ b = w.heap.size + 1 + 1 + 1) := fun b hb => by
      rcases hb with hb | hb <;> omega
    have Hband := Lib.hid hband
    have hsu := stTo_succ zs xss n
    rw [hst] at hsu
    have hfl := stTo_false (zs := zs) (xss := xss) hn
    have Hsu := Lib.hid hsu
    have Hfl := Lib.hid hfl
    clear hst hband hsU hsu hfl bL bR bC hB4
    gi_wp2_with fail
    refine ⟨trivial, ((callsIn_wide.2 (waitTogether_c _ xss (n : Int) (zs.length : Int) _ (HX.out.later hB) HC.out)).inRound _).mono ?_⟩
    rintro e w5 ⟨rfl, hb5⟩
    have bL2 := boxed_later bL1 hb5
    have bR2 := boxed_later bR1 hb5
    have bC2 := boxed_later bC1 hb5
    have hB5 := hB.trans (hb5.mono hsB)
    have hk5 : Kps (Band (fun b => b < w.heap.size) W4.heap.size (W4.heap.size + 2 + 0)) U w5 := Kps.below hb5
    have hg := greatW_bd (togL xss (n : Int)) (n : Int)
    obtain ⟨g, hgg⟩ : ∃ g, greatW (togL xss (n : Int)) (n : Int) = g := ⟨_, rfl⟩
    rw [hgg] at hg Hsu Hfl ⊢
    have cR := bR2.cell
    have fR := bR2.frozen
    have bC3 := bC2.other (B' := w.heap.size + 1 + 1) (by omega) (.bool false)
    have cC := bC3.cell
    have fC := bC3.frozen
    have hfin : Kps (Band (fun b => b < w.heap.size) W4.heap.size (W4.heap.size + 2 + 0)) U ((w5.setCell ⟨w.heap.size + 1 + 1, 0, none⟩ (.bool false)).setCell ⟨w.heap.size + 1 + 1 + 1, 0, none⟩ (.int .i64 0)) ∧ (Boxed ((w5.setCell ⟨w.heap.size + 1 + 1, 0, none⟩ (.bool false)).setCell ⟨w.heap.size + 1 + 1 + 1, 0, none⟩ (.int .i64 0)) (w.heap.size + 1 + 1) 4 (.bool false) ∧ Boxed ((w5.setCell ⟨w.heap.size + 1 + 1, 0, none⟩ (.bool false)).setCell ⟨w.heap.size + 1 + 1 + 1, 0, none⟩ (.int .i64 0)) (w.heap.size + 1 + 1 + 1) 2 (.int .i64 0)) ∧ Below w.heap.size w ((w5.setCell ⟨w.heap.size + 1 + 1, 0, none⟩ (.bool false)).setCell ⟨w.heap.size + 1 + 1 + 1, 0, none⟩ (.int .i64 0)) :=
      ⟨(hk5.trans (Kps.setCell _ _ _ _ (fun h => Hband.out _ h (.inl rfl)))).trans (Kps.setCell _ _ _ _ (fun h => Hband.out _ h (.inr rfl))), ⟨(bR2.set _).other (by omega) _, bC3.set _⟩, (hB5.setCell (p := ⟨w.heap.size + 1 + 1, 0, none⟩) (by simp; omega) _).setCell (p := ⟨w.heap.size + 1 + 1 + 1, 0, none⟩) (by simp; omega) _⟩
    have Hfin := Lib.hid hfin
    clear hb5 bL1 bR1 bC1 cL hgg hfin bC3 hB
    by_cases h0 : g = 0
    · have Hd := Lib.hid (Hfl.out (inB_false.2 (by omega)))
      subst h0
      gi_wp2
      exact ⟨Hfin.out.1, ⟨⟨rfl, Hd.out⟩, Hfin.out.2.1⟩, Hfin.out.2.2⟩
    · have hq : (g == 0) = false := by simpa using h0
      by_cases h1 : nth zs n < g
      · have Hd := Lib.hid (Hfl.out (inB_false.2 (by omega)))
        clear h0
        gi_wp2
        exact ⟨Hfin.out.1, ⟨⟨rfl, Hd.out⟩, Hfin.out.2.1⟩, Hfin.out.2.2⟩
      · have Hd := Lib.hid (show stTo zs xss (n + 1) = true by rw [Hsu.out, inB_true.2 (by omega)]; rfl)
        clear h0
        gi_wp2
        exact ⟨hk5, ⟨Hd.out, bL2, bR2, bC2⟩, hB5⟩
  case done =>
    rintro D U hD ⟨⟨hst, bL1, bR1, bC1⟩, hB⟩ hK
    have cR := bR1.cell
    have fR := bR1.frozen
    have bC2 := bC1.other (B' := w.heap.size + 1 + 1) (by omega) (.bool true)
    have cC := bC2.cell
    have fC := bC2.frozen
    gi_wp2
    have hK1 := (KeepsOthers.setCell U ⟨w.heap.size + 1 + 1, 0, none⟩ (.bool true)).same D _ hK rfl
    have hK2 := (KeepsOthers.setCell (U.setCell ⟨w.heap.size + 1 + 1, 0, none⟩ (.bool true)) ⟨w.heap.size + 1 + 1 + 1, 0, none⟩ (.int .i64 0)).same D _ hK1 rfl
    have c1 := (boxed_shut ((bR1.set (.bool true)).other (B' := w.heap.size + 1 + 1 + 1) (by omega) (.int .i64 0)) hK2).cell
    have c2 := (boxed_shut (bC2.set (.int .i64 0)) hK2).cell
    exact retM1 hK2 ⟨.tuple #[.bool true, .int .i64 0], by simp [results, Try.f30, go_sem, c1, c2], ret_b2s (by rw [Hr.out, hst]) Hc.out.symm, below_shut ((hB.setCell (p := ⟨w.heap.size + 1 + 1, 0, none⟩) (by simp; omega) _).setCell (p := ⟨w.heap.size + 1 + 1 + 1, 0, none⟩) (by simp; omega) _) (by omega)⟩
  case stop =>
    rintro D c k W hD hk ⟨⟨⟨rfl, hs⟩, bR1, bC1⟩, hB1⟩ hK
    gi_wp2
    have c1 := (boxed_shut bR1 hK).cell
    have c2 := (boxed_shut bC1 hK).cell
    exact retM1 hK ⟨.tuple #[.bool false, .int .i64 0], by simp [results, Try.f30, go_sem, c1, c2], ret_b2s (by rw [Hr.out, hs]) Hc.out.symm, below_shut hB1 (by omega)⟩

end Go.Proofs.Ytlgjnceedjbakaa
