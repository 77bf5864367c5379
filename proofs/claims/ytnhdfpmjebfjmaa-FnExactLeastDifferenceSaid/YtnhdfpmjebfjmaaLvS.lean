/-
  Level turns of the model: l07Sum, GreedyTurns, l07Deadline, DeadlineTurns, LeastDifference.
  Conditions: lists of at most 1048576 elements.
-/
import Derived.Maps.AppendAt
import Derived.Test.YtnhdfpmjebfjmaaLev
namespace Go.Proofs.Ytnhdfpmjebfjmaa
open Go.RowKit Go.Shelf
attribute [local go_sem] Oper.semAt_some

section
variable {P : Program}
/-- the ordinary way out alone -/
def onlyL (R : Act → World → Prop) : Exit → Act → World → Prop
  | .normal, a, w => R a w
  | _, _, _ => False
theorem wp_thru2 {α β : Type} (AA : α → β → Act) (R : α → β → World → Prop) {c : Code} {Q : Exit → Act → World → Prop} {a : Act} {w : World}
    (h : c.wp P (onlyL fun a' w' => ∃ x y, a' = AA x y ∧ R x y w') a w) (hq : ∀ x y w', R x y w' → Q .normal (AA x y) w') : c.wp P Q a w :=
  wp_mono h fun e a' w' hp => by
    cases e with
    | normal => obtain ⟨x, y, rfl, hr⟩ := hp; exact hq x y w' hr
    | panic ch => exact hp.elim
    | exit id => exact hp.elim
    | goto l => exact hp.elim
    | ret => exact hp.elim
    | outgrown => exact hp.elim
end

/-! ### shares -/
def dsOk (ds : List Int) : Bool := (ds.all fun z => inB z 1 60) && (inB ds.length 1 8 && decide (sumN (nth ds) ds.length ≤ 60))
def sumR (ds : List Int) : Int := if dsOk ds then sumN (nth ds) ds.length else 0
structure Dso (ds : List Int) (N : Nat) : Prop where
  len : 1 ≤ ds.length ∧ ds.length ≤ 8
  el : ∀ i, i < ds.length → 1 ≤ nth ds i ∧ nth ds i ≤ 60
  sum : sumN (nth ds) ds.length = N
  n : 1 ≤ N ∧ N ≤ 60
theorem dso {ds : List Int} (h : dsOk ds = true) : ∃ N, Dso ds N := by
  unfold dsOk at h
  rw [Bool.and_eq_true, Bool.and_eq_true, List.all_eq_true, inB_true, decide_eq_true_eq] at h
  obtain ⟨h1, h2, h3⟩ := h
  have he : ∀ i, i < ds.length → 1 ≤ nth ds i ∧ nth ds i ≤ 60 := fun i hi => inB_true.1 (h1 _ (nth_mem hi))
  have hb := sumN_bd he
  refine ⟨(sumN (nth ds) ds.length).toNat, by omega, he, by omega, by omega⟩
theorem sumR_no {ds : List Int} (h : dsOk ds = false) : sumR ds = 0 := by unfold sumR; rw [h]; rfl
theorem Dso.sumR {ds : List Int} {N : Nat} (h : dsOk ds = true) (k : Dso ds N) : sumR ds = N := by unfold Proofs.Ytnhdfpmjebfjmaa.sumR; rw [h, if_pos rfl, k.sum]
theorem Dso.one {ds : List Int} {N : Nat} (k : Dso ds N) : ∀ i, i < ds.length → 1 ≤ nth ds i := fun i hi => (k.el i hi).1
theorem Dso.zero {ds : List Int} {N : Nat} (k : Dso ds N) : ∀ i, i < ds.length → 0 ≤ nth ds i := fun i hi => by have := (k.el i hi).1; omega
theorem mul_bd60 {a b A B : Int} (h0 : 0 ≤ a) (h1 : a ≤ A) (k0 : 0 ≤ b) (k1 : b ≤ B) : 0 ≤ a * b ∧ a * b ≤ A * B :=
  ⟨Int.mul_nonneg h0 k0, Int.mul_le_mul h1 k1 k0 (by omega)⟩

set_option maxRecDepth 100000 in
set_option maxHeartbeats 2000000 in
theorem l07Sum_c (sv : Value) (ds : List Int) (w : World) (hI : Ints w.heap.size w sv ds) (hl : ds.length ≤ 1048576) :
    Calls Try.prog 66 #[sv] w fun e w' => e = .returned (.int .i64 (sumR ds)) ∧ w = w' := by
  obtain ⟨a, cap, rfl⟩ := hI.shape
  go_enter Try.func66, Try.ntmps66
  go_wp2
  go_loop [3, 4] (fun s i => ∃ (k : Nat) (q : Int), k ≤ ds.length ∧ i = .int .i64 k ∧ s = .int .i64 q ∧ (q = sumN (nth ds) k ∧ 0 ≤ q ∧ q ≤ k * 60) ∧ (∀ j, j < k → inB (nth ds j) 1 60 = true)) (fun _ i => ds.length - (intOf i).toNat)
  case atStart => exact ⟨0, 0, Nat.zero_le _, rfl, rfl, ⟨rfl, by omega, by omega⟩, by simp⟩
  case round =>
    obtain ⟨k, q, hk, rfl, rfl, ⟨hq, hq0, hq1⟩, hall⟩ := hrel
    have Hq := Lib.hid hq
    have Hall := Lib.hid hall
    clear hq hall
    by_cases hlt : k < ds.length
    · obtain ⟨b, off, rfl, hb, hc⟩ := hI.at_ hlt
      have hcx := hc k hlt
      clear hc
      cases he : inB (nth ds k) 1 60
      · have He := Lib.hid he
        clear he
        go_wp2_with (go_at_call 70; refine (l01In_d false _ _ _ _ He.out).mono ?_; rintro e w' ⟨rfl, rfl⟩)
        go_ret
        exact ⟨ret_int (sumR_no (by unfold dsOk; rw [all_false_of hlt He.out]; rfl)).symm, rfl⟩
      · have He := Lib.hid he
        have hbn := inB_true.1 he
        clear he
        go_wp2_with (go_at_call 70; refine (l01In_d true _ _ _ _ He.out).mono ?_; rintro e w' ⟨rfl, rfl⟩)
        go_round
        case rel => exact ⟨k + 1, q + nth ds k, by omega, by simp, rfl, ⟨by rw [Hq.out]; rfl, by omega, by simp; omega⟩, fun j hj => by by_cases e : j = k; exact e ▸ He.out; exact Hall.out j (by omega)⟩
        case measure => simp [intOf]; omega
    · obtain rfl : k = ds.length := by omega
      have hal : (ds.all fun z => inB z 1 60) = true := all_true_of (p := fun z => inB z 1 60) Hall.out
      by_cases h8 : 8 < ds.length
      · have Hs := Lib.hid (sumR_no (show dsOk ds = false by unfold dsOk; rw [inB_false.2 (show ((ds.length : Int) < 1 ∨ (8 : Int) < ds.length) by omega)]; simp))
        clear hal
        go_wp2
        go_ret
        exact ⟨ret_int Hs.out.symm, rfl⟩
      · by_cases h60 : 60 < q
        · have Hs := Lib.hid (sumR_no (show dsOk ds = false by unfold dsOk; rw [← Hq.out, decide_eq_false (show ¬ q ≤ 60 by omega)]; simp))
          clear hal
          go_wp2
          go_ret
          exact ⟨ret_int Hs.out.symm, rfl⟩
        · have Hs := Lib.hid (show sumR ds = q by
            unfold sumR
            by_cases h0 : ds.length = 0
            · have : dsOk ds = false := by unfold dsOk; rw [inB_false.2 (show ((ds.length : Int) < 1 ∨ (8 : Int) < ds.length) by omega)]; simp
              rw [this, if_neg (by simp), Hq.out, h0]; rfl
            · have : dsOk ds = true := by unfold dsOk; rw [hal, inB_true.2 (by omega), ← Hq.out, decide_eq_true (show q ≤ 60 by omega)]; rfl
              rw [this, if_pos rfl, Hq.out])
          clear hal
          go_wp2
          go_ret
          exact ⟨ret_int Hs.out.symm, rfl⟩

/-! ### greedy turns -/
def grR (ds : List Int) : List Int := if dsOk ds then runL (pickG ds (sumR ds)) ds.length (sumR ds).toNat else []
def grC (ds : List Int) : Int := if dsOk ds then 0 else 2
theorem runL_some {pick : List Int → Nat → Option Nat} {k N : Nat} {s : List Int × List Int} (h : runTo pick k N = some s) : runL pick k N = s.1 := by unfold runL; rw [h]
theorem runL_none {pick : List Int → Nat → Option Nat} {k N : Nat} (h : runTo pick k N = none) : runL pick k N = [] := by unfold runL; rw [h]
theorem runL_len {ds : List Int} {pick : List Int → Nat → Option Nat} {N : Nat} (hd : ∀ i, i < ds.length → 0 ≤ nth ds i) (hf : Fair ds pick) : (runL pick ds.length N).length ≤ N := by
  cases h : runTo pick ds.length N with
  | none => rw [runL_none h]; simp
  | some s => rw [runL_some h, (run_had hd hf h).len]; omega
theorem grR_len (ds : List Int) : (grR ds).length * 8 ≤ 140737488351232 := by
  unfold grR
  split
  · rename_i h
    obtain ⟨N, hD⟩ := dso h
    rw [hD.sumR h, Int.toNat_natCast]
    have := runL_len (N := N) hD.zero (fairG ds N)
    have := hD.n
    omega
  · simp

set_option maxRecDepth 100000 in
set_option maxHeartbeats 16000000 in
theorem s_GreedyTurns (c0 : Value) (ds : List Int) (w : World) (hI : Ints w.heap.size w c0 ds) (_hN : I64s ds) (hm : ds.length ≤ 1048576) :
    Calls Try.prog 28 #[c0] w (GivesI w (grR ds) fun v => .tuple #[v, .int .i64 (grC ds)]) := by
  obtain ⟨a, cap, rfl⟩ := hI.shape
  obtain ⟨i0, hi, hz0, hz1, hz2⟩ := info_parts Try.infoI2
  cases hok : dsOk ds
  · have Hr := Lib.hid (show grR ds = [] by unfold grR; rw [hok]; rfl)
    have Hc := Lib.hid (show grC ds = 2 by unfold grC; rw [hok]; rfl)
    have Hs := Lib.hid (sumR_no hok)
    clear hok
    go_enter Try.func28, Try.ntmps28
    go_wp2_with fail
    refine (l07Sum_c _ ds _ hI hm).mono ?_
    rintro e w1 ⟨he, rfl⟩
    rw [Hs.out] at he
    subst he
    go_wp2
    go_ret2
    exact ⟨_, ret_v2 Hc.out.symm, by rw [Hr.out]; exact ownI_nil _ _, Below.refl _ _⟩
  · obtain ⟨N, hD⟩ := dso hok
    have Hr := Lib.hid (show grR ds = runL (pickG ds N) ds.length N by unfold grR; rw [hok, hD.sumR hok, Int.toNat_natCast]; rfl)
    have Hc := Lib.hid (show grC ds = 0 by unfold grC; rw [hok]; rfl)
    have Hs := Lib.hid (hD.sumR hok)
    have HD := Lib.hid hD
    have hlen := hD.len
    have hn := hD.n
    have hN0 : ((N : Int) == 0) = false := by rw [beq_eq_false_iff_ne]; omega
    have hfw : Try.prog.follows Departure.mixedOrders = true := by kernel_rfl
    obtain ⟨K, hK⟩ : ∃ K, ds.length = K := ⟨_, rfl⟩
    clear hok hD
    rw [hK] at hlen hI hm ⊢
    have HK := Lib.hid hK
    clear hK
    go_enter Try.func28, Try.ntmps28
    go_wp2_with fail
    refine (l07Sum_c _ ds _ hI (by rw [HK.out]; exact hm)).mono ?_
    rintro e w1 ⟨he, rfl⟩
    rw [Hs.out] at he
    subst he
    go_wp2_with fail
    refine' wp_thru2 (α := Nat) (β := Nat) _ (fun ga gh w' => Below w.heap.size w w' ∧ w.heap.size ≤ ga ∧ w.heap.size ≤ gh ∧ ga ≠ gh ∧ OwnI w.heap.size w' (.slice (some ⟨ga, 0, none⟩) 0 0) [] ∧ OwnI w.heap.size w' (.slice (some ⟨gh, 0, none⟩) K K) (List.replicate K 0)) _ _
    rotate_left
    · refine wp_region_held_drew (S := fun w' => Below w.heap.size w w') hfw (Below.refl _ _).drew ?_
      intro hS0
      refine wpAnyH_take (i := 1) (v := ?v1) rfl (by kernel_rfl) (by kernel_rfl) (by kernel_rfl) (fun _ _ _ h => h) (.inl ⟨by rfl, ?y1⟩) hS0 ?_
      case y1 =>
        intro w' hS
        (clear hS)
        go_simp
        try with_reducible rfl
      refine wpAnyH_take (i := 2) (v := ?v2) rfl (by kernel_rfl) (by kernel_rfl) (by kernel_rfl) (fun _ _ _ h => h) (.inl ⟨by rfl, ?y2⟩) hS0 ?_
      case y2 =>
        intro w' hS
        (clear hS)
        go_simp
        try with_reducible rfl
      obtain ⟨wd, hwd⟩ : ∃ wd, w.drew = wd := ⟨_, rfl⟩
      rw [hwd] at hS0 ⊢
      clear hwd
      refine wpAnyH_ready (rs := [0, 3]) (by kernel_rfl) (by simp) ?_
      refine AllReadyH.cons rfl (fun K' hK' => ?_) (AllReadyH.cons rfl (fun K' hK' => ?_) AllReadyH.nil)
      · rw [if_pos (by rfl)]
        go_simp
        obtain ⟨w_0, hw⟩ : ∃ wB, wd.alloc (.cells #[] 2) = wB := ⟨_, rfl⟩
        have hbw : Below wd.heap.size wd w_0 := by rw [← hw]; exact (Below.refl _ _).alloc (Nat.le_refl _) _
        have hoG0 : OwnI wd.heap.size w_0 (.slice (some ⟨wd.heap.size, 0, none⟩) 0 0) [] := by rw [← hw]; exact ownI_empty wd
        have hoA := hoG0.base hS0.size
        obtain ⟨ga, hgo⟩ : ∃ ga, wd.heap.size = ga := ⟨_, rfl⟩
        have hgo2 : ga < w_0.heap.size := by rw [← hw, ← hgo, World.size_alloc]; omega
        rw [hw]
        rw [hgo] at hoA ⊢
        refine hK'.out _ _ (hS0.trans (hbw.mono hS0.size)) fun hS_0 => ?_
        have hgo1 : w.heap.size ≤ ga := by rw [← hgo]; exact hS0.size
        have hs_w_0 := hbw.size
        clear hoG0 hw hbw hK'
        refine wpAnyH_take (i := 4) (v := ?vw_04) rfl (by kernel_rfl) (by kernel_rfl) (by kernel_rfl) (fun _ _ _ h => h) (.inl ⟨by rfl, ?yw_04⟩) hS_0 ?_
        case yw_04 =>
          intro w' hS
          (clear hS)
          go_simp
          try with_reducible rfl
        refine wpAnyH_ready (rs := [3]) (by kernel_rfl) (by simp) ?_
        refine AllReadyH.cons rfl (fun K' hK' => ?_) AllReadyH.nil
        · rw [if_pos (by rfl)]
          obtain ⟨w_0_3, hrun, hoC0, hgr⟩ := run_make_full (P := Try.prog) w_0 w.heap.size 22 2 i0 (.int .i64 0) 1 Try.underlying22 hi hz0 hz1 .i64 .i64 K (by rw [hz2]; omega) (by unfold maxLen; omega) hS_0.size
          have hbw : Below w_0.heap.size w_0 w_0_3 := (Below.refl _ _).grown hgr (Nat.le_refl _) (fun j e => by cases e)
          obtain ⟨gh, hgc⟩ : ∃ gh, w_0.heap.size = gh := ⟨_, rfl⟩
          rw [hgc] at hrun hoC0
          go_simp
          refine hK'.out _ _ (hS_0.trans (hbw.mono hS_0.size)) fun hS_0_3 => ?_
          have hgc1 : w.heap.size ≤ gh := by rw [← hgc]; exact hS_0.size
          have hoH := ownI_made (by rw [Nat.mul_one] at hoC0; exact hoC0)
          have hgc2 := (hoH.blk gh rfl).2
          replace hoA := hoA.below hbw
          have hs_w_0_3 := hbw.size
          clear hrun hoC0 hgr hbw hK'
          refine wpAnyH_take (i := 5) (v := ?vw_0_35) rfl (by kernel_rfl) (by kernel_rfl) (by kernel_rfl) (fun _ _ _ h => h) (.inl ⟨by rfl, ?yw_0_35⟩) hS_0_3 ?_
          case yw_0_35 =>
            intro w' hS
            (clear hS)
            go_simp
            try with_reducible rfl
          refine wpAnyH_done (by kernel_rfl) ?_ _
          refine ⟨ga, gh, ?_, hS_0_3, hgo1, hgc1, by omega, hoA, hoH⟩
          first | (go_simp; done) | (go_simp; exact rfl)
      · rw [if_pos (by rfl)]
        obtain ⟨w_3, hrun, hoC0, hgr⟩ := run_make_full (P := Try.prog) wd w.heap.size 22 2 i0 (.int .i64 0) 1 Try.underlying22 hi hz0 hz1 .i64 .i64 K (by rw [hz2]; omega) (by unfold maxLen; omega) hS0.size
        have hbw : Below wd.heap.size wd w_3 := (Below.refl _ _).grown hgr (Nat.le_refl _) (fun j e => by cases e)
        obtain ⟨gh, hgc⟩ : ∃ gh, wd.heap.size = gh := ⟨_, rfl⟩
        rw [hgc] at hrun hoC0
        go_simp
        refine hK'.out _ _ (hS0.trans (hbw.mono hS0.size)) fun hS_3 => ?_
        have hgc1 : w.heap.size ≤ gh := by rw [← hgc]; exact hS0.size
        have hoH := ownI_made (by rw [Nat.mul_one] at hoC0; exact hoC0)
        have hgc2 := (hoH.blk gh rfl).2
        have hs_w_3 := hbw.size
        clear hrun hoC0 hgr hbw hK'
        refine wpAnyH_ready (rs := [0]) (by kernel_rfl) (by simp) ?_
        refine AllReadyH.cons rfl (fun K' hK' => ?_) AllReadyH.nil
        · rw [if_pos (by rfl)]
          go_simp
          obtain ⟨w_3_0, hw⟩ : ∃ wB, w_3.alloc (.cells #[] 2) = wB := ⟨_, rfl⟩
          have hbw : Below w_3.heap.size w_3 w_3_0 := by rw [← hw]; exact (Below.refl _ _).alloc (Nat.le_refl _) _
          have hoG0 : OwnI w_3.heap.size w_3_0 (.slice (some ⟨w_3.heap.size, 0, none⟩) 0 0) [] := by rw [← hw]; exact ownI_empty w_3
          have hoA := hoG0.base hS_3.size
          obtain ⟨ga, hgo⟩ : ∃ ga, w_3.heap.size = ga := ⟨_, rfl⟩
          have hgo2 : ga < w_3_0.heap.size := by rw [← hw, ← hgo, World.size_alloc]; omega
          rw [hw]
          rw [hgo] at hoA ⊢
          refine hK'.out _ _ (hS_3.trans (hbw.mono hS_3.size)) fun hS_3_0 => ?_
          have hgo1 : w.heap.size ≤ ga := by rw [← hgo]; exact hS_3.size
          replace hoH := hoH.below hbw
          have hs_w_3_0 := hbw.size
          clear hoG0 hw hbw hK'
          refine wpAnyH_take (i := 4) (v := ?vw_3_04) rfl (by kernel_rfl) (by kernel_rfl) (by kernel_rfl) (fun _ _ _ h => h) (.inl ⟨by rfl, ?yw_3_04⟩) hS_3_0 ?_
          case yw_3_04 =>
            intro w' hS
            (clear hS)
            go_simp
            try with_reducible rfl
          refine wpAnyH_take (i := 5) (v := ?vw_3_05) rfl (by kernel_rfl) (by kernel_rfl) (by kernel_rfl) (fun _ _ _ h => h) (.inl ⟨by rfl, ?yw_3_05⟩) hS_3_0 ?_
          case yw_3_05 =>
            intro w' hS
            (clear hS)
            go_simp
            try with_reducible rfl
          refine wpAnyH_done (by kernel_rfl) ?_ _
          refine ⟨ga, gh, ?_, hS_3_0, hgo1, hgc1, by omega, hoA, hoH⟩
          first | (go_simp; done) | (go_simp; exact rfl)
    rintro ga gh wq ⟨hBq, hga, hgh, hne, hoA, hoH⟩
    go_wp2
    go_loopw [5, 7] (fun v n wr => ∃ (k : Nat) (ts h : List Int) (u : Value), (k ≤ N ∧ n = .int .i64 k ∧ u = v ∧ runTo (pickG ds N) K k = some (ts, h)) ∧ OwnI w.heap.size wr u ts ∧ OwnI w.heap.size wr (.slice (some ⟨gh, 0, none⟩) K K) h ∧ u.ownBlock ≠ some gh ∧ Below w.heap.size w wr) (fun _ n _ => N - (intOf n).toNat)
    case atStart => exact ⟨0, [], List.replicate K 0, _, ⟨Nat.zero_le _, rfl, rfl, rfl⟩, hoA, hoH, by simp [Value.ownBlock]; exact hne, hBq⟩
    case round =>
      obtain ⟨k, ts, h, u, ⟨hk, rfl, rfl, hrun⟩, hoT, hoh, hnb, hB⟩ := hrel
      clear hoA hoH hBq
      have hD := HD.out
      have hHad : Had ds k ts h := by have hr2 := hrun; rw [← HK.out] at hr2; exact run_had hD.zero (fairG ds N) hr2
      have HH := Lib.hid hHad
      have hsw := hB.size
      by_cases hlt : k < N
      · have hpk : pickG ds N h k = some (gBest (gKey ds N h k) K) := by have := greedy_pick hD.one (by rw [HK.out]; omega) hD.sum hHad hlt; rw [HK.out] at this; exact this
        have hnx := runTo_next hrun hpk
        have Hnx := Lib.hid hnx
        have hbl := gBest_le (gKey ds N h k) (k := K) (by omega)
        have hhl : h.length = K := by rw [hHad.hl]; exact HK.out
        have Hhl := Lib.hid hhl
        have htl : ts.length = k := hHad.len
        have Htl := Lib.hid htl
        clear hrun hpk hnx hD hHad hhl htl
        go_wp2
        go_loopw [8, 25] (fun best i W => ∃ j : Nat, j ≤ K ∧ i = .int .i64 j ∧ best = .int .i64 (gBest (gKey ds N h k) j) ∧ (OwnI w.heap.size W u ts ∧ OwnI w.heap.size W (.slice (some ⟨gh, 0, none⟩) K K) h ∧ Below w.heap.size w W)) (fun _ i _ => K - (intOf i).toNat)
        case atStart => exact ⟨0, Nat.zero_le _, rfl, rfl, hoT, hoh, hB⟩
        case round =>
          obtain ⟨j, hj, rfl, rfl, hoT2, hoh2, hB2⟩ := hrel
          clear hoT hoh hB
          by_cases hjl : j < K
          · obtain ⟨m, hmq⟩ : ∃ m, gBest (gKey ds N h k) j = m := ⟨_, rfl⟩
            have hml : m < K := by
              rw [← hmq]
              by_cases e : j = 0
              · subst e; simp [gBest]; omega
              · have := gBest_le (gKey ds N h k) (k := j) (by omega); omega
            have hstep : gBest (gKey ds N h k) (j + 1) = if gKey ds N h k j < gKey ds N h k m then j else m := by rw [← hmq]; rfl
            have Hst := Lib.hid hstep
            rw [hmq]
            have HB := HH.out.bd
            have hbj := HB j (by rw [HK.out]; exact hjl)
            have hbm := HB m (by rw [HK.out]; exact hml)
            have hej := HD.out.el j (by rw [HK.out]; exact hjl)
            have hem := HD.out.el m (by rw [HK.out]; exact hml)
            obtain ⟨b, off, rfl, hb, hc⟩ := (show Ints wr.heap.size wr (.slice a ds.length cap) ds by rw [HK.out]; exact hI.later hB2).at_ (k := j) (by rw [HK.out]; exact hjl)
            have c1 := hc j (by rw [HK.out]; exact hjl)
            have c2 := hc m (by rw [HK.out]; exact hml)
            have c3 := hoh2.cellAt (j := j) (by rw [Hhl.out]; exact hjl)
            have c4 := hoh2.cellAt (j := m) (by rw [Hhl.out]; exact hml)
            have b1 := mul_bd60 (a := N) (A := 60) (b := nth h j) (B := 60) (by omega) (by omega) (by omega) (by omega)
            have b2 := mul_bd60 (a := N) (A := 60) (b := nth h m) (B := 60) (by omega) (by omega) (by omega) (by omega)
            have b3 := mul_bd60 (a := (k : Int) + 1) (A := 60) (b := nth ds j) (B := 60) (by omega) (by omega) (by omega) (by omega)
            have b4 := mul_bd60 (a := (k : Int) + 1) (A := 60) (b := nth ds m) (B := 60) (by omega) (by omega) (by omega) (by omega)
            have g1 : gKey ds N h k j = N * nth h j - ((k : Int) + 1) * nth ds j := rfl
            have g2 : gKey ds N h k m = N * nth h m - ((k : Int) + 1) * nth ds m := rfl
            obtain ⟨p1, q1⟩ : ∃ p, (N : Int) * nth h j = p := ⟨_, rfl⟩
            obtain ⟨p2, q2⟩ : ∃ p, (N : Int) * nth h m = p := ⟨_, rfl⟩
            obtain ⟨p3, q3⟩ : ∃ p, ((k : Int) + 1) * nth ds j = p := ⟨_, rfl⟩
            obtain ⟨p4, q4⟩ : ∃ p, ((k : Int) + 1) * nth ds m = p := ⟨_, rfl⟩
            rw [q1] at b1 g1
            rw [q2] at b2 g2
            rw [q3] at b3 g1
            rw [q4] at b4 g2
            have hji : (j : Int) < (K : Int) := by omega
            have hmi : (m : Int) < (K : Int) := by omega
            have G1 := Lib.hid g1
            have G2 := Lib.hid g2
            clear hc hmq hstep HB g1 g2
            by_cases hcmp : p1 - p3 < p2 - p4
            · have hg : gBest (gKey ds N h k) (j + 1) = j := by rw [Hst.out, G1.out, G2.out, if_pos hcmp]
              have Hg := Lib.hid hg
              clear hg
              go_wp2_with fail
              go_quiet (fail)
              have hbq : Below wr.heap.size wr (wr.drewN nq) := below_drewN (Below.refl _ _) _
              have hoT3 := hoT2.below hbq
              have hoh3 := hoh2.below hbq
              have hB3 := hB2.trans (hbq.mono hB2.size)
              clear hbq c1 c2 c3 c4 q1 q2 q3 q4 b1 b2 b3 b4
              go_wp2
              go_roundw
              case rel => exact ⟨j + 1, by omega, by simp, by rw [Hg.out], hoT3, hoh3, hB3⟩
              case measure => simp [intOf]; omega
            · have hg : gBest (gKey ds N h k) (j + 1) = m := by rw [Hst.out, G1.out, G2.out, if_neg hcmp]
              have Hg := Lib.hid hg
              clear hg
              go_wp2_with fail
              go_quiet (fail)
              have hbq : Below wr.heap.size wr (wr.drewN nq) := below_drewN (Below.refl _ _) _
              have hoT3 := hoT2.below hbq
              have hoh3 := hoh2.below hbq
              have hB3 := hB2.trans (hbq.mono hB2.size)
              clear hbq c1 c2 c3 c4 q1 q2 q3 q4 b1 b2 b3 b4
              go_wp2
              go_roundw
              case rel => exact ⟨j + 1, by omega, by simp, by rw [Hg.out], hoT3, hoh3, hB3⟩
              case measure => simp [intOf]; omega
          · obtain rfl : j = K := by omega
            obtain ⟨m, hmq⟩ : ∃ m, gBest (gKey ds N h k) j = m := ⟨_, rfl⟩
            have hnx := Hnx.out
            rw [hmq] at hbl hnx ⊢
            have Hnx2 := Lib.hid hnx
            have hbm := HH.out.bd m (by rw [HK.out]; exact hbl)
            have hem := HD.out.el m (by rw [HK.out]; exact hbl)
            have hmi : (m : Int) < (j : Int) := by omega
            have c4 := hoh2.cellAt (j := m) (by rw [Hhl.out]; exact hbl)
            have f4 := hoh2.frozen m
            obtain ⟨r1, r2⟩ := hoh2.stored m (nth h m + 1)
            have hwb := (hoh2.blk gh rfl).2
            obtain ⟨Ws, hWs⟩ : ∃ Ws, wr.setCell ⟨gh, m, none⟩ (.int .i64 (nth h m + 1)) = Ws := ⟨_, rfl⟩
            rw [hWs] at r1 r2
            have hoT3 := hoT2.kept r2 (.inr hnb)
            have hB3 : Below w.heap.size w Ws := hB2.grown r2 hB2.size (fun q e => by cases e; omega)
            have hsz := hB3.size
            have htl : ts.length ≤ 60 := by have := Htl.out; omega
            clear hoT2 hoh2 hB2 hmq hnx r2
            go_wp2_with (at_builtin; refine wpList_append_own_at _ rfl _ _ 22 rfl w.heap.size 2 i0 (.int .i64 0) 1 8 Try.underlying22 hi hz0 hz1 hz2 rfl (by decide) _ _ _ rfl (World.ownsRow.alloc hoT3 _) ⟨Ws.heap.size, 0, none⟩ 1 1 [.int .i64 ((m : Int))] rfl rfl (Go.cell_one_new _ _ _) (by simp [Value.oneCell']) (by unfold maxLen; omega) (by omega) (by simp; omega) ?_)
            intro v' w1 hown' hgrow _ hat
            have ho2 := ownI_snoc hown'
            have hB2 : Below w.heap.size w w1 := (hB3.alloc hsz _).grown hgrow (by simp; omega) (fun j e => by have := (hoT3.blk j e).1; omega)
            have hgr : Ws.grownBy w1 _ := (World.grownBy_alloc _ _ _).trans hgrow
            have hat2 : v'.ownBlock = u.ownBlock ∨ ∀ j, v'.ownBlock = some j → Ws.heap.size ≤ j := by rcases hat with h | h; (first | exact .inl h); exact .inr fun j e => by rw [h] at e; simp at e; omega
            clear hown' hgrow hat
            have hoh4 := r1.kept hgr (.inr fun e => hnb e.symm)
            have hnb2 : v'.ownBlock ≠ some gh := fun e => by
              rcases hat2 with h1 | h1
              · exact hnb (h1 ▸ e)
              · have := h1 gh e; have := (r1.blk gh rfl).2; omega
            clear hgr hat2 r1 hoT3 hB3 c4 f4 hWs
            go_wp2
            go_roundw
            case rel => exact ⟨k + 1, _, _, _, ⟨by omega, by simp, rfl, Hnx2.out⟩, ho2, hoh4, hnb2, hB2⟩
            case measure => simp [intOf]; omega
      · obtain rfl : k = N := by omega
        have hf := runL_some hrun
        have Hf := Lib.hid hf
        clear hrun hf hHad hD
        go_wp2
        go_ret2
        exact ⟨_, ret_v2 Hc.out.symm, by rw [Hr.out, HK.out, Hf.out]; exact hoT, hB⟩

end Go.Proofs.Ytnhdfpmjebfjmaa
