/-
  TurnsFromShares of the model.
  Conditions: lists of at most 1048576 elements.
-/
import Derived.Test.YtgndbifcncklgaaWtt
namespace Go.Proofs.Ytgndbifcncklgaa
open Go.RowKit Go.Shelf
attribute [local go_sem] Oper.semAt_some

section
variable {P : Program}
/-- the ordinary way out alone -/
def onlyW (R : Act → World → Prop) : Exit → Act → World → Prop
  | .normal, a, w => R a w
  | _, _, _ => False
theorem wp_thru2 {α β : Type} (AA : α → β → Act) (R : α → β → World → Prop) {c : Code} {Q : Exit → Act → World → Prop} {a : Act} {w : World}
    (h : c.wp P (onlyW fun a' w' => ∃ x y, a' = AA x y ∧ R x y w') a w) (hq : ∀ x y w', R x y w' → Q .normal (AA x y) w') : c.wp P Q a w :=
  wp_mono h fun e a' w' hp => by
    cases e with
    | normal => obtain ⟨x, y, rfl, hr⟩ := hp; exact hq x y w' hr
    | panic ch => exact hp.elim
    | exit id => exact hp.elim
    | goto l => exact hp.elim
    | ret => exact hp.elim
    | outgrown => exact hp.elim
end

set_option maxRecDepth 100000 in
set_option maxHeartbeats 16000000 in
theorem s_TurnsFromShares (c0 : Value) (ds : List Int) (w : World) (hI : Ints w.heap.size w c0 ds) (_hN : I64s ds) (hm : ds.length ≤ 1048576) :
    Calls Try.prog 46 #[c0] w (GivesI w (tsR ds) fun v => .tuple #[v, .int .i64 (evC ds)]) := by
  obtain ⟨a, cap, rfl⟩ := hI.shape
  obtain ⟨i0, hi, hz0, hz1, hz2⟩ := info_parts Try.infoI2
  cases hok : shOk ds
  · have Hr := Lib.hid (show tsR ds = [] by unfold tsR; rw [hok]; rfl)
    have Hc := Lib.hid (show evC ds = 2 by unfold evC; rw [hok]; rfl)
    have Hs := Lib.hid (shR_no hok)
    clear hok
    go_enter Try.func46, Try.ntmps46
    go_wp2_with fail
    refine (l10Shares_c _ ds _ hI hm).mono ?_
    rintro e w1 ⟨he, rfl⟩
    rw [Hs.out] at he
    subst he
    go_wp2
    go_ret2
    exact ⟨_, ret_v2 Hc.out.symm, by rw [Hr.out]; exact ownI_nil _ _, Below.refl _ _⟩
  · obtain ⟨N, hS⟩ := sho hok
    have Hr := Lib.hid (show tsR ds = runL (pickS ds) ds.length N by unfold tsR; rw [hok, hS.shR hok, Int.toNat_natCast]; rfl)
    have Hc := Lib.hid (show evC ds = 0 by unfold evC; rw [hok]; rfl)
    have Hs := Lib.hid (hS.shR hok)
    have HS := Lib.hid hS
    have hlen := hS.len
    have hn := hS.n
    have hN0 : ((N : Int) == 0) = false := by rw [beq_eq_false_iff_ne]; omega
    have hfw : Try.prog.follows Departure.mixedOrders = true := by kernel_rfl
    obtain ⟨K, hK⟩ : ∃ K, ds.length = K := ⟨_, rfl⟩
    clear hok hS
    rw [hK] at hlen hI hm ⊢
    have HK := Lib.hid hK
    clear hK
    go_enter Try.func46, Try.ntmps46
    go_wp2_with fail
    refine (l10Shares_c _ ds _ hI (by rw [HK.out]; exact hm)).mono ?_
    rintro e w1 ⟨he, rfl⟩
    rw [Hs.out] at he
    subst he
    go_wp2_with fail
    refine' wp_thru2 (α := Nat) (β := Nat) _ (fun ga gh w' => Below w.heap.size w w' ∧ w.heap.size ≤ ga ∧ w.heap.size ≤ gh ∧ ga ≠ gh ∧ OwnI w.heap.size w' (.slice (some ⟨ga, 0, none⟩) 0 0) [] ∧ OwnI w.heap.size w' (.slice (some ⟨gh, 0, none⟩) K K) (List.replicate K 0)) _ _
    rotate_left
    · refine wp_region_held_drew (S := fun w' => Below w.heap.size w w') hfw (Below.refl _ _).drew ?_
      intro hS0
      refine wpAnyH_take (i := 1) (v := ?v1) rfl (by kernel_rfl) (by kernel_rfl) (by kernel_rfl) (fun _ _ _ h => h) (.inl ⟨by rfl, ?y1⟩) hS0 ?_
      case y1 =>
        intro w' hS
        (clear hS)
        go_simp
        try with_reducible rfl
      refine wpAnyH_take (i := 2) (v := ?v2) rfl (by kernel_rfl) (by kernel_rfl) (by kernel_rfl) (fun _ _ _ h => h) (.inl ⟨by rfl, ?y2⟩) hS0 ?_
      case y2 =>
        intro w' hS
        (clear hS)
        go_simp
        try with_reducible rfl
      obtain ⟨wd, hwd⟩ : ∃ wd, w.drew = wd := ⟨_, rfl⟩
      rw [hwd] at hS0 ⊢
      clear hwd
      refine wpAnyH_ready (rs := [0, 3]) (by kernel_rfl) (by simp) ?_
      refine AllReadyH.cons rfl (fun K' hK' => ?_) (AllReadyH.cons rfl (fun K' hK' => ?_) AllReadyH.nil)
      · rw [if_pos (by rfl)]
        go_simp
        obtain ⟨w_0, hw⟩ : ∃ wB, wd.alloc (.cells #[] 2) = wB := ⟨_, rfl⟩
        have hbw : Below wd.heap.size wd w_0 := by rw [← hw]; exact (Below.refl _ _).alloc (Nat.le_refl _) _
        have hoG0 : OwnI wd.heap.size w_0 (.slice (some ⟨wd.heap.size, 0, none⟩) 0 0) [] := by rw [← hw]; exact ownI_empty wd
        have hoA := hoG0.base hS0.size
        obtain ⟨ga, hgo⟩ : ∃ ga, wd.heap.size = ga := ⟨_, rfl⟩
        have hgo2 : ga < w_0.heap.size := by rw [← hw, ← hgo, World.size_alloc]; omega
        rw [hw]
        rw [hgo] at hoA ⊢
        refine hK'.out _ _ (hS0.trans (hbw.mono hS0.size)) fun hS_0 => ?_
        have hgo1 : w.heap.size ≤ ga := by rw [← hgo]; exact hS0.size
        have hs_w_0 := hbw.size
        clear hoG0 hw hbw hK'
        refine wpAnyH_take (i := 4) (v := ?vw_04) rfl (by kernel_rfl) (by kernel_rfl) (by kernel_rfl) (fun _ _ _ h => h) (.inl ⟨by rfl, ?yw_04⟩) hS_0 ?_
        case yw_04 =>
          intro w' hS
          (clear hS)
          go_simp
          try with_reducible rfl
        refine wpAnyH_ready (rs := [3]) (by kernel_rfl) (by simp) ?_
        refine AllReadyH.cons rfl (fun K' hK' => ?_) AllReadyH.nil
        · rw [if_pos (by rfl)]
          obtain ⟨w_0_3, hrun, hoC0, hgr⟩ := run_make_full (P := Try.prog) w_0 w.heap.size 24 2 i0 (.int .i64 0) 1 Try.underlying24 hi hz0 hz1 .i64 .i64 K (by rw [hz2]; omega) (by unfold maxLen; omega) hS_0.size
          have hbw : Below w_0.heap.size w_0 w_0_3 := (Below.refl _ _).grown hgr (Nat.le_refl _) (fun j e => by cases e)
          obtain ⟨gh, hgc⟩ : ∃ gh, w_0.heap.size = gh := ⟨_, rfl⟩
          rw [hgc] at hrun hoC0
          go_simp
          refine hK'.out _ _ (hS_0.trans (hbw.mono hS_0.size)) fun hS_0_3 => ?_
          have hgc1 : w.heap.size ≤ gh := by rw [← hgc]; exact hS_0.size
          have hoH := ownI_made (by rw [Nat.mul_one] at hoC0; exact hoC0)
          have hgc2 := (hoH.blk gh rfl).2
          replace hoA := hoA.below hbw
          have hs_w_0_3 := hbw.size
          clear hrun hoC0 hgr hbw hK'
          refine wpAnyH_take (i := 5) (v := ?vw_0_35) rfl (by kernel_rfl) (by kernel_rfl) (by kernel_rfl) (fun _ _ _ h => h) (.inl ⟨by rfl, ?yw_0_35⟩) hS_0_3 ?_
          case yw_0_35 =>
            intro w' hS
            (clear hS)
            go_simp
            try with_reducible rfl
          refine wpAnyH_done (by kernel_rfl) ?_ _
          refine ⟨ga, gh, ?_, hS_0_3, hgo1, hgc1, by omega, hoA, hoH⟩
          first | (go_simp; done) | (go_simp; exact rfl)
      · rw [if_pos (by rfl)]
        obtain ⟨w_3, hrun, hoC0, hgr⟩ := run_make_full (P := Try.prog) wd w.heap.size 24 2 i0 (.int .i64 0) 1 Try.underlying24 hi hz0 hz1 .i64 .i64 K (by rw [hz2]; omega) (by unfold maxLen; omega) hS0.size
        have hbw : Below wd.heap.size wd w_3 := (Below.refl _ _).grown hgr (Nat.le_refl _) (fun j e => by cases e)
        obtain ⟨gh, hgc⟩ : ∃ gh, wd.heap.size = gh := ⟨_, rfl⟩
        rw [hgc] at hrun hoC0
        go_simp
        refine hK'.out _ _ (hS0.trans (hbw.mono hS0.size)) fun hS_3 => ?_
        have hgc1 : w.heap.size ≤ gh := by rw [← hgc]; exact hS0.size
        have hoH := ownI_made (by rw [Nat.mul_one] at hoC0; exact hoC0)
        have hgc2 := (hoH.blk gh rfl).2
        have hs_w_3 := hbw.size
        clear hrun hoC0 hgr hbw hK'
        refine wpAnyH_ready (rs := [0]) (by kernel_rfl) (by simp) ?_
        refine AllReadyH.cons rfl (fun K' hK' => ?_) AllReadyH.nil
        · rw [if_pos (by rfl)]
          go_simp
          obtain ⟨w_3_0, hw⟩ : ∃ wB, w_3.alloc (.cells #[] 2) = wB := ⟨_, rfl⟩
          have hbw : Below w_3.heap.size w_3 w_3_0 := by rw [← hw]; exact (Below.refl _ _).alloc (Nat.le_refl _) _
          have hoG0 : OwnI w_3.heap.size w_3_0 (.slice (some ⟨w_3.heap.size, 0, none⟩) 0 0) [] := by rw [← hw]; exact ownI_empty w_3
          have hoA := hoG0.base hS_3.size
          obtain ⟨ga, hgo⟩ : ∃ ga, w_3.heap.size = ga := ⟨_, rfl⟩
          have hgo2 : ga < w_3_0.heap.size := by rw [← hw, ← hgo, World.size_alloc]; omega
          rw [hw]
          rw [hgo] at hoA ⊢
          refine hK'.out _ _ (hS_3.trans (hbw.mono hS_3.size)) fun hS_3_0 => ?_
          have hgo1 : w.heap.size ≤ ga := by rw [← hgo]; exact hS_3.size
          replace hoH := hoH.below hbw
          have hs_w_3_0 := hbw.size
          clear hoG0 hw hbw hK'
          refine wpAnyH_take (i := 4) (v := ?vw_3_04) rfl (by kernel_rfl) (by kernel_rfl) (by kernel_rfl) (fun _ _ _ h => h) (.inl ⟨by rfl, ?yw_3_04⟩) hS_3_0 ?_
          case yw_3_04 =>
            intro w' hS
            (clear hS)
            go_simp
            try with_reducible rfl
          refine wpAnyH_take (i := 5) (v := ?vw_3_05) rfl (by kernel_rfl) (by kernel_rfl) (by kernel_rfl) (fun _ _ _ h => h) (.inl ⟨by rfl, ?yw_3_05⟩) hS_3_0 ?_
          case yw_3_05 =>
            intro w' hS
            (clear hS)
            go_simp
            try with_reducible rfl
          refine wpAnyH_done (by kernel_rfl) ?_ _
          refine ⟨ga, gh, ?_, hS_3_0, hgo1, hgc1, by omega, hoA, hoH⟩
          first | (go_simp; done) | (go_simp; exact rfl)
    rintro ga gh wq ⟨hBq, hga, hgh, hne, hoA, hoH⟩
    go_wp2
    go_loopw [5, 7] (fun v n wr => ∃ (k : Nat) (ts h : List Int) (u : Value), (k ≤ N ∧ n = .int .i64 k ∧ u = v ∧ runTo (pickS ds) K k = some (ts, h)) ∧ OwnI w.heap.size wr u ts ∧ OwnI w.heap.size wr (.slice (some ⟨gh, 0, none⟩) K K) h ∧ u.ownBlock ≠ some gh ∧ Below w.heap.size w wr) (fun _ n _ => N - (intOf n).toNat)
    case atStart => exact ⟨0, [], List.replicate K 0, _, ⟨Nat.zero_le _, rfl, rfl, rfl⟩, hoA, hoH, by simp [Value.ownBlock]; exact hne, hBq⟩
    case round =>
      obtain ⟨k, ts, h, u, ⟨hk, rfl, rfl, hrun⟩, hoT, hoh, hnb, hB⟩ := hrel
      clear hoA hoH hBq
      have hHad : Had ds k ts h := by have hr2 := hrun; rw [← HK.out] at hr2; exact run_had HS.out.zero (fairS ds) hr2
      have hsw := hB.size
      by_cases hlt : k < N
      · obtain ⟨m, hpk, hml, hlm, hnx⟩ := runS_next HS.out hlt (by rw [HK.out]; exact hrun)
        rw [HK.out] at hml hnx hpk
        have Hnx := Lib.hid hnx
        have Hpk := Lib.hid hpk
        have hhl : h.length = K := by rw [hHad.hl]; exact HK.out
        have Hhl := Lib.hid hhl
        have htl : ts.length ≤ 120 := by have := hHad.len; omega
        have HH := Lib.hid hHad
        have hbm := hHad.bd m (by rw [HK.out]; exact hml)
        have hem := HS.out.el m (by rw [HK.out]; exact hml)
        clear hrun hpk hnx hHad hhl
        go_wp2
        go_loopw [8, 9] (fun best i W => ∃ j : Nat, j ≤ K ∧ i = .int .i64 j ∧ best = .int .i64 (opI (pkTo (shN ds) (shN h) j)) ∧ (OwnI w.heap.size W u ts ∧ OwnI w.heap.size W (.slice (some ⟨gh, 0, none⟩) K K) h ∧ Below w.heap.size w W)) (fun _ i _ => K - (intOf i).toNat)
        case atStart => exact ⟨0, Nat.zero_le _, rfl, rfl, hoT, hoh, hB⟩
        case round =>
          obtain ⟨j, hj, rfl, rfl, hoT2, hoh2, hB2⟩ := hrel
          clear hoT hoh hB
          by_cases hjl : j < K
          · have hji : (j : Int) < (K : Int) := by omega
            obtain ⟨b, off, rfl, hb, hc⟩ := (hI.later hB2).at_ (k := j) (by rw [HK.out]; exact hjl)
            have c1 := hc j (by rw [HK.out]; exact hjl)
            have c3 := hoh2.cellAt (j := j) (by rw [Hhl.out]; exact hjl)
            have hbj := HH.out.bd j (by rw [HK.out]; exact hjl)
            have hej := HS.out.nat j (by rw [HK.out]; exact hjl)
            have hfj : (shN h j : Int) = nth h j := by unfold shN; omega
            have Hoff := Lib.hid (pkTo_off (g := shN ds) (f := shN h) (k := j))
            have Hnew := Lib.hid (pkTo_new (g := shN ds) (f := shN h) (k := j))
            have Hold := Lib.hid (pkTo_old (g := shN ds) (f := shN h) (k := j))
            have Hsome := Lib.hid (fun i => pkTo_some (g := shN ds) (f := shN h) (k := j) (j := i))
            rw [← hfj] at c3
            rw [← hej.2.2] at c1
            obtain ⟨f, hf⟩ : ∃ f, shN h j = f := ⟨_, rfl⟩
            obtain ⟨g, hg⟩ : ∃ g, shN ds j = g := ⟨_, rfl⟩
            have hfg : f ≤ g := by omega
            have hgb : g ≤ 120 := by omega
            rw [hf] at c3
            rw [hg] at c1
            have HF := Lib.hid hf
            have HG := Lib.hid hg
            have hwb := (hoh2.blk gh rfl).2
            obtain ⟨z, hz⟩ : ∃ z, opI (pkTo (shN ds) (shN h) j) = z := ⟨_, rfl⟩
            have Hz := Lib.hid hz
            rw [hz]
            clear hf hg hfj hbj hej hz
            by_cases hfe : f = g
            · have E := Lib.hid (Hoff.out (by rw [HF.out, HG.out]; omega))
              have hq : ((f : Int) == (g : Int)) = true := by simp; omega
              clear hc
              go_wp2_with fail
              go_quiet (fail)
              have hbq : Below wr.heap.size wr (wr.drewN nq) := below_drewN (Below.refl _ _) _
              have hoT3 := hoT2.below hbq
              have hoh3 := hoh2.below hbq
              have hB3 := hB2.trans (hbq.mono hB2.size)
              clear hbq c1 c3
              go_wp2
              go_roundw
              case rel => exact ⟨j + 1, by omega, by simp, by rw [E.out, Hz.out], hoT3, hoh3, hB3⟩
              case measure => simp [intOf]; omega
            · have hq : ((f : Int) == (g : Int)) = false := by simp; omega
              go_wp2_with fail
              go_quiet (fail)
              have hbq : Below wr.heap.size wr (wr.drewN nq) := below_drewN (Below.refl _ _) _
              obtain ⟨W2, hW2⟩ : ∃ W2, wr.drewN nq = W2 := ⟨_, rfl⟩
              rw [hW2] at hbq ⊢
              clear hW2
              cases hp : pkTo (shN ds) (shN h) j with
              | none =>
                have hz1 : z = -1 := by have := Hz.out; rw [hp] at this; exact this.symm
                have E := Lib.hid (Hnew.out (by rw [HF.out, HG.out]; omega) (.inl hp))
                subst hz1
                go_wp2_with fail
                refine wp_region_held_drew (S := fun w' => Below wr.heap.size wr w') hfw hbq.drew ?_
                intro hS0
                refine wpAnyH_take (i := 0) (v := ?vn10) rfl (by kernel_rfl) (by kernel_rfl) (by kernel_rfl) (fun _ _ _ h => h) (.inl ⟨by rfl, ?yn10⟩) hS0 ?_
                case yn10 =>
                  intro w' hS
                  (clear hS)
                  go_simp
                  try with_reducible rfl
                refine wpAnyH_take (i := 1) (v := (.bool true)) rfl (by kernel_rfl) (by kernel_rfl) (by kernel_rfl) (fun _ _ _ h => h) (.inl ⟨by first | kernel_rfl | rfl, ?yn21⟩) hS0 ?_
                case yn21 =>
                  intro w' hS
                  (clear hS)
                  go_simp
                  first | done | (simp; done) | (simp; omega) | omega | (simp [*]; done)
                refine wpAnyH_take (i := 2) (v := ?vn32) rfl (by kernel_rfl) (by kernel_rfl) (by kernel_rfl) (fun _ _ _ h => h) (.inl ⟨by first | kernel_rfl | rfl, ?yn32⟩) hS0 ?_
                case yn32 =>
                  intro w' hS
                  (clear hS)
                  go_simp
                  try with_reducible rfl
                try simp only [Act.put, List.getElem_toArray, List.getElem_cons_zero, List.getElem_cons_succ, List.setIfInBounds_toArray, List.set_cons_zero, List.set_cons_succ]
                refine wpAnyH_take (i := 3) (v := undef) rfl (by kernel_rfl) (by kernel_rfl) (by kernel_rfl) (fun _ _ _ h => h) (.inr ⟨by kernel_rfl, rfl⟩) hS0 ?_
                refine wpAnyH_take (i := 4) (v := undef) rfl (by kernel_rfl) (by kernel_rfl) (by kernel_rfl) (fun _ _ _ h => h) (.inr ⟨by kernel_rfl, rfl⟩) hS0 ?_
                refine wpAnyH_take (i := 5) (v := undef) rfl (by kernel_rfl) (by kernel_rfl) (by kernel_rfl) (fun _ _ _ h => h) (.inr ⟨by kernel_rfl, rfl⟩) hS0 ?_
                refine wpAnyH_take (i := 6) (v := undef) rfl (by kernel_rfl) (by kernel_rfl) (by kernel_rfl) (fun _ _ _ h => h) (.inr ⟨by kernel_rfl, rfl⟩) hS0 ?_
                refine wpAnyH_take (i := 7) (v := undef) rfl (by kernel_rfl) (by kernel_rfl) (by kernel_rfl) (fun _ _ _ h => h) (.inr ⟨by kernel_rfl, rfl⟩) hS0 ?_
                refine wpAnyH_take (i := 8) (v := undef) rfl (by kernel_rfl) (by kernel_rfl) (by kernel_rfl) (fun _ _ _ h => h) (.inr ⟨by kernel_rfl, rfl⟩) hS0 ?_
                refine wpAnyH_take (i := 9) (v := undef) rfl (by kernel_rfl) (by kernel_rfl) (by kernel_rfl) (fun _ _ _ h => h) (.inr ⟨by kernel_rfl, rfl⟩) hS0 ?_
                refine wpAnyH_take (i := 10) (v := undef) rfl (by kernel_rfl) (by kernel_rfl) (by kernel_rfl) (fun _ _ _ h => h) (.inr ⟨by kernel_rfl, rfl⟩) hS0 ?_
                refine wpAnyH_take (i := 11) (v := undef) rfl (by kernel_rfl) (by kernel_rfl) (by kernel_rfl) (fun _ _ _ h => h) (.inr ⟨by kernel_rfl, rfl⟩) hS0 ?_
                refine wpAnyH_take (i := 12) (v := undef) rfl (by kernel_rfl) (by kernel_rfl) (by kernel_rfl) (fun _ _ _ h => h) (.inr ⟨by kernel_rfl, rfl⟩) hS0 ?_
                refine wpAnyH_take (i := 13) (v := undef) rfl (by kernel_rfl) (by kernel_rfl) (by kernel_rfl) (fun _ _ _ h => h) (.inr ⟨by kernel_rfl, rfl⟩) hS0 ?_
                refine wpAnyH_take (i := 14) (v := undef) rfl (by kernel_rfl) (by kernel_rfl) (by kernel_rfl) (fun _ _ _ h => h) (.inr ⟨by kernel_rfl, rfl⟩) hS0 ?_
                refine wpAnyH_take (i := 15) (v := undef) rfl (by kernel_rfl) (by kernel_rfl) (by kernel_rfl) (fun _ _ _ h => h) (.inr ⟨by kernel_rfl, rfl⟩) hS0 ?_
                refine wpAnyH_take (i := 16) (v := undef) rfl (by kernel_rfl) (by kernel_rfl) (by kernel_rfl) (fun _ _ _ h => h) (.inr ⟨by kernel_rfl, rfl⟩) hS0 ?_
                refine wpAnyH_take (i := 17) (v := undef) rfl (by kernel_rfl) (by kernel_rfl) (by kernel_rfl) (fun _ _ _ h => h) (.inr ⟨by kernel_rfl, rfl⟩) hS0 ?_
                refine wpAnyH_take (i := 18) (v := undef) rfl (by kernel_rfl) (by kernel_rfl) (by kernel_rfl) (fun _ _ _ h => h) (.inr ⟨by kernel_rfl, rfl⟩) hS0 ?_
                refine wpAnyH_take (i := 19) (v := undef) rfl (by kernel_rfl) (by kernel_rfl) (by kernel_rfl) (fun _ _ _ h => h) (.inr ⟨by kernel_rfl, rfl⟩) hS0 ?_
                refine wpAnyH_take (i := 20) (v := undef) rfl (by kernel_rfl) (by kernel_rfl) (by kernel_rfl) (fun _ _ _ h => h) (.inr ⟨by kernel_rfl, rfl⟩) hS0 ?_
                refine wpAnyH_take (i := 21) (v := undef) rfl (by kernel_rfl) (by kernel_rfl) (by kernel_rfl) (fun _ _ _ h => h) (.inr ⟨by kernel_rfl, rfl⟩) hS0 ?_
                refine wpAnyH_take (i := 22) (v := undef) rfl (by kernel_rfl) (by kernel_rfl) (by kernel_rfl) (fun _ _ _ h => h) (.inr ⟨by kernel_rfl, rfl⟩) hS0 ?_
                refine wpAnyH_take (i := 23) (v := undef) rfl (by kernel_rfl) (by kernel_rfl) (by kernel_rfl) (fun _ _ _ h => h) (.inr ⟨by kernel_rfl, rfl⟩) hS0 ?_
                refine wpAnyH_take (i := 24) (v := undef) rfl (by kernel_rfl) (by kernel_rfl) (by kernel_rfl) (fun _ _ _ h => h) (.inr ⟨by kernel_rfl, rfl⟩) hS0 ?_
                refine wpAnyH_take (i := 25) (v := undef) rfl (by kernel_rfl) (by kernel_rfl) (by kernel_rfl) (fun _ _ _ h => h) (.inr ⟨by kernel_rfl, rfl⟩) hS0 ?_
                try simp only [Act.put, List.getElem_toArray, List.getElem_cons_zero, List.getElem_cons_succ, List.setIfInBounds_toArray, List.set_cons_zero, List.set_cons_succ]
                refine wpAnyH_take (i := 26) (v := ?vn426) rfl (by kernel_rfl) (by kernel_rfl) (by kernel_rfl) (fun _ _ _ h => h) (.inl ⟨by first | kernel_rfl | rfl, ?yn426⟩) hS0 ?_
                case yn426 =>
                  intro w' hS
                  (clear hS)
                  go_simp
                  try with_reducible rfl
                try simp only [Act.put, List.getElem_toArray, List.getElem_cons_zero, List.getElem_cons_succ, List.setIfInBounds_toArray, List.set_cons_zero, List.set_cons_succ]
                refine wpAnyH_done (by kernel_rfl) ?_ _
                have hoT3 := hoT2.below hS0
                have hoh3 := hoh2.below hS0
                have hB3 := hB2.trans (hS0.mono hB2.size)
                clear hS0 c1 c3 hc
                go_wp2
                go_roundw
                case rel => exact ⟨j + 1, by omega, by simp, by rw [E.out]; rfl, hoT3, hoh3, hB3⟩
                case measure => simp [intOf]; omega
              | some i =>
                have hil := Hsome.out i hp
                have hiK : i < ds.length := by rw [HK.out]; omega
                have hz1 : z = (i : Int) := by have := Hz.out; rw [hp] at this; exact this.symm
                have c2 := hc i hiK
                have c4 := hoh2.cellAt (j := i) (by rw [Hhl.out]; omega)
                have hbi := HH.out.bd i hiK
                have hei := HS.out.nat i hiK
                have hfi : (shN h i : Int) = nth h i := by unfold shN; omega
                rw [← hfi] at c4
                rw [← hei.2.2] at c2
                obtain ⟨f2, hf2⟩ : ∃ f2, shN h i = f2 := ⟨_, rfl⟩
                obtain ⟨g2, hg2⟩ : ∃ g2, shN ds i = g2 := ⟨_, rfl⟩
                have hfb2 : f2 ≤ 120 := by omega
                have hgb2 : g2 ≤ 120 := by omega
                rw [hf2] at c4
                rw [hg2] at c2
                obtain ⟨u1, hu1⟩ : ∃ u1, 2 * f = u1 := ⟨_, rfl⟩
                obtain ⟨u2, hu2⟩ : ∃ u2, u1 + 1 = u2 := ⟨_, rfl⟩
                obtain ⟨x1, hx1⟩ : ∃ x1, 2 * f2 = x1 := ⟨_, rfl⟩
                obtain ⟨x2, hx2⟩ : ∃ x2, x1 + 1 = x2 := ⟨_, rfl⟩
                obtain ⟨p1, hp1⟩ : ∃ p1, u2 * g2 = p1 := ⟨_, rfl⟩
                obtain ⟨p2, hp2⟩ : ∃ p2, x2 * g = p2 := ⟨_, rfl⟩
                have m1 : 2 * (f : Int) = (u1 : Int) := by omega
                have m2 : (u1 : Int) + 1 = (u2 : Int) := by omega
                have m3 : 2 * (f2 : Int) = (x1 : Int) := by omega
                have m4 : (x1 : Int) + 1 = (x2 : Int) := by omega
                have m5 : (u2 : Int) * (g2 : Int) = (p1 : Int) := by rw [← hp1]; simp
                have m6 : (x2 : Int) * (g : Int) = (p2 : Int) := by rw [← hp2]; simp
                have b1 : p1 ≤ 241 * 120 := by rw [← hp1]; exact Nat.mul_le_mul (by omega) hgb2
                have b2 : p2 ≤ 241 * 120 := by rw [← hp2]; exact Nat.mul_le_mul (by omega) hgb
                have b3 : u2 ≤ 241 := by omega
                have b4 : x2 ≤ 241 := by omega
                have hii : (i : Int) < (K : Int) := by omega
                have hin : ¬ (i : Int) < 0 := by omega
                have HA := Lib.hid (show opA (shN h) (pkTo (shN ds) (shN h) j) * shN ds j = p2 by rw [hp]; show (2 * shN h i + 1) * shN ds j = p2; rw [hf2, HG.out, hx1, hx2, hp2])
                have HO := Lib.hid (show (2 * shN h j + 1) * opB (shN ds) (pkTo (shN ds) (shN h) j) = p1 by rw [hp]; show (2 * shN h j + 1) * shN ds i = p1; rw [hg2, HF.out, hu1, hu2, hp1])
                have HP := Lib.hid hp
                have hnn := Lib.hid (show pkTo (shN ds) (shN h) j ≠ none by rw [hp]; simp)
                subst hz1
                clear hu1 hu2 hx1 hx2 hp1 hp2 hf2 hg2 hfi hei hbi hp hc
                by_cases hcmp : p1 < p2
                · have E := Lib.hid (Hnew.out (by rw [HF.out, HG.out]; omega) (.inr (by rw [HA.out, HO.out]; exact hcmp)))
                  go_wp2_with fail
                  refine wp_region_held_drew (S := fun w' => Below wr.heap.size wr w') hfw hbq.drew ?_
                  intro hS0
                  refine wpAnyH_take (i := 0) (v := ?va10) rfl (by kernel_rfl) (by kernel_rfl) (by kernel_rfl) (fun _ _ _ h => h) (.inl ⟨by rfl, ?ya10⟩) hS0 ?_
                  case ya10 =>
                    intro w' hS
                    (clear hS)
                    go_simp
                    try with_reducible rfl
                  refine wpAnyH_take (i := 1) (v := (.bool false)) rfl (by kernel_rfl) (by kernel_rfl) (by kernel_rfl) (fun _ _ _ h => h) (.inl ⟨by first | kernel_rfl | rfl, ?ya21⟩) hS0 ?_
                  case ya21 =>
                    intro w' hS
                    (clear hS)
                    go_simp
                    first | done | (simp; done) | (simp; omega) | omega | (simp [*]; done)
                  refine wpAnyH_take (i := 2) (v := ?va32) rfl (by kernel_rfl) (by kernel_rfl) (by kernel_rfl) (fun _ _ _ h => h) (.inl ⟨by first | kernel_rfl | rfl, ?ya32⟩) hS0 ?_
                  case ya32 =>
                    intro w' hS
                    (clear hS)
                    go_simp
                    try with_reducible rfl
                  try simp only [Act.put, List.getElem_toArray, List.getElem_cons_zero, List.getElem_cons_succ, List.setIfInBounds_toArray, List.set_cons_zero, List.set_cons_succ]
                  refine wpAnyH_take (i := 3) (v := ?va43) rfl (by kernel_rfl) (by kernel_rfl) (by kernel_rfl) (fun _ _ _ h => h) (.inl ⟨by first | kernel_rfl | rfl, ?ya43⟩) hS0 ?_
                  case ya43 =>
                    intro w' hS
                    (clear hS)
                    go_simp
                    try with_reducible rfl
                  refine wpAnyH_take (i := 4) (v := ?va44) rfl (by kernel_rfl) (by kernel_rfl) (by kernel_rfl) (fun _ _ _ h => h) (.inl ⟨by first | kernel_rfl | rfl, ?ya44⟩) hS0 ?_
                  case ya44 =>
                    intro w' hS
                    (clear hS)
                    go_simp
                    try with_reducible rfl
                  refine wpAnyH_take (i := 9) (v := ?va49) rfl (by kernel_rfl) (by kernel_rfl) (by kernel_rfl) (fun _ _ _ h => h) (.inl ⟨by first | kernel_rfl | rfl, ?ya49⟩) hS0 ?_
                  case ya49 =>
                    intro w' hS
                    (clear hS)
                    go_simp
                    try with_reducible rfl
                  refine wpAnyH_take (i := 10) (v := ?va410) rfl (by kernel_rfl) (by kernel_rfl) (by kernel_rfl) (fun _ _ _ h => h) (.inl ⟨by first | kernel_rfl | rfl, ?ya410⟩) hS0 ?_
                  case ya410 =>
                    intro w' hS
                    (clear hS)
                    go_simp
                    try with_reducible rfl
                  refine wpAnyH_take (i := 14) (v := ?va414) rfl (by kernel_rfl) (by kernel_rfl) (by kernel_rfl) (fun _ _ _ h => h) (.inl ⟨by first | kernel_rfl | rfl, ?ya414⟩) hS0 ?_
                  case ya414 =>
                    intro w' hS
                    (clear hS)
                    go_simp
                    try with_reducible rfl
                  refine wpAnyH_take (i := 15) (v := ?va415) rfl (by kernel_rfl) (by kernel_rfl) (by kernel_rfl) (fun _ _ _ h => h) (.inl ⟨by first | kernel_rfl | rfl, ?ya415⟩) hS0 ?_
                  case ya415 =>
                    intro w' hS
                    (clear hS)
                    go_simp
                    try with_reducible rfl
                  refine wpAnyH_take (i := 20) (v := ?va420) rfl (by kernel_rfl) (by kernel_rfl) (by kernel_rfl) (fun _ _ _ h => h) (.inl ⟨by first | kernel_rfl | rfl, ?ya420⟩) hS0 ?_
                  case ya420 =>
                    intro w' hS
                    (clear hS)
                    go_simp
                    try with_reducible rfl
                  refine wpAnyH_take (i := 21) (v := ?va421) rfl (by kernel_rfl) (by kernel_rfl) (by kernel_rfl) (fun _ _ _ h => h) (.inl ⟨by first | kernel_rfl | rfl, ?ya421⟩) hS0 ?_
                  case ya421 =>
                    intro w' hS
                    (clear hS)
                    go_simp
                    try with_reducible rfl
                  try simp only [Act.put, List.getElem_toArray, List.getElem_cons_zero, List.getElem_cons_succ, List.setIfInBounds_toArray, List.set_cons_zero, List.set_cons_succ]
                  refine wpAnyH_take (i := 5) (v := ?va55) rfl (by kernel_rfl) (by kernel_rfl) (by kernel_rfl) (fun _ _ _ h => h) (.inl ⟨by first | kernel_rfl | rfl, ?ya55⟩) hS0 ?_
                  case ya55 =>
                    intro w' hS
                    (clear hS)
                    go_simp
                    try with_reducible rfl
                  refine wpAnyH_take (i := 11) (v := ?va511) rfl (by kernel_rfl) (by kernel_rfl) (by kernel_rfl) (fun _ _ _ h => h) (.inl ⟨by first | kernel_rfl | rfl, ?ya511⟩) hS0 ?_
                  case ya511 =>
                    intro w' hS
                    (clear hS)
                    go_simp
                    try with_reducible rfl
                  refine wpAnyH_take (i := 16) (v := ?va516) rfl (by kernel_rfl) (by kernel_rfl) (by kernel_rfl) (fun _ _ _ h => h) (.inl ⟨by first | kernel_rfl | rfl, ?ya516⟩) hS0 ?_
                  case ya516 =>
                    intro w' hS
                    (clear hS)
                    go_simp
                    try with_reducible rfl
                  refine wpAnyH_take (i := 22) (v := ?va522) rfl (by kernel_rfl) (by kernel_rfl) (by kernel_rfl) (fun _ _ _ h => h) (.inl ⟨by first | kernel_rfl | rfl, ?ya522⟩) hS0 ?_
                  case ya522 =>
                    intro w' hS
                    (clear hS)
                    go_simp
                    try with_reducible rfl
                  try simp only [Act.put, List.getElem_toArray, List.getElem_cons_zero, List.getElem_cons_succ, List.setIfInBounds_toArray, List.set_cons_zero, List.set_cons_succ]
                  refine wpAnyH_take (i := 6) (v := ?va66) rfl (by kernel_rfl) (by kernel_rfl) (by kernel_rfl) (fun _ _ _ h => h) (.inl ⟨by first | kernel_rfl | rfl, ?ya66⟩) hS0 ?_
                  case ya66 =>
                    intro w' hS
                    (have k1 := (hS.cell (p := ⟨b, off + j, none⟩) hb).trans c1; have k2 := (hS.cell (p := ⟨b, off + i, none⟩) hb).trans c2; have k3 := (hS.cell (p := ⟨gh, j, none⟩) hwb).trans c3; have k4 := (hS.cell (p := ⟨gh, i, none⟩) hwb).trans c4; clear hS)
                    go_simp
                    try with_reducible rfl
                  refine wpAnyH_take (i := 12) (v := ?va612) rfl (by kernel_rfl) (by kernel_rfl) (by kernel_rfl) (fun _ _ _ h => h) (.inl ⟨by first | kernel_rfl | rfl, ?ya612⟩) hS0 ?_
                  case ya612 =>
                    intro w' hS
                    (have k1 := (hS.cell (p := ⟨b, off + j, none⟩) hb).trans c1; have k2 := (hS.cell (p := ⟨b, off + i, none⟩) hb).trans c2; have k3 := (hS.cell (p := ⟨gh, j, none⟩) hwb).trans c3; have k4 := (hS.cell (p := ⟨gh, i, none⟩) hwb).trans c4; clear hS)
                    go_simp
                    try with_reducible rfl
                  refine wpAnyH_take (i := 17) (v := ?va617) rfl (by kernel_rfl) (by kernel_rfl) (by kernel_rfl) (fun _ _ _ h => h) (.inl ⟨by first | kernel_rfl | rfl, ?ya617⟩) hS0 ?_
                  case ya617 =>
                    intro w' hS
                    (have k1 := (hS.cell (p := ⟨b, off + j, none⟩) hb).trans c1; have k2 := (hS.cell (p := ⟨b, off + i, none⟩) hb).trans c2; have k3 := (hS.cell (p := ⟨gh, j, none⟩) hwb).trans c3; have k4 := (hS.cell (p := ⟨gh, i, none⟩) hwb).trans c4; clear hS)
                    go_simp
                    try with_reducible rfl
                  refine wpAnyH_take (i := 23) (v := ?va623) rfl (by kernel_rfl) (by kernel_rfl) (by kernel_rfl) (fun _ _ _ h => h) (.inl ⟨by first | kernel_rfl | rfl, ?ya623⟩) hS0 ?_
                  case ya623 =>
                    intro w' hS
                    (have k1 := (hS.cell (p := ⟨b, off + j, none⟩) hb).trans c1; have k2 := (hS.cell (p := ⟨b, off + i, none⟩) hb).trans c2; have k3 := (hS.cell (p := ⟨gh, j, none⟩) hwb).trans c3; have k4 := (hS.cell (p := ⟨gh, i, none⟩) hwb).trans c4; clear hS)
                    go_simp
                    try with_reducible rfl
                  try simp only [Act.put, List.getElem_toArray, List.getElem_cons_zero, List.getElem_cons_succ, List.setIfInBounds_toArray, List.set_cons_zero, List.set_cons_succ]
                  refine wpAnyH_take (i := 7) (v := (.int .i64 (u1 : Int))) rfl (by kernel_rfl) (by kernel_rfl) (by kernel_rfl) (fun _ _ _ h => h) (.inl ⟨by first | kernel_rfl | rfl, ?ya77⟩) hS0 ?_
                  case ya77 =>
                    intro w' hS
                    (clear hS)
                    go_simp
                    (rw [IntKind.wrap_i64]; omega)
                    first | done | (simp; done) | (simp; omega) | omega | (simp [*]; done)
                  refine wpAnyH_take (i := 8) (v := (.int .i64 (u2 : Int))) rfl (by kernel_rfl) (by kernel_rfl) (by kernel_rfl) (fun _ _ _ h => h) (.inl ⟨by first | kernel_rfl | rfl, ?ya88⟩) hS0 ?_
                  case ya88 =>
                    intro w' hS
                    (clear hS)
                    go_simp
                    (rw [IntKind.wrap_i64]; omega)
                    first | done | (simp; done) | (simp; omega) | omega | (simp [*]; done)
                  refine wpAnyH_take (i := 13) (v := (.int .i64 (p1 : Int))) rfl (by kernel_rfl) (by kernel_rfl) (by kernel_rfl) (fun _ _ _ h => h) (.inl ⟨by first | kernel_rfl | rfl, ?ya913⟩) hS0 ?_
                  case ya913 =>
                    intro w' hS
                    (clear hS)
                    go_simp
                    (rw [IntKind.wrap_i64]; omega)
                    first | done | (simp; done) | (simp; omega) | omega | (simp [*]; done)
                  refine wpAnyH_take (i := 18) (v := (.int .i64 (x1 : Int))) rfl (by kernel_rfl) (by kernel_rfl) (by kernel_rfl) (fun _ _ _ h => h) (.inl ⟨by first | kernel_rfl | rfl, ?ya1018⟩) hS0 ?_
                  case ya1018 =>
                    intro w' hS
                    (clear hS)
                    go_simp
                    (rw [IntKind.wrap_i64]; omega)
                    first | done | (simp; done) | (simp; omega) | omega | (simp [*]; done)
                  refine wpAnyH_take (i := 19) (v := (.int .i64 (x2 : Int))) rfl (by kernel_rfl) (by kernel_rfl) (by kernel_rfl) (fun _ _ _ h => h) (.inl ⟨by first | kernel_rfl | rfl, ?ya1119⟩) hS0 ?_
                  case ya1119 =>
                    intro w' hS
                    (clear hS)
                    go_simp
                    (rw [IntKind.wrap_i64]; omega)
                    first | done | (simp; done) | (simp; omega) | omega | (simp [*]; done)
                  refine wpAnyH_take (i := 24) (v := (.int .i64 (p2 : Int))) rfl (by kernel_rfl) (by kernel_rfl) (by kernel_rfl) (fun _ _ _ h => h) (.inl ⟨by first | kernel_rfl | rfl, ?ya1224⟩) hS0 ?_
                  case ya1224 =>
                    intro w' hS
                    (clear hS)
                    go_simp
                    (rw [IntKind.wrap_i64]; omega)
                    first | done | (simp; done) | (simp; omega) | omega | (simp [*]; done)
                  refine wpAnyH_take (i := 25) (v := (.bool true)) rfl (by kernel_rfl) (by kernel_rfl) (by kernel_rfl) (fun _ _ _ h => h) (.inl ⟨by first | kernel_rfl | rfl, ?ya1325⟩) hS0 ?_
                  case ya1325 =>
                    intro w' hS
                    (clear hS)
                    go_simp
                    first | done | (simp; done) | (simp; omega) | omega | (simp [*]; done)
                  refine wpAnyH_take (i := 26) (v := ?va1426) rfl (by kernel_rfl) (by kernel_rfl) (by kernel_rfl) (fun _ _ _ h => h) (.inl ⟨by first | kernel_rfl | rfl, ?ya1426⟩) hS0 ?_
                  case ya1426 =>
                    intro w' hS
                    (clear hS)
                    go_simp
                    try with_reducible rfl
                  try simp only [Act.put, List.getElem_toArray, List.getElem_cons_zero, List.getElem_cons_succ, List.setIfInBounds_toArray, List.set_cons_zero, List.set_cons_succ]
                  refine wpAnyH_done (by kernel_rfl) ?_ _
                  have hoT3 := hoT2.below hS0
                  have hoh3 := hoh2.below hS0
                  have hB3 := hB2.trans (hS0.mono hB2.size)
                  clear hS0 c1 c2 c3 c4 m1 m2 m3 m4 m5 m6
                  go_wp2
                  go_roundw
                  case rel => exact ⟨j + 1, by omega, by simp, by rw [E.out]; rfl, hoT3, hoh3, hB3⟩
                  case measure => simp [intOf]; omega
                · have E := Lib.hid ((Hold.out hnn.out (by rw [HA.out, HO.out]; exact hcmp)).trans HP.out)
                  go_wp2_with fail
                  refine wp_region_held_drew (S := fun w' => Below wr.heap.size wr w') hfw hbq.drew ?_
                  intro hS0
                  refine wpAnyH_take (i := 0) (v := ?vb10) rfl (by kernel_rfl) (by kernel_rfl) (by kernel_rfl) (fun _ _ _ h => h) (.inl ⟨by rfl, ?yb10⟩) hS0 ?_
                  case yb10 =>
                    intro w' hS
                    (clear hS)
                    go_simp
                    try with_reducible rfl
                  refine wpAnyH_take (i := 1) (v := (.bool false)) rfl (by kernel_rfl) (by kernel_rfl) (by kernel_rfl) (fun _ _ _ h => h) (.inl ⟨by first | kernel_rfl | rfl, ?yb21⟩) hS0 ?_
                  case yb21 =>
                    intro w' hS
                    (clear hS)
                    go_simp
                    first | done | (simp; done) | (simp; omega) | omega | (simp [*]; done)
                  refine wpAnyH_take (i := 2) (v := ?vb32) rfl (by kernel_rfl) (by kernel_rfl) (by kernel_rfl) (fun _ _ _ h => h) (.inl ⟨by first | kernel_rfl | rfl, ?yb32⟩) hS0 ?_
                  case yb32 =>
                    intro w' hS
                    (clear hS)
                    go_simp
                    try with_reducible rfl
                  try simp only [Act.put, List.getElem_toArray, List.getElem_cons_zero, List.getElem_cons_succ, List.setIfInBounds_toArray, List.set_cons_zero, List.set_cons_succ]
                  refine wpAnyH_take (i := 3) (v := ?vb43) rfl (by kernel_rfl) (by kernel_rfl) (by kernel_rfl) (fun _ _ _ h => h) (.inl ⟨by first | kernel_rfl | rfl, ?yb43⟩) hS0 ?_
                  case yb43 =>
                    intro w' hS
                    (clear hS)
                    go_simp
                    try with_reducible rfl
                  refine wpAnyH_take (i := 4) (v := ?vb44) rfl (by kernel_rfl) (by kernel_rfl) (by kernel_rfl) (fun _ _ _ h => h) (.inl ⟨by first | kernel_rfl | rfl, ?yb44⟩) hS0 ?_
                  case yb44 =>
                    intro w' hS
                    (clear hS)
                    go_simp
                    try with_reducible rfl
                  refine wpAnyH_take (i := 9) (v := ?vb49) rfl (by kernel_rfl) (by kernel_rfl) (by kernel_rfl) (fun _ _ _ h => h) (.inl ⟨by first | kernel_rfl | rfl, ?yb49⟩) hS0 ?_
                  case yb49 =>
                    intro w' hS
                    (clear hS)
                    go_simp
                    try with_reducible rfl
                  refine wpAnyH_take (i := 10) (v := ?vb410) rfl (by kernel_rfl) (by kernel_rfl) (by kernel_rfl) (fun _ _ _ h => h) (.inl ⟨by first | kernel_rfl | rfl, ?yb410⟩) hS0 ?_
                  case yb410 =>
                    intro w' hS
                    (clear hS)
                    go_simp
                    try with_reducible rfl
                  refine wpAnyH_take (i := 14) (v := ?vb414) rfl (by kernel_rfl) (by kernel_rfl) (by kernel_rfl) (fun _ _ _ h => h) (.inl ⟨by first | kernel_rfl | rfl, ?yb414⟩) hS0 ?_
                  case yb414 =>
                    intro w' hS
                    (clear hS)
                    go_simp
                    try with_reducible rfl
                  refine wpAnyH_take (i := 15) (v := ?vb415) rfl (by kernel_rfl) (by kernel_rfl) (by kernel_rfl) (fun _ _ _ h => h) (.inl ⟨by first | kernel_rfl | rfl, ?yb415⟩) hS0 ?_
                  case yb415 =>
                    intro w' hS
                    (clear hS)
                    go_simp
                    try with_reducible rfl
                  refine wpAnyH_take (i := 20) (v := ?vb420) rfl (by kernel_rfl) (by kernel_rfl) (by kernel_rfl) (fun _ _ _ h => h) (.inl ⟨by first | kernel_rfl | rfl, ?yb420⟩) hS0 ?_
                  case yb420 =>
                    intro w' hS
                    (clear hS)
                    go_simp
                    try with_reducible rfl
                  refine wpAnyH_take (i := 21) (v := ?vb421) rfl (by kernel_rfl) (by kernel_rfl) (by kernel_rfl) (fun _ _ _ h => h) (.inl ⟨by first | kernel_rfl | rfl, ?yb421⟩) hS0 ?_
                  case yb421 =>
                    intro w' hS
                    (clear hS)
                    go_simp
                    try with_reducible rfl
                  try simp only [Act.put, List.getElem_toArray, List.getElem_cons_zero, List.getElem_cons_succ, List.setIfInBounds_toArray, List.set_cons_zero, List.set_cons_succ]
                  refine wpAnyH_take (i := 5) (v := ?vb55) rfl (by kernel_rfl) (by kernel_rfl) (by kernel_rfl) (fun _ _ _ h => h) (.inl ⟨by first | kernel_rfl | rfl, ?yb55⟩) hS0 ?_
                  case yb55 =>
                    intro w' hS
                    (clear hS)
                    go_simp
                    try with_reducible rfl
                  refine wpAnyH_take (i := 11) (v := ?vb511) rfl (by kernel_rfl) (by kernel_rfl) (by kernel_rfl) (fun _ _ _ h => h) (.inl ⟨by first | kernel_rfl | rfl, ?yb511⟩) hS0 ?_
                  case yb511 =>
                    intro w' hS
                    (clear hS)
                    go_simp
                    try with_reducible rfl
                  refine wpAnyH_take (i := 16) (v := ?vb516) rfl (by kernel_rfl) (by kernel_rfl) (by kernel_rfl) (fun _ _ _ h => h) (.inl ⟨by first | kernel_rfl | rfl, ?yb516⟩) hS0 ?_
                  case yb516 =>
                    intro w' hS
                    (clear hS)
                    go_simp
                    try with_reducible rfl
                  refine wpAnyH_take (i := 22) (v := ?vb522) rfl (by kernel_rfl) (by kernel_rfl) (by kernel_rfl) (fun _ _ _ h => h) (.inl ⟨by first | kernel_rfl | rfl, ?yb522⟩) hS0 ?_
                  case yb522 =>
                    intro w' hS
                    (clear hS)
                    go_simp
                    try with_reducible rfl
                  try simp only [Act.put, List.getElem_toArray, List.getElem_cons_zero, List.getElem_cons_succ, List.setIfInBounds_toArray, List.set_cons_zero, List.set_cons_succ]
                  refine wpAnyH_take (i := 6) (v := ?vb66) rfl (by kernel_rfl) (by kernel_rfl) (by kernel_rfl) (fun _ _ _ h => h) (.inl ⟨by first | kernel_rfl | rfl, ?yb66⟩) hS0 ?_
                  case yb66 =>
                    intro w' hS
                    (have k1 := (hS.cell (p := ⟨b, off + j, none⟩) hb).trans c1; have k2 := (hS.cell (p := ⟨b, off + i, none⟩) hb).trans c2; have k3 := (hS.cell (p := ⟨gh, j, none⟩) hwb).trans c3; have k4 := (hS.cell (p := ⟨gh, i, none⟩) hwb).trans c4; clear hS)
                    go_simp
                    try with_reducible rfl
                  refine wpAnyH_take (i := 12) (v := ?vb612) rfl (by kernel_rfl) (by kernel_rfl) (by kernel_rfl) (fun _ _ _ h => h) (.inl ⟨by first | kernel_rfl | rfl, ?yb612⟩) hS0 ?_
                  case yb612 =>
                    intro w' hS
                    (have k1 := (hS.cell (p := ⟨b, off + j, none⟩) hb).trans c1; have k2 := (hS.cell (p := ⟨b, off + i, none⟩) hb).trans c2; have k3 := (hS.cell (p := ⟨gh, j, none⟩) hwb).trans c3; have k4 := (hS.cell (p := ⟨gh, i, none⟩) hwb).trans c4; clear hS)
                    go_simp
                    try with_reducible rfl
                  refine wpAnyH_take (i := 17) (v := ?vb617) rfl (by kernel_rfl) (by kernel_rfl) (by kernel_rfl) (fun _ _ _ h => h) (.inl ⟨by first | kernel_rfl | rfl, ?yb617⟩) hS0 ?_
                  case yb617 =>
                    intro w' hS
                    (have k1 := (hS.cell (p := ⟨b, off + j, none⟩) hb).trans c1; have k2 := (hS.cell (p := ⟨b, off + i, none⟩) hb).trans c2; have k3 := (hS.cell (p := ⟨gh, j, none⟩) hwb).trans c3; have k4 := (hS.cell (p := ⟨gh, i, none⟩) hwb).trans c4; clear hS)
                    go_simp
                    try with_reducible rfl
                  refine wpAnyH_take (i := 23) (v := ?vb623) rfl (by kernel_rfl) (by kernel_rfl) (by kernel_rfl) (fun _ _ _ h => h) (.inl ⟨by first | kernel_rfl | rfl, ?yb623⟩) hS0 ?_
                  case yb623 =>
                    intro w' hS
                    (have k1 := (hS.cell (p := ⟨b, off + j, none⟩) hb).trans c1; have k2 := (hS.cell (p := ⟨b, off + i, none⟩) hb).trans c2; have k3 := (hS.cell (p := ⟨gh, j, none⟩) hwb).trans c3; have k4 := (hS.cell (p := ⟨gh, i, none⟩) hwb).trans c4; clear hS)
                    go_simp
                    try with_reducible rfl
                  try simp only [Act.put, List.getElem_toArray, List.getElem_cons_zero, List.getElem_cons_succ, List.setIfInBounds_toArray, List.set_cons_zero, List.set_cons_succ]
                  refine wpAnyH_take (i := 7) (v := (.int .i64 (u1 : Int))) rfl (by kernel_rfl) (by kernel_rfl) (by kernel_rfl) (fun _ _ _ h => h) (.inl ⟨by first | kernel_rfl | rfl, ?yb77⟩) hS0 ?_
                  case yb77 =>
                    intro w' hS
                    (clear hS)
                    go_simp
                    (rw [IntKind.wrap_i64]; omega)
                    first | done | (simp; done) | (simp; omega) | omega | (simp [*]; done)
                  refine wpAnyH_take (i := 8) (v := (.int .i64 (u2 : Int))) rfl (by kernel_rfl) (by kernel_rfl) (by kernel_rfl) (fun _ _ _ h => h) (.inl ⟨by first | kernel_rfl | rfl, ?yb88⟩) hS0 ?_
                  case yb88 =>
                    intro w' hS
                    (clear hS)
                    go_simp
                    (rw [IntKind.wrap_i64]; omega)
                    first | done | (simp; done) | (simp; omega) | omega | (simp [*]; done)
                  refine wpAnyH_take (i := 13) (v := (.int .i64 (p1 : Int))) rfl (by kernel_rfl) (by kernel_rfl) (by kernel_rfl) (fun _ _ _ h => h) (.inl ⟨by first | kernel_rfl | rfl, ?yb913⟩) hS0 ?_
                  case yb913 =>
                    intro w' hS
                    (clear hS)
                    go_simp
                    (rw [IntKind.wrap_i64]; omega)
                    first | done | (simp; done) | (simp; omega) | omega | (simp [*]; done)
                  refine wpAnyH_take (i := 18) (v := (.int .i64 (x1 : Int))) rfl (by kernel_rfl) (by kernel_rfl) (by kernel_rfl) (fun _ _ _ h => h) (.inl ⟨by first | kernel_rfl | rfl, ?yb1018⟩) hS0 ?_
                  case yb1018 =>
                    intro w' hS
                    (clear hS)
                    go_simp
                    (rw [IntKind.wrap_i64]; omega)
                    first | done | (simp; done) | (simp; omega) | omega | (simp [*]; done)
                  refine wpAnyH_take (i := 19) (v := (.int .i64 (x2 : Int))) rfl (by kernel_rfl) (by kernel_rfl) (by kernel_rfl) (fun _ _ _ h => h) (.inl ⟨by first | kernel_rfl | rfl, ?yb1119⟩) hS0 ?_
                  case yb1119 =>
                    intro w' hS
                    (clear hS)
                    go_simp
                    (rw [IntKind.wrap_i64]; omega)
                    first | done | (simp; done) | (simp; omega) | omega | (simp [*]; done)
                  refine wpAnyH_take (i := 24) (v := (.int .i64 (p2 : Int))) rfl (by kernel_rfl) (by kernel_rfl) (by kernel_rfl) (fun _ _ _ h => h) (.inl ⟨by first | kernel_rfl | rfl, ?yb1224⟩) hS0 ?_
                  case yb1224 =>
                    intro w' hS
                    (clear hS)
                    go_simp
                    (rw [IntKind.wrap_i64]; omega)
                    first | done | (simp; done) | (simp; omega) | omega | (simp [*]; done)
                  refine wpAnyH_take (i := 25) (v := (.bool false)) rfl (by kernel_rfl) (by kernel_rfl) (by kernel_rfl) (fun _ _ _ h => h) (.inl ⟨by first | kernel_rfl | rfl, ?yb1325⟩) hS0 ?_
                  case yb1325 =>
                    intro w' hS
                    (clear hS)
                    go_simp
                    first | done | (simp; done) | (simp; omega) | omega | (simp [*]; done)
                  refine wpAnyH_take (i := 26) (v := ?vb1426) rfl (by kernel_rfl) (by kernel_rfl) (by kernel_rfl) (fun _ _ _ h => h) (.inl ⟨by first | kernel_rfl | rfl, ?yb1426⟩) hS0 ?_
                  case yb1426 =>
                    intro w' hS
                    (clear hS)
                    go_simp
                    try with_reducible rfl
                  try simp only [Act.put, List.getElem_toArray, List.getElem_cons_zero, List.getElem_cons_succ, List.setIfInBounds_toArray, List.set_cons_zero, List.set_cons_succ]
                  refine wpAnyH_done (by kernel_rfl) ?_ _
                  have hoT3 := hoT2.below hS0
                  have hoh3 := hoh2.below hS0
                  have hB3 := hB2.trans (hS0.mono hB2.size)
                  clear hS0 c1 c2 c3 c4 m1 m2 m3 m4 m5 m6
                  go_wp2
                  go_roundw
                  case rel => exact ⟨j + 1, by omega, by simp, by rw [E.out]; rfl, hoT3, hoh3, hB3⟩
                  case measure => simp [intOf]; omega
          · obtain rfl : j = K := by omega
            rw [Hpk.out]
            simp only [opI]
            have hmi : (m : Int) < (j : Int) := by omega
            have c4 := hoh2.cellAt (j := m) (by rw [Hhl.out]; exact hml)
            have f4 := hoh2.frozen m
            obtain ⟨r1, r2⟩ := hoh2.stored m (nth h m + 1)
            have hwb := (hoh2.blk gh rfl).2
            obtain ⟨Ws, hWs⟩ : ∃ Ws, wr.setCell ⟨gh, m, none⟩ (.int .i64 (nth h m + 1)) = Ws := ⟨_, rfl⟩
            rw [hWs] at r1 r2
            have hoT3 := hoT2.kept r2 (.inr hnb)
            have hB3 : Below w.heap.size w Ws := hB2.grown r2 hB2.size (fun q e => by cases e; omega)
            have hsz := hB3.size
            clear hoT2 hoh2 hB2 r2
            go_wp2_with (at_builtin; refine wpList_append_own_at _ rfl _ _ 24 rfl w.heap.size 2 i0 (.int .i64 0) 1 8 Try.underlying24 hi hz0 hz1 hz2 rfl (by decide) _ _ _ rfl (World.ownsRow.alloc hoT3 _) ⟨Ws.heap.size, 0, none⟩ 1 1 [.int .i64 ((m : Int))] rfl rfl (Go.cell_one_new _ _ _) (by simp [Value.oneCell']) (by unfold maxLen; omega) (by omega) (by simp; omega) ?_)
            intro v' w1 hown' hgrow _ hat
            have ho2 := ownI_snoc hown'
            have hB2 : Below w.heap.size w w1 := (hB3.alloc hsz _).grown hgrow (by simp; omega) (fun j e => by have := (hoT3.blk j e).1; omega)
            have hgr : Ws.grownBy w1 _ := (World.grownBy_alloc _ _ _).trans hgrow
            have hat2 : v'.ownBlock = u.ownBlock ∨ ∀ j, v'.ownBlock = some j → Ws.heap.size ≤ j := by rcases hat with h | h; (first | exact .inl h); exact .inr fun j e => by rw [h] at e; simp at e; omega
            clear hown' hgrow hat
            have hoh4 := r1.kept hgr (.inr fun e => hnb e.symm)
            have hnb2 : v'.ownBlock ≠ some gh := fun e => by
              rcases hat2 with h1 | h1
              · exact hnb (h1 ▸ e)
              · have := h1 gh e; have := (r1.blk gh rfl).2; omega
            clear hgr hat2 r1 hoT3 hB3 c4 f4 hWs
            go_wp2
            go_roundw
            case rel => exact ⟨k + 1, _, _, _, ⟨by omega, by simp, rfl, Hnx.out⟩, ho2, hoh4, hnb2, hB2⟩
            case measure => simp [intOf]; omega
      · obtain rfl : k = N := by omega
        have Hf := Lib.hid (runS_L (by rw [HK.out]; exact hrun))
        clear hrun hHad
        go_wp2
        go_ret2
        exact ⟨_, ret_v2 Hc.out.symm, by rw [Hr.out, Hf.out]; exact hoT, hB⟩

end Go.Proofs.Ytgndbifcncklgaa
