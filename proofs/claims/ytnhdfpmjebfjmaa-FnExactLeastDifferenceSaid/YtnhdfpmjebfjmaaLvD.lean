/-
  Deadline turns of the model: l07Deadline, DeadlineTurns, LeastDifference.
  Conditions: lists of at most 1048576 elements.
-/
import Derived.Test.YtnhdfpmjebfjmaaLvS
namespace Go.Proofs.Ytnhdfpmjebfjmaa
open Go.RowKit Go.Shelf
attribute [local go_sem] Oper.semAt_some

theorem ret_vb {v : Value} {a a' : Bool} (h : a = a') : Ending.returned (.tuple #[v, .bool a]) = .returned (.tuple #[v, .bool a']) := by rw [h]
/-- the two numbers of the model's search for the least last slot -/
def StD (ok : Nat → Bool) (own : Nat → Int) (j : Nat) (q l : Int) : Prop := (pickTo ok own j = none ∧ q = -1) ∨ ∃ m : Nat, pickTo ok own j = some m ∧ q = m ∧ l = own m
theorem StD.zero (ok : Nat → Bool) (own : Nat → Int) : StD ok own 0 (-1) 0 := .inl ⟨rfl, rfl⟩
theorem StD.no {ok : Nat → Bool} {own : Nat → Int} {j : Nat} {q l : Int} (h : StD ok own j q l) (hk : ok j = false) : StD ok own (j + 1) q l := by
  rcases h with ⟨h1, h2⟩ | ⟨m, h1, h2, h3⟩
  · exact .inl ⟨by simp [pickTo, h1, hk], h2⟩
  · exact .inr ⟨m, by simp [pickTo, h1, hk], h2, h3⟩
theorem StD.first {ok : Nat → Bool} {own : Nat → Int} {j : Nat} {q l o : Int} (h : StD ok own j q l) (hk : ok j = true) (hq : q < 0) (ho : own j = o) : StD ok own (j + 1) j o := by
  rcases h with ⟨h1, h2⟩ | ⟨m, h1, h2, h3⟩
  · exact .inr ⟨j, by simp [pickTo, h1, hk], rfl, ho.symm⟩
  · omega
theorem StD.less {ok : Nat → Bool} {own : Nat → Int} {j : Nat} {q l o : Int} (h : StD ok own j q l) (hk : ok j = true) (hq : 0 ≤ q) (ho : own j = o) (hl : o < l) : StD ok own (j + 1) j o := by
  rcases h with ⟨h1, h2⟩ | ⟨m, h1, h2, h3⟩
  · omega
  · refine .inr ⟨j, ?_, rfl, ho.symm⟩
    simp only [pickTo, h1]
    rw [if_pos ⟨hk, by omega⟩]
theorem StD.more {ok : Nat → Bool} {own : Nat → Int} {j : Nat} {q l o : Int} (h : StD ok own j q l) (hq : 0 ≤ q) (ho : own j = o) (hl : ¬ o < l) : StD ok own (j + 1) q l := by
  rcases h with ⟨h1, h2⟩ | ⟨m, h1, h2, h3⟩
  · omega
  · refine .inr ⟨m, ?_, h2, h3⟩
    simp only [pickTo, h1]
    rw [if_neg (fun h => by omega)]
theorem ownM_val {ds : List Int} {N b : Int} {h : List Int} {i : Nat} {p q : Int} (hp : N * nth h i = p) (hq : (b + p) / nth ds i = q) : ownM ds N b h i = min (q + 1) N := by unfold ownM; rw [hp, hq]
theorem okM_val {ds : List Int} {N b : Int} {h : List Int} {n i : Nat} {p1 p3 : Int} (h1 : N * (nth h i + 1) = p1) (h3 : ((n : Int) + 1) * nth ds i = p3) : okM ds N b h n i = (decide (nth h i < nth ds i) && decide (p1 - p3 ≤ b)) := by unfold okM aheadD; rw [h1, h3]

def dlT (ds : List Int) (N : Nat) (b : Int) : List Int := runL (pickD ds N b) ds.length N
def dlB (ds : List Int) (N : Nat) (b : Int) : Bool := runB (pickD ds N b) ds.length N
theorem dl_model {ds : List Int} {N : Nat} (hD : Dso ds N) (b : Int) : dlT ds N b = runL (pickM ds N b) ds.length N ∧ dlB ds N b = runB (pickM ds N b) ds.length N := by
  have := run_both (ds := ds) (N := N) b hD.zero hD.sum
  unfold dlT dlB runL runB
  rw [this]
  exact ⟨rfl, rfl⟩
theorem dl_none {ds : List Int} {N n : Nat} {b : Int} (hD : Dso ds N) (h : runTo (pickM ds N b) ds.length n = none) (hn : n ≤ N) : dlT ds N b = [] ∧ dlB ds N b = false := by
  obtain ⟨h1, h2⟩ := dl_model hD b
  have h3 := runTo_none h hn
  rw [h1, h2, runL_none h3]
  exact ⟨rfl, by unfold runB; rw [h3]; rfl⟩
theorem dl_some {ds : List Int} {N : Nat} {b : Int} {s : List Int × List Int} (hD : Dso ds N) (h : runTo (pickM ds N b) ds.length N = some s) : dlT ds N b = s.1 ∧ dlB ds N b = true := by
  obtain ⟨h1, h2⟩ := dl_model hD b
  rw [h1, h2, runL_some h]
  exact ⟨rfl, by unfold runB; rw [h]; rfl⟩
theorem dlT_len {ds : List Int} {N : Nat} (hD : Dso ds N) (b : Int) : (dlT ds N b).length ≤ 60 := by
  have := runL_len (N := N) hD.zero (fairD ds N b)
  have := hD.n
  unfold dlT; omega

set_option maxRecDepth 100000 in
set_option maxHeartbeats 16000000 in
theorem l07Deadline_c (c0 : Value) (ds : List Int) (N : Nat) (b : Int) (w : World) (hI : Ints w.heap.size w c0 ds) (hD : Dso ds N) (hb0 : 0 ≤ b) (hb1 : b ≤ 3600) :
    Calls Try.prog 71 #[c0, .int .i64 N, .int .i64 b] w (GivesI w (dlT ds N b) fun v => .tuple #[v, .bool (dlB ds N b)]) := by
  obtain ⟨a, cap, rfl⟩ := hI.shape
  obtain ⟨i0, hi, hz0, hz1, hz2⟩ := info_parts Try.infoI2
  have HD := Lib.hid hD
  have hlen := hD.len
  have hn := hD.n
  have hfw : Try.prog.follows Departure.mixedOrders = true := by kernel_rfl
  obtain ⟨K, hK⟩ : ∃ K, ds.length = K := ⟨_, rfl⟩
  clear hD
  rw [hK] at hlen hI ⊢
  have HK := Lib.hid hK
  clear hK
  go_enter Try.func71, Try.ntmps71
  go_wp2_with fail
  refine' wp_thru2 (α := Nat) (β := Nat) _ (fun ga gh w' => Below w.heap.size w w' ∧ w.heap.size ≤ ga ∧ w.heap.size ≤ gh ∧ ga ≠ gh ∧ OwnI w.heap.size w' (.slice (some ⟨ga, 0, none⟩) 0 0) [] ∧ OwnI w.heap.size w' (.slice (some ⟨gh, 0, none⟩) K K) (List.replicate K 0)) _ _
  rotate_left
  · refine wp_region_held_drew (S := fun w' => Below w.heap.size w w') hfw (Below.refl _ _).drew ?_
    intro hS0
    refine wpAnyH_take (i := 1) (v := ?v1) rfl (by kernel_rfl) (by kernel_rfl) (by kernel_rfl) (fun _ _ _ h => h) (.inl ⟨by rfl, ?y1⟩) hS0 ?_
    case y1 =>
      intro w' hS
      (clear hS)
      go_simp
      try with_reducible rfl
    refine wpAnyH_take (i := 2) (v := ?v2) rfl (by kernel_rfl) (by kernel_rfl) (by kernel_rfl) (fun _ _ _ h => h) (.inl ⟨by rfl, ?y2⟩) hS0 ?_
    case y2 =>
      intro w' hS
      (clear hS)
      go_simp
      try with_reducible rfl
    obtain ⟨wd, hwd⟩ : ∃ wd, w.drew = wd := ⟨_, rfl⟩
    rw [hwd] at hS0 ⊢
    clear hwd
    refine wpAnyH_ready (rs := [0, 3]) (by kernel_rfl) (by simp) ?_
    refine AllReadyH.cons rfl (fun K' hK' => ?_) (AllReadyH.cons rfl (fun K' hK' => ?_) AllReadyH.nil)
    · rw [if_pos (by rfl)]
      go_simp
      obtain ⟨w_0, hw⟩ : ∃ wB, wd.alloc (.cells #[] 2) = wB := ⟨_, rfl⟩
      have hbw : Below wd.heap.size wd w_0 := by rw [← hw]; exact (Below.refl _ _).alloc (Nat.le_refl _) _
      have hoG0 : OwnI wd.heap.size w_0 (.slice (some ⟨wd.heap.size, 0, none⟩) 0 0) [] := by rw [← hw]; exact ownI_empty wd
      have hoA := hoG0.base hS0.size
      obtain ⟨ga, hgo⟩ : ∃ ga, wd.heap.size = ga := ⟨_, rfl⟩
      have hgo2 : ga < w_0.heap.size := by rw [← hw, ← hgo, World.size_alloc]; omega
      rw [hw]
      rw [hgo] at hoA ⊢
      refine hK'.out _ _ (hS0.trans (hbw.mono hS0.size)) fun hS_0 => ?_
      have hgo1 : w.heap.size ≤ ga := by rw [← hgo]; exact hS0.size
      have hs_w_0 := hbw.size
      clear hoG0 hw hbw hK'
      refine wpAnyH_take (i := 4) (v := ?vw_04) rfl (by kernel_rfl) (by kernel_rfl) (by kernel_rfl) (fun _ _ _ h => h) (.inl ⟨by rfl, ?yw_04⟩) hS_0 ?_
      case yw_04 =>
        intro w' hS
        (clear hS)
        go_simp
        try with_reducible rfl
      refine wpAnyH_ready (rs := [3]) (by kernel_rfl) (by simp) ?_
      refine AllReadyH.cons rfl (fun K' hK' => ?_) AllReadyH.nil
      · rw [if_pos (by rfl)]
        obtain ⟨w_0_3, hrun, hoC0, hgr⟩ := run_make_full (P := Try.prog) w_0 w.heap.size 22 2 i0 (.int .i64 0) 1 Try.underlying22 hi hz0 hz1 .i64 .i64 K (by rw [hz2]; omega) (by unfold maxLen; omega) hS_0.size
        have hbw : Below w_0.heap.size w_0 w_0_3 := (Below.refl _ _).grown hgr (Nat.le_refl _) (fun j e => by cases e)
        obtain ⟨gh, hgc⟩ : ∃ gh, w_0.heap.size = gh := ⟨_, rfl⟩
        rw [hgc] at hrun hoC0
        go_simp
        refine hK'.out _ _ (hS_0.trans (hbw.mono hS_0.size)) fun hS_0_3 => ?_
        have hgc1 : w.heap.size ≤ gh := by rw [← hgc]; exact hS_0.size
        have hoH := ownI_made (by rw [Nat.mul_one] at hoC0; exact hoC0)
        have hgc2 := (hoH.blk gh rfl).2
        replace hoA := hoA.below hbw
        have hs_w_0_3 := hbw.size
        clear hrun hoC0 hgr hbw hK'
        refine wpAnyH_take (i := 5) (v := ?vw_0_35) rfl (by kernel_rfl) (by kernel_rfl) (by kernel_rfl) (fun _ _ _ h => h) (.inl ⟨by rfl, ?yw_0_35⟩) hS_0_3 ?_
        case yw_0_35 =>
          intro w' hS
          (clear hS)
          go_simp
          try with_reducible rfl
        refine wpAnyH_done (by kernel_rfl) ?_ _
        refine ⟨ga, gh, ?_, hS_0_3, hgo1, hgc1, by omega, hoA, hoH⟩
        first | (go_simp; done) | (go_simp; exact rfl)
    · rw [if_pos (by rfl)]
      obtain ⟨w_3, hrun, hoC0, hgr⟩ := run_make_full (P := Try.prog) wd w.heap.size 22 2 i0 (.int .i64 0) 1 Try.underlying22 hi hz0 hz1 .i64 .i64 K (by rw [hz2]; omega) (by unfold maxLen; omega) hS0.size
      have hbw : Below wd.heap.size wd w_3 := (Below.refl _ _).grown hgr (Nat.le_refl _) (fun j e => by cases e)
      obtain ⟨gh, hgc⟩ : ∃ gh, wd.heap.size = gh := ⟨_, rfl⟩
      rw [hgc] at hrun hoC0
      go_simp
      refine hK'.out _ _ (hS0.trans (hbw.mono hS0.size)) fun hS_3 => ?_
      have hgc1 : w.heap.size ≤ gh := by rw [← hgc]; exact hS0.size
      have hoH := ownI_made (by rw [Nat.mul_one] at hoC0; exact hoC0)
      have hgc2 := (hoH.blk gh rfl).2
      have hs_w_3 := hbw.size
      clear hrun hoC0 hgr hbw hK'
      refine wpAnyH_ready (rs := [0]) (by kernel_rfl) (by simp) ?_
      refine AllReadyH.cons rfl (fun K' hK' => ?_) AllReadyH.nil
      · rw [if_pos (by rfl)]
        go_simp
        obtain ⟨w_3_0, hw⟩ : ∃ wB, w_3.alloc (.cells #[] 2) = wB := ⟨_, rfl⟩
        have hbw : Below w_3.heap.size w_3 w_3_0 := by rw [← hw]; exact (Below.refl _ _).alloc (Nat.le_refl _) _
        have hoG0 : OwnI w_3.heap.size w_3_0 (.slice (some ⟨w_3.heap.size, 0, none⟩) 0 0) [] := by rw [← hw]; exact ownI_empty w_3
        have hoA := hoG0.base hS_3.size
        obtain ⟨ga, hgo⟩ : ∃ ga, w_3.heap.size = ga := ⟨_, rfl⟩
        have hgo2 : ga < w_3_0.heap.size := by rw [← hw, ← hgo, World.size_alloc]; omega
        rw [hw]
        rw [hgo] at hoA ⊢
        refine hK'.out _ _ (hS_3.trans (hbw.mono hS_3.size)) fun hS_3_0 => ?_
        have hgo1 : w.heap.size ≤ ga := by rw [← hgo]; exact hS_3.size
        replace hoH := hoH.below hbw
        have hs_w_3_0 := hbw.size
        clear hoG0 hw hbw hK'
        refine wpAnyH_take (i := 4) (v := ?vw_3_04) rfl (by kernel_rfl) (by kernel_rfl) (by kernel_rfl) (fun _ _ _ h => h) (.inl ⟨by rfl, ?yw_3_04⟩) hS_3_0 ?_
        case yw_3_04 =>
          intro w' hS
          (clear hS)
          go_simp
          try with_reducible rfl
        refine wpAnyH_take (i := 5) (v := ?vw_3_05) rfl (by kernel_rfl) (by kernel_rfl) (by kernel_rfl) (fun _ _ _ h => h) (.inl ⟨by rfl, ?yw_3_05⟩) hS_3_0 ?_
        case yw_3_05 =>
          intro w' hS
          (clear hS)
          go_simp
          try with_reducible rfl
        refine wpAnyH_done (by kernel_rfl) ?_ _
        refine ⟨ga, gh, ?_, hS_3_0, hgo1, hgc1, by omega, hoA, hoH⟩
        first | (go_simp; done) | (go_simp; exact rfl)
  rintro ga gh wq ⟨hBq, hga, hgh, hne, hoA, hoH⟩
  go_wp2
  go_loopw [8, 10] (fun v n wr => ∃ (k : Nat) (ts h : List Int) (u : Value), (k ≤ N ∧ n = .int .i64 ((k : Int) + 1) ∧ u = v ∧ runTo (pickM ds N b) K k = some (ts, h)) ∧ OwnI w.heap.size wr u ts ∧ OwnI w.heap.size wr (.slice (some ⟨gh, 0, none⟩) K K) h ∧ u.ownBlock ≠ some gh ∧ Below w.heap.size w wr) (fun _ n _ => N + 1 - (intOf n).toNat)
  case atStart => exact ⟨0, [], List.replicate K 0, _, ⟨Nat.zero_le _, rfl, rfl, rfl⟩, hoA, hoH, by simp [Value.ownBlock]; exact hne, hBq⟩
  case round =>
    obtain ⟨k, ts, h, u, ⟨hk, rfl, rfl, hrun⟩, hoT, hoh, hnb, hB⟩ := hrel
    clear hoA hoH hBq
    have hD := HD.out
    have hHad : Had ds k ts h := by have hr2 := hrun; rw [← HK.out] at hr2; exact run_had hD.zero (fairM ds N b) hr2
    have HH := Lib.hid hHad
    have Hrun := Lib.hid hrun
    have hsw := hB.size
    have hhl : h.length = K := by rw [hHad.hl]; exact HK.out
    have Hhl := Lib.hid hhl
    clear hrun hD hHad hhl
    by_cases hlt : k < N
    · have hkN : (k : Int) + 1 ≤ (N : Int) := by omega
      go_wp2
      go_loopw [11, 12, 27] (fun bq lq i W => ∃ (j : Nat) (q l : Int), (j ≤ K ∧ i = .int .i64 j ∧ bq = .int .i64 q ∧ lq = .int .i64 l) ∧ (StD (okM ds N b h k) (ownM ds N b h) j q l ∧ -1 ≤ q ∧ q < K ∧ 0 ≤ l ∧ l ≤ 60) ∧ (OwnI w.heap.size W u ts ∧ OwnI w.heap.size W (.slice (some ⟨gh, 0, none⟩) K K) h ∧ Below w.heap.size w W)) (fun _ _ i _ => K - (intOf i).toNat)
      case atStart => exact ⟨0, -1, 0, ⟨Nat.zero_le _, rfl, rfl, rfl⟩, ⟨StD.zero _ _, by omega, by omega, by omega, by omega⟩, hoT, hoh, hB⟩
      case round =>
        obtain ⟨j, q, l, ⟨hj, rfl, rfl, rfl⟩, ⟨hst, hq0, hq1, hl0, hl1⟩, hoT2, hoh2, hB2⟩ := hrel
        clear hoT hoh hB
        have Hst := Lib.hid hst
        clear hst
        by_cases hjl : j < K
        · have hbj := HH.out.bd j (by rw [HK.out]; exact hjl)
          have hej := HD.out.el j (by rw [HK.out]; exact hjl)
          obtain ⟨b2, off, rfl, hb, hc⟩ := (show Ints wr.heap.size wr (.slice a ds.length cap) ds by rw [HK.out]; exact hI.later hB2).at_ (k := j) (by rw [HK.out]; exact hjl)
          have c1 := hc j (by rw [HK.out]; exact hjl)
          have c3 := hoh2.cellAt (j := j) (by rw [Hhl.out]; exact hjl)
          have b1 := mul_bd60 (a := N) (A := 60) (b := nth h j + 1) (B := 61) (by omega) (by omega) (by omega) (by omega)
          have b3 := mul_bd60 (a := (k : Int) + 1) (A := 60) (b := nth ds j) (B := 60) (by omega) (by omega) (by omega) (by omega)
          have b5 := mul_bd60 (a := N) (A := 60) (b := nth h j) (B := 60) (by omega) (by omega) (by omega) (by omega)
          obtain ⟨p1, q1⟩ : ∃ p, (N : Int) * (nth h j + 1) = p := ⟨_, rfl⟩
          obtain ⟨p3, q3⟩ : ∃ p, ((k : Int) + 1) * nth ds j = p := ⟨_, rfl⟩
          obtain ⟨p5, q5⟩ : ∃ p, (N : Int) * nth h j = p := ⟨_, rfl⟩
          rw [q1] at b1
          rw [q3] at b3
          rw [q5] at b5
          have hjv := okM_val (b := b) q1 q3
          have hji : (j : Int) < (K : Int) := by omega
          have q6 : (N : Int) * (nth h j + 1 - 1) = p5 := by rw [Int.add_sub_cancel]; exact q5
          have d1 : 0 ≤ (b + p5) / nth ds j := Int.ediv_nonneg (by omega) (by omega)
          have d2 : (b + p5) / nth ds j ≤ b + p5 := Int.ediv_le_self _ (by omega)
          have dq : (b + p5).tdiv (nth ds j) = (b + p5) / nth ds j := Int.tdiv_eq_ediv_of_nonneg (by omega)
          have hz : ¬ nth ds j = 0 := by omega
          obtain ⟨e, he⟩ : ∃ e, (b + p5) / nth ds j = e := ⟨_, rfl⟩
          rw [he] at d1 d2 dq
          have hov := ownM_val q5 he
          clear hc he
          by_cases ho1 : nth ds j < nth h j + 1
          · have hok : okM ds N b h k j = false := by rw [hjv, decide_eq_false (by omega)]; rfl
            have Hs2 := Lib.hid (Hst.out.no hok)
            clear hjv hov hok
            go_wp2
            go_roundw
            case rel => exact ⟨j + 1, q, l, ⟨by omega, by simp, rfl, rfl⟩, ⟨Hs2.out, hq0, hq1, hl0, hl1⟩, hoT2, hoh2, hB2⟩
            case measure => simp [intOf]; omega
          · by_cases ho2 : b < p1 - p3
            · have hok : okM ds N b h k j = false := by rw [hjv, decide_eq_false (show ¬ p1 - p3 ≤ b by omega)]; simp
              have Hs2 := Lib.hid (Hst.out.no hok)
              clear hjv hov hok
              go_wp2
              go_roundw
              case rel => exact ⟨j + 1, q, l, ⟨by omega, by simp, rfl, rfl⟩, ⟨Hs2.out, hq0, hq1, hl0, hl1⟩, hoT2, hoh2, hB2⟩
              case measure => simp [intOf]; omega
            · have hok : okM ds N b h k j = true := by rw [hjv, decide_eq_true (by omega), decide_eq_true (show p1 - p3 ≤ b by omega)]; rfl
              by_cases hmn : (N : Int) < e + 1
              · have hov2 : ownM ds N b h j = N := by rw [hov]; omega
                by_cases hq : q < 0
                · have Hs2 := Lib.hid (Hst.out.first hok hq hov2)
                  clear hjv hov hok hov2
                  go_wp2
                  go_roundw
                  case rel => exact ⟨j + 1, j, N, ⟨by omega, by simp, rfl, rfl⟩, ⟨Hs2.out, by omega, by omega, by omega, by omega⟩, hoT2, hoh2, hB2⟩
                  case measure => simp [intOf]; omega
                · by_cases hl : (N : Int) < l
                  · have Hs2 := Lib.hid (Hst.out.less hok (by omega) hov2 hl)
                    clear hjv hov hok hov2
                    go_wp2
                    go_roundw
                    case rel => exact ⟨j + 1, j, N, ⟨by omega, by simp, rfl, rfl⟩, ⟨Hs2.out, by omega, by omega, by omega, by omega⟩, hoT2, hoh2, hB2⟩
                    case measure => simp [intOf]; omega
                  · have Hs2 := Lib.hid (Hst.out.more (by omega) hov2 hl)
                    clear hjv hov hok hov2
                    go_wp2
                    go_roundw
                    case rel => exact ⟨j + 1, q, l, ⟨by omega, by simp, rfl, rfl⟩, ⟨Hs2.out, hq0, hq1, hl0, hl1⟩, hoT2, hoh2, hB2⟩
                    case measure => simp [intOf]; omega
              · have hov2 : ownM ds N b h j = e + 1 := by rw [hov]; omega
                by_cases hq : q < 0
                · have Hs2 := Lib.hid (Hst.out.first hok hq hov2)
                  clear hjv hov hok hov2
                  go_wp2
                  go_roundw
                  case rel => exact ⟨j + 1, j, e + 1, ⟨by omega, by simp, rfl, rfl⟩, ⟨Hs2.out, by omega, by omega, by omega, by omega⟩, hoT2, hoh2, hB2⟩
                  case measure => simp [intOf]; omega
                · by_cases hl : e + 1 < l
                  · have Hs2 := Lib.hid (Hst.out.less hok (by omega) hov2 hl)
                    clear hjv hov hok hov2
                    go_wp2
                    go_roundw
                    case rel => exact ⟨j + 1, j, e + 1, ⟨by omega, by simp, rfl, rfl⟩, ⟨Hs2.out, by omega, by omega, by omega, by omega⟩, hoT2, hoh2, hB2⟩
                    case measure => simp [intOf]; omega
                  · have Hs2 := Lib.hid (Hst.out.more (by omega) hov2 hl)
                    clear hjv hov hok hov2
                    go_wp2
                    go_roundw
                    case rel => exact ⟨j + 1, q, l, ⟨by omega, by simp, rfl, rfl⟩, ⟨Hs2.out, hq0, hq1, hl0, hl1⟩, hoT2, hoh2, hB2⟩
                    case measure => simp [intOf]; omega
        · obtain rfl : j = K := by omega
          by_cases hq : q < 0
          · have hnone : pickM ds N b h k = none := by
              have hs := Hst.out
              rcases hs with ⟨h1, _⟩ | ⟨m, _, h2, _⟩
              · unfold pickM; rw [HK.out, h1]
              · omega
            have hst2 := runTo_stop Hrun.out hnone
            rw [← HK.out] at hst2
            obtain ⟨r1, r2⟩ := dl_none HD.out hst2 (by omega)
            have R1 := Lib.hid r1
            have R2 := Lib.hid r2
            clear hnone hst2 r1 r2
            go_wp2
            go_ret2
            refine ⟨_, ret_vb R2.out.symm, by rw [R1.out]; exact ownI_nil _ _, hB2⟩
          · obtain ⟨m, hm1, rfl, rfl⟩ : ∃ m : Nat, pickTo (okM ds N b h k) (ownM ds N b h) j = some m ∧ q = m ∧ l = ownM ds N b h m := by
              rcases Hst.out with ⟨_, h2⟩ | h2
              · omega
              · exact h2
            have Hm1 := Lib.hid hm1
            obtain ⟨o, hoo⟩ : ∃ o, ownM ds N b h m = o := ⟨_, rfl⟩
            have Hoo := Lib.hid hoo
            rw [hoo] at hl0 hl1 ⊢
            clear hm1 hoo
            by_cases hlo : o < (k : Int) + 1
            · have hnone : pickM ds N b h k = none := by unfold pickM; rw [HK.out, Hm1.out]; simp only; rw [Hoo.out, if_pos hlo]
              have hst2 := runTo_stop Hrun.out hnone
              rw [← HK.out] at hst2
              obtain ⟨r1, r2⟩ := dl_none HD.out hst2 (by omega)
              have R1 := Lib.hid r1
              have R2 := Lib.hid r2
              clear hnone hst2 r1 r2
              go_wp2
              go_ret2
              refine ⟨_, ret_vb R2.out.symm, by rw [R1.out]; exact ownI_nil _ _, hB2⟩
            · have hsome : pickM ds N b h k = some m := by unfold pickM; rw [HK.out, Hm1.out]; simp only; rw [Hoo.out, if_neg hlo]
              have hnx := runTo_next Hrun.out hsome
              have Hnx2 := Lib.hid hnx
              have hml : m < j := by omega
              have hbm := HH.out.bd m (by rw [HK.out]; exact hml)
              have hem := HD.out.el m (by rw [HK.out]; exact hml)
              have hmi : (m : Int) < (j : Int) := by omega
              have c4 := hoh2.cellAt (j := m) (by rw [Hhl.out]; exact hml)
              have f4 := hoh2.frozen m
              obtain ⟨r1, r2⟩ := hoh2.stored m (nth h m + 1)
              have hwb := (hoh2.blk gh rfl).2
              obtain ⟨Ws, hWs⟩ : ∃ Ws, wr.setCell ⟨gh, m, none⟩ (.int .i64 (nth h m + 1)) = Ws := ⟨_, rfl⟩
              rw [hWs] at r1 r2
              have hoT3 := hoT2.kept r2 (.inr hnb)
              have hB3 : Below w.heap.size w Ws := hB2.grown r2 hB2.size (fun q e => by cases e; omega)
              have hsz := hB3.size
              have htl : ts.length ≤ 60 := by have := HH.out.len; omega
              clear hoT2 hoh2 hB2 hsome hnx r2
              go_wp2_with (at_builtin; refine wpList_append_own_at _ rfl _ _ 22 rfl w.heap.size 2 i0 (.int .i64 0) 1 8 Try.underlying22 hi hz0 hz1 hz2 rfl (by decide) _ _ _ rfl (World.ownsRow.alloc hoT3 _) ⟨Ws.heap.size, 0, none⟩ 1 1 [.int .i64 ((m : Int))] rfl rfl (Go.cell_one_new _ _ _) (by simp [Value.oneCell']) (by unfold maxLen; omega) (by omega) (by simp; omega) ?_)
              intro v' w1 hown' hgrow _ hat
              have ho2 := ownI_snoc hown'
              have hB2 : Below w.heap.size w w1 := (hB3.alloc hsz _).grown hgrow (by simp; omega) (fun j e => by have := (hoT3.blk j e).1; omega)
              have hgr : Ws.grownBy w1 _ := (World.grownBy_alloc _ _ _).trans hgrow
              have hat2 : v'.ownBlock = u.ownBlock ∨ ∀ j, v'.ownBlock = some j → Ws.heap.size ≤ j := by rcases hat with h | h; (first | exact .inl h); exact .inr fun j e => by rw [h] at e; simp at e; omega
              clear hown' hgrow hat
              have hoh4 := r1.kept hgr (.inr fun e => hnb e.symm)
              have hnb2 : v'.ownBlock ≠ some gh := fun e => by
                rcases hat2 with h1 | h1
                · exact hnb (h1 ▸ e)
                · have := h1 gh e; have := (r1.blk gh rfl).2; omega
              clear hgr hat2 r1 hoT3 hB3 c4 f4 hWs
              go_wp2
              go_roundw
              case rel => exact ⟨k + 1, _, _, _, ⟨by omega, by simp, rfl, Hnx2.out⟩, ho2, hoh4, hnb2, hB2⟩
              case measure => simp [intOf]; omega
    · obtain rfl : k = N := by omega
      have hrun := Hrun.out
      rw [← HK.out] at hrun
      obtain ⟨r1, r2⟩ := dl_some HD.out hrun
      have R1 := Lib.hid r1
      have R2 := Lib.hid r2
      clear hrun r1 r2
      go_wp2
      go_ret2
      refine ⟨_, ret_vb R2.out.symm, by rw [R1.out]; exact hoT, hB⟩

/-! ### DeadlineTurns, LeastDifference -/
def ddC (ds : List Int) (b : Int) : Int := if dsOk ds && inB b 0 60 then (if dlB ds (sumR ds).toNat b then 0 else 4) else 2
def ddR (ds : List Int) (b : Int) : List Int := if dsOk ds && inB b 0 60 then dlT ds (sumR ds).toNat b else []
theorem dlT_none {ds : List Int} {N : Nat} {b : Int} (h : dlB ds N b = false) : dlT ds N b = [] := by
  unfold dlB runB at h
  unfold dlT
  cases e : runTo (pickD ds N b) ds.length N with
  | none => exact runL_none e
  | some s => rw [e] at h; cases h
theorem ddR_len (ds : List Int) (b : Int) : (ddR ds b).length * 8 ≤ 140737488351232 := by
  unfold ddR
  split
  · rename_i h
    rw [Bool.and_eq_true] at h
    obtain ⟨N, hD⟩ := dso h.1
    rw [hD.sumR h.1, Int.toNat_natCast]
    have := dlT_len hD b
    omega
  · simp
theorem dd_ok {ds : List Int} {N : Nat} {b : Int} (h : dsOk ds = true) (hb : inB b 0 60 = true) (hD : Dso ds N) : ddR ds b = dlT ds N b ∧ ddC ds b = if dlB ds N b then 0 else 4 := by
  unfold ddR ddC
  rw [h, hb, hD.sumR h, Int.toNat_natCast]
  exact ⟨rfl, rfl⟩
theorem dd_bad {ds : List Int} {b : Int} (h : dsOk ds = false ∨ inB b 0 60 = false) : ddR ds b = [] ∧ ddC ds b = 2 := by
  unfold ddR ddC
  rcases h with h | h <;> rw [h] <;> simp

set_option maxRecDepth 100000 in
set_option maxHeartbeats 8000000 in
theorem s_DeadlineTurns (c0 : Value) (ds : List Int) (b : Int) (w : World) (hI : Ints w.heap.size w c0 ds) (_hN : I64s ds) (hm : ds.length ≤ 1048576) (_hb : I64 b) :
    Calls Try.prog 34 #[c0, .int .i64 b] w (GivesI w (ddR ds b) fun v => .tuple #[v, .int .i64 (ddC ds b)]) := by
  obtain ⟨a, cap, rfl⟩ := hI.shape
  cases hok : dsOk ds
  · obtain ⟨r1, r2⟩ := dd_bad (b := b) (.inl hok)
    have R1 := Lib.hid r1
    have R2 := Lib.hid r2
    have Hs := Lib.hid (sumR_no hok)
    clear hok r1 r2
    go_enter Try.func34, Try.ntmps34
    go_wp2_with fail
    refine (l07Sum_c _ ds _ hI hm).mono ?_
    rintro e w1 ⟨he, rfl⟩
    rw [Hs.out] at he
    subst he
    go_wp2
    go_ret2
    exact ⟨_, ret_v2 R2.out.symm, by rw [R1.out]; exact ownI_nil _ _, Below.refl _ _⟩
  · obtain ⟨N, hD⟩ := dso hok
    have HD := Lib.hid hD
    have Hs := Lib.hid (hD.sumR hok)
    have hN0 : ((N : Int) == 0) = false := by rw [beq_eq_false_iff_ne]; have := hD.n; omega
    cases hib : inB b 0 60
    · obtain ⟨r1, r2⟩ := dd_bad (ds := ds) (.inr hib)
      have R1 := Lib.hid r1
      have R2 := Lib.hid r2
      have Hib := Lib.hid hib
      clear hok r1 r2 hib hD
      go_enter Try.func34, Try.ntmps34
      go_wp2_with fail
      refine (l07Sum_c _ ds _ hI hm).mono ?_
      rintro e w1 ⟨he, rfl⟩
      rw [Hs.out] at he
      subst he
      go_wp2_with fail
      refine (l01In_d false _ _ _ _ Hib.out).mono ?_
      rintro e w' ⟨rfl, rfl⟩
      go_wp2
      go_ret2
      exact ⟨_, ret_v2 R2.out.symm, by rw [R1.out]; exact ownI_nil _ _, Below.refl _ _⟩
    · obtain ⟨r1, r2⟩ := dd_ok hok hib hD
      have hb := inB_true.1 hib
      have Hib := Lib.hid hib
      have R1 := Lib.hid r1
      cases hdb : dlB ds N b
      · have R2 := Lib.hid (show ddC ds b = 4 by rw [r2, hdb]; rfl)
        have Hdb := Lib.hid hdb
        clear hok r1 r2 hib hD hdb
        go_enter Try.func34, Try.ntmps34
        go_wp2_with fail
        refine (l07Sum_c _ ds _ hI hm).mono ?_
        rintro e w1 ⟨he, rfl⟩
        rw [Hs.out] at he
        subst he
        go_wp2_with fail
        refine (l01In_d true _ _ _ _ Hib.out).mono ?_
        rintro e w' ⟨rfl, rfl⟩
        go_wp2_with fail
        refine (l07Deadline_c _ ds N b _ hI HD.out hb.1 (by omega)).mono ?_
        rintro e w2 ⟨v, he, ho, hB⟩
        rw [Hdb.out] at he
        subst he
        go_wp2
        go_ret2
        exact ⟨_, ret_v2 R2.out.symm, by rw [R1.out, dlT_none Hdb.out]; exact ownI_nil _ _, hB⟩
      · have R2 := Lib.hid (show ddC ds b = 0 by rw [r2, hdb]; rfl)
        have Hdb := Lib.hid hdb
        clear hok r1 r2 hib hD hdb
        go_enter Try.func34, Try.ntmps34
        go_wp2_with fail
        refine (l07Sum_c _ ds _ hI hm).mono ?_
        rintro e w1 ⟨he, rfl⟩
        rw [Hs.out] at he
        subst he
        go_wp2_with fail
        refine (l01In_d true _ _ _ _ Hib.out).mono ?_
        rintro e w' ⟨rfl, rfl⟩
        go_wp2_with fail
        refine (l07Deadline_c _ ds N b _ hI HD.out hb.1 (by omega)).mono ?_
        rintro e w2 ⟨v, he, ho, hB⟩
        rw [Hdb.out] at he
        subst he
        go_wp2
        go_ret2
        exact ⟨_, ret_v2 R2.out.symm, by rw [R1.out]; exact ho, hB⟩

/-- the least b for which there are deadline turns -/
def lsB (ds : List Int) (N : Nat) : Nat := ((List.range 3601).find? fun (b : Nat) => dlB ds N (b : Int)).getD 0
theorem lsB_eq {ds : List Int} {N k : Nat} (hk : k ≤ 3600) (h : dlB ds N (k : Int) = true) (hl : ∀ j : Nat, j < k → dlB ds N (j : Int) = false) : lsB ds N = k := by
  unfold lsB
  have : (List.range 3601).find? (fun (b : Nat) => dlB ds N (b : Int)) = some k := by
    rw [List.find?_range_eq_some]
    exact ⟨h, by rw [List.mem_range]; omega, fun j hj => by rw [hl j hj]; rfl⟩
  rw [this]; rfl
theorem dlB_great {ds : List Int} {N : Nat} (hD : Dso ds N) : dlB ds N (3600 : Nat) = true := by
  unfold dlB
  refine run_great hD.one hD.sum ?_
  have := hD.n
  have := mul_bd60 (a := N) (A := 60) (b := N) (B := 60) (by omega) (by omega) (by omega) (by omega)
  omega
def ldC (ds : List Int) : Int := if dsOk ds then 0 else 2
def ldB (ds : List Int) : Int := if dsOk ds then (lsB ds (sumR ds).toNat : Nat) else 0
def ldR (ds : List Int) : List Int := if dsOk ds then dlT ds (sumR ds).toNat (lsB ds (sumR ds).toNat : Nat) else []
theorem ldR_len (ds : List Int) : (ldR ds).length * 8 ≤ 140737488351232 := by
  unfold ldR
  split
  · rename_i h
    obtain ⟨N, hD⟩ := dso h
    rw [hD.sumR h, Int.toNat_natCast]
    have := dlT_len hD (lsB ds N : Nat)
    omega
  · simp
theorem ld_ok {ds : List Int} {N k : Nat} (h : dsOk ds = true) (hD : Dso ds N) (hk : lsB ds N = k) : ldR ds = dlT ds N (k : Nat) ∧ ldB ds = (k : Nat) ∧ ldC ds = 0 := by
  unfold ldR ldB ldC
  rw [h, hD.sumR h, Int.toNat_natCast, hk]
  exact ⟨rfl, rfl, rfl⟩

set_option maxRecDepth 100000 in
set_option maxHeartbeats 8000000 in
theorem s_LeastDifference (c0 : Value) (ds : List Int) (w : World) (hI : Ints w.heap.size w c0 ds) (_hN : I64s ds) (hm : ds.length ≤ 1048576) :
    Calls Try.prog 36 #[c0] w (GivesI w (ldR ds) fun v => .tuple #[v, .int .i64 (ldB ds), .int .i64 (ldC ds)]) := by
  obtain ⟨a, cap, rfl⟩ := hI.shape
  cases hok : dsOk ds
  · have R1 := Lib.hid (show ldR ds = [] by unfold ldR; rw [hok]; rfl)
    have R2 := Lib.hid (show ldB ds = 0 by unfold ldB; rw [hok]; rfl)
    have R3 := Lib.hid (show ldC ds = 2 by unfold ldC; rw [hok]; rfl)
    have Hs := Lib.hid (sumR_no hok)
    clear hok
    go_enter Try.func36, Try.ntmps36
    go_wp2_with fail
    refine (l07Sum_c _ ds _ hI hm).mono ?_
    rintro e w1 ⟨he, rfl⟩
    rw [Hs.out] at he
    subst he
    go_wp2
    go_ret3
    exact ⟨_, ret_v3 R2.out.symm R3.out.symm, by rw [R1.out]; exact ownI_nil _ _, Below.refl _ _⟩
  · obtain ⟨N, hD⟩ := dso hok
    have HD := Lib.hid hD
    have Hs := Lib.hid (hD.sumR hok)
    have Hok := Lib.hid hok
    have hN0 : ((N : Int) == 0) = false := by rw [beq_eq_false_iff_ne]; have := hD.n; omega
    clear hok hD
    go_enter Try.func36, Try.ntmps36
    go_wp2_with fail
    refine (l07Sum_c _ ds _ hI hm).mono ?_
    rintro e w1 ⟨he, rfl⟩
    rw [Hs.out] at he
    subst he
    go_wp2
    go_loopw [6] (fun i wr => ∃ k : Nat, (k ≤ 3600 ∧ i = .int .i64 k ∧ ∀ j : Nat, j < k → dlB ds N (j : Int) = false) ∧ Below w.heap.size w wr) (fun i _ => 3601 - (intOf i).toNat)
    case atStart => exact ⟨0, ⟨by omega, rfl, fun j hj => by omega⟩, Below.refl _ _⟩
    case round =>
      obtain ⟨k, ⟨hk, rfl, hall⟩, hB⟩ := hrel
      have Hall := Lib.hid hall
      clear hall
      have hsw := hB.size
      cases hdb : dlB ds N (k : Int)
      · have hk2 : k < 3600 := by
          by_cases e : k = 3600
          · rw [e, dlB_great HD.out] at hdb; cases hdb
          · omega
        have Hdb := Lib.hid hdb
        clear hdb
        go_wp2_with fail
        refine (l07Deadline_c _ ds N k _ (hI.later hB) HD.out (by omega) (by omega)).mono ?_
        rintro e w2 ⟨v, he, ho, hB2⟩
        rw [Hdb.out] at he
        subst he
        have hB3 := hB.trans (hB2.mono hsw)
        clear ho hB2
        go_wp2
        go_roundw
        case rel => exact ⟨k + 1, ⟨by omega, by simp, fun j hj => by by_cases e : j = k; (subst e; exact Hdb.out); exact Hall.out j (by omega)⟩, hB3⟩
        case measure => simp [intOf]; omega
      · have hls := lsB_eq hk hdb Hall.out
        obtain ⟨r1, r2, r3⟩ := ld_ok Hok.out HD.out hls
        have R1 := Lib.hid r1
        have R2 := Lib.hid r2
        have R3 := Lib.hid r3
        have Hdb := Lib.hid hdb
        clear hdb hls r1 r2 r3
        go_wp2_with fail
        refine (l07Deadline_c _ ds N k _ (hI.later hB) HD.out (by omega) (by omega)).mono ?_
        rintro e w2 ⟨v, he, ho, hB2⟩
        rw [Hdb.out] at he
        subst he
        have hB3 := hB.trans (hB2.mono hsw)
        have ho2 := ho.base hsw
        clear ho hB2
        go_wp2
        go_ret3
        exact ⟨_, ret_v3 R2.out.symm R3.out.symm, by rw [R1.out]; exact ho2, hB3⟩

end Go.Proofs.Ytnhdfpmjebfjmaa
