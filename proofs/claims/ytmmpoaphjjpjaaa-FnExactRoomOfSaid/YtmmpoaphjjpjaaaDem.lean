/-
  DemandUpTo of the program.
  Conditions: lists of at most 1048576 elements.
-/
import Derived.Test.YtmmpoaphjjpjaaaWhS
namespace Go.Proofs.Ytmmpoaphjjpjaaa
open Go.RowKit Go.Shelf
attribute [local go_sem] Oper.semAt_some

set_option maxHeartbeats 4000000 in
theorem timesDueBy_c (l p d n : Int) (w : World) (hp : 1 ≤ p ∧ p ≤ 60) (hd : 1 ≤ d ∧ d ≤ p) (hn : 0 ≤ n ∧ n ≤ 1000) :
    Calls Try.prog 121 #[.agg #[.int .i64 l, .int .i64 p, .int .i64 d], .int .i64 n] w fun e w' => e = .returned (.int .i64 (timesBy n p d)) ∧ Below w.heap.size w w' := by
  have hB0 : Below w.heap.size w (w.alloc (.cells #[.int .i64 l, .int .i64 p, .int .i64 d] 88)) := (Below.refl _ _).alloc (Nat.le_refl _) _
  by_cases h : n < d
  · have Hf := Lib.hid (show timesBy n p d = 0 by unfold timesBy; rw [if_pos h])
    go_enter Try.func121, Try.ntmps121
    go_wp2
    go_ret
    exact ⟨ret_int Hf.out.symm, hB0⟩
  · have h1 : 0 ≤ (n - d) / p := Int.ediv_nonneg (by omega) (by omega)
    have h2 : (n - d) / p ≤ n - d := Int.ediv_le_self _ (by omega)
    have hq : (n - d).tdiv p = (n - d) / p := Int.tdiv_eq_ediv_of_nonneg (by omega)
    have Hf := Lib.hid (show timesBy n p d = (n - d) / p + 1 by unfold timesBy; rw [if_neg h])
    have hz : ¬ p = 0 := by omega
    obtain ⟨q, hqq⟩ : ∃ q, (n - d) / p = q := ⟨_, rfl⟩
    rw [hqq] at h1 h2 hq Hf
    clear hqq
    go_enter Try.func121, Try.ntmps121
    go_wp2
    go_ret
    exact ⟨ret_int Hf.out.symm, hB0⟩

set_option maxRecDepth 100000 in
set_option maxHeartbeats 8000000 in
theorem demandUpTo_c (cl cp cd : Value) (ls ps ds : List Int) (n : Int) (w : World) (hI : Jobs3 w.heap.size w cl cp cd ls ps ds) (ht : jobsOk ls ps ds = true) (hn : 0 ≤ n ∧ n ≤ 1000) :
    Calls Try.prog 90 #[.agg #[cl, cp, cd], .int .i64 n] w fun e w' => e = .returned (.int .i64 (demN ls ps ds n)) ∧ Below w.heap.size w w' := by
  obtain ⟨al, capl, rfl⟩ := hI.l.shape
  obtain ⟨ap, capp, rfl⟩ := hI.p.shape
  obtain ⟨ad, capd, rfl⟩ := hI.d.shape
  have hP := jobsP ht
  have HP := Lib.hid hP
  have h8 := hP.len8
  have Ht := Lib.hid ht
  clear ht hP
  refine (callsIn_wide (n := 9)).1 ?_
  refine callsIn_of_wp_marks Try.func90 rfl trivial ?_ rfl
  simp only [Try.ntmps90, List.size_toArray, List.length_cons, List.length_nil, Nat.reduceAdd, Nat.reduceSub, Array.replicate_succ, Array.replicate_zero, List.push_toArray, List.append_toArray, List.nil_append, List.cons_append]
  gi_wp2_with (first | (gi_at_call 78; refine (callsIn_wide.2 (jobsByTask_c _ _ _ _)).mono ?_; rintro e w' ⟨rfl, rfl⟩) | (refine ⟨trivial, ?_⟩; gi_at_call 78; refine (callsIn_wide.2 (jobsByTask_c _ _ _ _)).mono ?_; rintro e w' ⟨rfl, rfl⟩))
  obtain ⟨W0, hW0⟩ : ∃ W0, ((((w.alloc (.cells #[.slice al ls.length capl, .slice ap ps.length capp, .slice ad ds.length capd] 41)).alloc (.cells #[.int .i64 n] 2)).alloc (.cells #[.int .i64 0] 2)).alloc (.cells #[.slice al ls.length capl, .slice ap ps.length capp, .slice ad ds.length capd] 41)) = W0 := ⟨_, rfl⟩
  have hB0 : Below w.heap.size w W0 := by rw [← hW0]; exact (((((Below.refl _ w).alloc (Nat.le_refl _) _).alloc (by simp; try omega) _).alloc (by simp; try omega) _).alloc (by simp; try omega) _)
  have hs0 : w.heap.size + 4 ≤ W0.heap.size := by rw [← hW0]; simp
  have bj : Box3 W0 (w.heap.size) 41 (.slice al ls.length capl) (.slice ap ps.length capp) (.slice ad ds.length capd) := by rw [← hW0]; repeat first | (refine box3_at ?_; (simp; done)) | refine Box3.alloc ?_ _
  have bn : Boxed W0 (w.heap.size + 1) 2 (.int .i64 n) := by rw [← hW0]; repeat first | (refine boxed_at ?_; (simp; done)) | refine Boxed.alloc ?_ _
  have bs : Boxed W0 (w.heap.size + 1 + 1) 2 (.int .i64 0) := by rw [← hW0]; repeat first | (refine boxed_at ?_; (simp; done)) | refine Boxed.alloc ?_ _
  have bJ : Box3 W0 (w.heap.size + 1 + 1 + 1) 41 (.slice al ls.length capl) (.slice ap ps.length capp) (.slice ad ds.length capd) := by rw [← hW0]; repeat first | (refine box3_at ?_; (simp; done)) | refine Box3.alloc ?_ _
  rw [hW0]
  clear hW0
  refine range_outB 88 (fun k => .int .i64 (nth ls k)) (fun k => .int .i64 (nth ps k)) (fun k => .int .i64 (nth ds k)) (Keep := fun b => b < w.heap.size ∨ b = w.heap.size + 1 + 1 + 1) (c := 4) rfl (by omega) rfl trivial (enters_of Try.func113 (by kernel_rfl) rfl) (jobsByTask_at 8 _ w.heap.size _ _ _ ls ps ds (by omega) HP.out.lp HP.out.ld W0 bJ (by omega) (hI.below hB0)) (fun b hb => by omega) (fun _ => rfl)
    (fun k W => Boxed W (w.heap.size + 1 + 1) 2 (.int .i64 (demTo ls ps ds n k)) ∧ Boxed W (w.heap.size + 1) 2 (.int .i64 n) ∧ Below w.heap.size w W)
    (fun _ _ _ => False)
    (by repeat' (first | exact ownFrom_pure _ _ | exact Own.from (boxed_own _ _ _) _ | exact Own.from (ownI_Own _ _ _) _ | exact Own.from (ownB_Own _ _ _) _ | exact ownFrom_below (Nat.le_refl _) (by omega) | exact ownFrom_kps (by omega) | apply OwnFrom.and)) (fun _ _ _ _ _ hs _ _ => hs)
    ⟨bs, bn, hB0⟩ ?a1 ?assign ?body ?done ?stop
  case assign =>
    intro l k b W K hk hb hK
    simp only [jobAt]
    gi_wp2_with fail
    exact hK
  case body =>
    rintro l' k b W hl' hr ⟨bA1, bN1, hB⟩ hb bx hk hs
    have hdb := demTo_bd HP.out (n := n) hn.1 hn.2 (Nat.le_of_lt hk)
    have hl := HP.out.l k hk
    have hp := HP.out.p k hk
    have hd := HP.out.d k hk
    have hst : demTo ls ps ds n (k + 1) = demTo ls ps ds n k + nth ls k * timesBy n (nth ps k) (nth ds k) := rfl
    obtain ⟨l, e1⟩ : ∃ l, nth ls k = l := ⟨_, rfl⟩
    obtain ⟨p, e2⟩ : ∃ p, nth ps k = p := ⟨_, rfl⟩
    obtain ⟨d, e3⟩ : ∃ d, nth ds k = d := ⟨_, rfl⟩
    rw [e1] at hl
    rw [e2] at hp hd
    rw [e3] at hd
    rw [e1, e2, e3] at bx hst ⊢
    have htb := timesBy_bd (n := n) (p := p) (d := d) hp.1 hd.1 hn.1
    obtain ⟨t, htt⟩ : ∃ t, timesBy n p d = t := ⟨_, rfl⟩
    obtain ⟨s, hss⟩ : ∃ s, demTo ls ps ds n k = s := ⟨_, rfl⟩
    rw [htt] at htb hst
    rw [hss] at hdb hst bA1
    have m1 : 0 ≤ l * t := Int.mul_nonneg (by omega) htb.1
    have m2 : l * t ≤ 20 * 1000 := Int.mul_le_mul hl.2 (by omega) htb.1 (by omega)
    obtain ⟨u, huu⟩ : ∃ u, l * t = u := ⟨_, rfl⟩
    rw [huu] at m1 m2 hst
    have HS := Lib.hid hst
    have hl8 := Nat.mul_le_mul_left 20000 (show k ≤ 8 by omega)
    have hw1 : IntKind.i64.wrap u = u := by rw [IntKind.wrap_i64]; omega
    have hw2 : IntKind.i64.wrap (s + u) = s + u := by rw [IntKind.wrap_i64]; omega
    have hfw : Try.prog.follows Departure.mixedOrders = true := by kernel_rfl
    have HBX := Lib.hid bA1
    have BN := Lib.hid bN1
    have BX := Lib.hid bx
    have HB := Lib.hid hB
    have hpB := hB.size
    have hbW := bx.lt
    have c0 : W.drew.cell? ⟨w.heap.size + 1 + 1, 0, none⟩ = some (.int .i64 s) := bA1.cell
    clear hst bA1 bN1 bx hB e1 e2 e3 hss hr
    gi_wp2_with fail
    refine wpIn_region_heldI (fun w' => Kps (Band (fun b => b < w.heap.size ∨ b = w.heap.size + 1 + 1 + 1) W0.heap.size (W0.heap.size + 2 + 4)) W w' ∧ Below w.heap.size w w' ∧ Box3 w' b 88 (.int .i64 l) (.int .i64 p) (.int .i64 d) ∧ Boxed w' (w.heap.size + 1) 2 (.int .i64 n)) hfw ⟨⟨Nat.le_refl _, fun _ _ _ => rfl⟩, HB.out.drew, BX.out, BN.out⟩ ?_
    intro hS0
    refine anyIH_take (i := 1) (v := ?v1) (by kernel_rfl) rfl (by kernel_rfl) (by kernel_rfl) (by kernel_rfl) (fun _ _ _ h => h) (.inl ⟨by rfl, ?y1⟩) hS0 ?_
    case y1 =>
      intro w' hS
      (have q0 := hS.2.2.1.c0; have q1 := hS.2.2.1.c1; have q2 := hS.2.2.1.c2; have q3 := hS.2.2.2.cell; clear hS)
      go_simp
      try with_reducible rfl
    refine anyIH_take (i := 2) (v := ?v2) (by kernel_rfl) rfl (by kernel_rfl) (by kernel_rfl) (by kernel_rfl) (fun _ _ _ h => h) (.inl ⟨by rfl, ?y2⟩) hS0 ?_
    case y2 =>
      intro w' hS
      (have q0 := hS.2.2.1.c0; have q1 := hS.2.2.1.c1; have q2 := hS.2.2.1.c2; have q3 := hS.2.2.2.cell; clear hS)
      go_simp
      try with_reducible rfl
    refine anyIH_take (i := 3) (v := ?v3) (by kernel_rfl) rfl (by kernel_rfl) (by kernel_rfl) (by kernel_rfl) (fun _ _ _ h => h) (.inl ⟨by rfl, ?y3⟩) hS0 ?_
    case y3 =>
      intro w' hS
      (have q0 := hS.2.2.1.c0; have q1 := hS.2.2.1.c1; have q2 := hS.2.2.1.c2; have q3 := hS.2.2.2.cell; clear hS)
      go_simp
      try with_reducible rfl
    refine anyIH_take (i := 4) (v := ?v4) (by kernel_rfl) rfl (by kernel_rfl) (by kernel_rfl) (by kernel_rfl) (fun _ _ _ h => h) (.inl ⟨by rfl, ?y4⟩) hS0 ?_
    case y4 =>
      intro w' hS
      (have q0 := hS.2.2.1.c0; have q1 := hS.2.2.1.c1; have q2 := hS.2.2.1.c2; have q3 := hS.2.2.2.cell; clear hS)
      go_simp
      try with_reducible rfl
    refine anyIH_two (i := 0) (j := 5) (by kernel_rfl) rfl rfl (fun K' hK' => ?_) (fun K' hK' => ?_)
    all_goals rw [if_pos (by rfl)]
    · go_simp
      refine hK'.out _ _ hS0 fun hS1 => ?_
      refine anyIH_one (i := 5) (by kernel_rfl) rfl (fun K' hK' => ?_)
      rw [if_pos (by rfl)]
      go_simp
      refine ⟨trivial, ?_⟩
      refine (callsIn_wide.2 (timesDueBy_c l p d n W.drew hp hd hn)).mono ?_
      rintro e w3 ⟨rfl, hb3⟩
      have hb4 : Below W.heap.size W w3 := (Below.refl _ _).drew.trans hb3
      have hS3 : Kps (Band (fun b => b < w.heap.size ∨ b = w.heap.size + 1 + 1 + 1) W0.heap.size (W0.heap.size + 2 + 4)) W w3 ∧ Below w.heap.size w w3 ∧ Box3 w3 b 88 (.int .i64 l) (.int .i64 p) (.int .i64 d) ∧ Boxed w3 (w.heap.size + 1) 2 (.int .i64 n) := ⟨Kps.below hb4, HB.out.trans (hb4.mono hpB), BX.out.later hb4, boxed_later BN.out hb4⟩
      have bA3 := boxed_later HBX.out hb4
      have c3 := bA3.cell
      have f3 := bA3.frozen
      rw [htt]
      clear hb3 hb4
      refine hK'.out _ _ hS3 fun hS4 => ?_
      refine anyIH_take (i := 6) (v := ?vw16) (by kernel_rfl) rfl (by kernel_rfl) (by kernel_rfl) (by kernel_rfl) (fun _ _ _ h => h) (.inl ⟨by rfl, ?yw16⟩) hS3 ?_
      case yw16 =>
        intro w' hS
        (clear hS)
        go_simp
        try with_reducible rfl
      refine anyIH_take (i := 7) (v := ?vw17) (by kernel_rfl) rfl (by kernel_rfl) (by kernel_rfl) (by kernel_rfl) (fun _ _ _ h => h) (.inl ⟨by rfl, ?yw17⟩) hS3 ?_
      case yw17 =>
        intro w' hS
        (clear hS)
        go_simp
        try with_reducible rfl
      refine anyIH_one (i := 8) (by kernel_rfl) rfl (fun K' hK' => ?_)
      rw [if_pos (by rfl)]
      go_simp
      refine hK'.out _ _ ⟨hS3.1.trans (Kps.setCell _ _ _ _ (jobs_band (by omega) (by omega) (by omega))), hS3.2.1.setCell (p := ⟨w.heap.size + 1 + 1, 0, none⟩) (by show w.heap.size ≤ w.heap.size + 1 + 1; omega) _, hS3.2.2.1.other (by omega) _, hS3.2.2.2.other (by omega) _⟩ fun hS5 => ?_
      refine anyIH_done (by kernel_rfl) ?_ _
      exact ⟨hS3.1.trans (Kps.setCell _ _ _ _ (jobs_band (by omega) (by omega) (by omega))), by rw [HS.out]; exact bA3.set _, hS5.2.2.2, hS5.2.1⟩
    · skip
      go_simp
      refine ⟨trivial, ?_⟩
      refine (callsIn_wide.2 (timesDueBy_c l p d n W.drew hp hd hn)).mono ?_
      rintro e w3 ⟨rfl, hb3⟩
      have hb4 : Below W.heap.size W w3 := (Below.refl _ _).drew.trans hb3
      have hS3 : Kps (Band (fun b => b < w.heap.size ∨ b = w.heap.size + 1 + 1 + 1) W0.heap.size (W0.heap.size + 2 + 4)) W w3 ∧ Below w.heap.size w w3 ∧ Box3 w3 b 88 (.int .i64 l) (.int .i64 p) (.int .i64 d) ∧ Boxed w3 (w.heap.size + 1) 2 (.int .i64 n) := ⟨Kps.below hb4, HB.out.trans (hb4.mono hpB), BX.out.later hb4, boxed_later BN.out hb4⟩
      have bA3 := boxed_later HBX.out hb4
      have c3 := bA3.cell
      have f3 := bA3.frozen
      rw [htt]
      clear hb3 hb4
      refine hK'.out _ _ hS3 fun hS4 => ?_
      refine anyIH_take (i := 6) (v := ?vx6) (by kernel_rfl) rfl (by kernel_rfl) (by kernel_rfl) (by kernel_rfl) (fun _ _ _ h => h) (.inl ⟨by rfl, ?yx6⟩) hS3 ?_
      case yx6 =>
        intro w' hS
        (clear hS)
        go_simp
        try with_reducible rfl
      refine anyIH_one (i := 0) (by kernel_rfl) rfl (fun K' hK' => ?_)
      rw [if_pos (by rfl)]
      go_simp
      refine hK'.out _ _ hS3 fun hS6 => ?_
      refine anyIH_take (i := 7) (v := ?vw27) (by kernel_rfl) rfl (by kernel_rfl) (by kernel_rfl) (by kernel_rfl) (fun _ _ _ h => h) (.inl ⟨by rfl, ?yw27⟩) hS3 ?_
      case yw27 =>
        intro w' hS
        (clear hS)
        go_simp
        try with_reducible rfl
      refine anyIH_one (i := 8) (by kernel_rfl) rfl (fun K' hK' => ?_)
      rw [if_pos (by rfl)]
      go_simp
      refine hK'.out _ _ ⟨hS3.1.trans (Kps.setCell _ _ _ _ (jobs_band (by omega) (by omega) (by omega))), hS3.2.1.setCell (p := ⟨w.heap.size + 1 + 1, 0, none⟩) (by show w.heap.size ≤ w.heap.size + 1 + 1; omega) _, hS3.2.2.1.other (by omega) _, hS3.2.2.2.other (by omega) _⟩ fun hS5 => ?_
      refine anyIH_done (by kernel_rfl) ?_ _
      exact ⟨hS3.1.trans (Kps.setCell _ _ _ _ (jobs_band (by omega) (by omega) (by omega))), by rw [HS.out]; exact bA3.set _, hS5.2.2.2, hS5.2.1⟩
  case done =>
    rintro D W hD ⟨bA1, bN1, hB⟩ hK
    have cA := bA1.cell
    rw [show demTo ls ps ds n ls.length = demN ls ps ds n from rfl] at cA
    gi_wp2
    refine retM1 hK ⟨_, results_tmp rfl _ _ _, ?_⟩
    exact ⟨rfl, below_shut hB (by omega)⟩
  case stop =>
    rintro D c k W hD hk h
    exact h.elim

theorem demC_no {ls ps ds : List Int} {n : Int} (h : jobsOk ls ps ds = false) : demC ls ps ds n = 1 ∧ demV ls ps ds n = 0 := by
  have : demC ls ps ds n = 1 := by unfold demC; rw [h]; rfl
  exact ⟨this, by unfold demV; rw [this]; rfl⟩
theorem demC_range {ls ps ds : List Int} {n : Int} (h : jobsOk ls ps ds = true) (hn : n < 0 ∨ 1000 < n) : demC ls ps ds n = 2 ∧ demV ls ps ds n = 0 := by
  have : demC ls ps ds n = 2 := by unfold demC; rw [h, inB_false.2 hn]; rfl
  exact ⟨this, by unfold demV; rw [this]; rfl⟩
theorem demC_ok {ls ps ds : List Int} {n : Int} (h : jobsOk ls ps ds = true) (hn : 0 ≤ n ∧ n ≤ 1000) : demC ls ps ds n = 0 ∧ demV ls ps ds n = demN ls ps ds n := by
  have : demC ls ps ds n = 0 := by unfold demC; rw [h, inB_true.2 hn]; rfl
  exact ⟨this, by unfold demV; rw [this]; rfl⟩

set_option maxRecDepth 100000 in
set_option maxHeartbeats 8000000 in
theorem i_DemandUpTo (cl cp cd : Value) (ls ps ds : List Int) (n : Int) (w : World) (hI : Jobs3 w.heap.size w cl cp cd ls ps ds) (hN : J64 ls ps ds) (hm : JLen ls ps ds) (_hn : I64 n) :
    Calls Try.prog 44 #[.agg #[cl, cp, cd], .int .i64 n] w fun e w' => e = .returned (.tuple #[.int .i64 (demV ls ps ds n), .int .i64 (demC ls ps ds n)]) ∧ Below w.heap.size w w' := by
  obtain ⟨al, capl, rfl⟩ := hI.l.shape
  obtain ⟨ap, capp, rfl⟩ := hI.p.shape
  obtain ⟨ad, capd, rfl⟩ := hI.d.shape
  have hB0 := below_jobs w (.slice al ls.length capl) (.slice ap ps.length capp) (.slice ad ds.length capd)
  cases ht : jobsOk ls ps ds
  · have H := Lib.hid (demC_no (n := n) ht)
    have Ht := Lib.hid ht
    clear ht
    go_enter Try.func44, Try.ntmps44
    go_wp2_with fail
    refine (i_AreJobs _ _ _ ls ps ds _ (hI.later hB0) hN hm).mono ?_
    rintro e w1 ⟨he, hb⟩
    rw [Ht.out] at he
    subst he
    go_wp2
    go_ret2
    exact ⟨ret_i2 H.out.2.symm H.out.1.symm, hB0.trans (hb.mono (by simp))⟩
  · have Ht := Lib.hid ht
    clear ht
    have hcase : n < 0 ∨ (0 ≤ n ∧ 1000 < n) ∨ (0 ≤ n ∧ n ≤ 1000) := by omega
    rcases hcase with h1 | ⟨h0, h1⟩ | ⟨h0, h1⟩
    · have H := Lib.hid (demC_range Ht.out (.inl h1))
      go_enter Try.func44, Try.ntmps44
      go_wp2_with fail
      refine (i_AreJobs _ _ _ ls ps ds _ (hI.later hB0) hN hm).mono ?_
      rintro e w1 ⟨he, hb⟩
      rw [Ht.out] at he
      subst he
      go_wp2
      go_ret2
      exact ⟨ret_i2 H.out.2.symm H.out.1.symm, hB0.trans (hb.mono (by simp))⟩
    · have H := Lib.hid (demC_range Ht.out (.inr h1))
      go_enter Try.func44, Try.ntmps44
      go_wp2_with fail
      refine (i_AreJobs _ _ _ ls ps ds _ (hI.later hB0) hN hm).mono ?_
      rintro e w1 ⟨he, hb⟩
      rw [Ht.out] at he
      subst he
      go_wp2
      go_ret2
      exact ⟨ret_i2 H.out.2.symm H.out.1.symm, hB0.trans (hb.mono (by simp))⟩
    · have H := Lib.hid (demC_ok Ht.out ⟨h0, h1⟩)
      go_enter Try.func44, Try.ntmps44
      go_wp2_with fail
      refine (i_AreJobs _ _ _ ls ps ds _ (hI.later hB0) hN hm).mono ?_
      rintro e w1 ⟨he, hb⟩
      rw [Ht.out] at he
      subst he
      have hB1 : Below w.heap.size w w1 := hB0.trans (hb.mono (by simp))
      have b1 : Box3 w1 w.heap.size 41 (.slice al ls.length capl) (.slice ap ps.length capp) (.slice ad ds.length capd) := (Box3.new _ _ _ _ _).later hb
      clear hb hB0
      have c0 := b1.c0
      have c1 := b1.c1
      have c2 := b1.c2
      go_wp2_with fail
      refine (demandUpTo_c _ _ _ ls ps ds n _ (hI.later hB1) Ht.out ⟨h0, h1⟩).mono ?_
      rintro e w2 ⟨rfl, hb⟩
      have hB2 := hB1.trans (hb.mono hB1.size)
      go_wp2
      go_ret2
      exact ⟨ret_i2 H.out.2.symm H.out.1.symm, hB2⟩

end Go.Proofs.Ytmmpoaphjjpjaaa
