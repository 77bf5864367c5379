/-
  WholePeriod of the program and of the model; the code of jobs.
  Conditions: lists of at most 1048576 elements.
-/
import Derived.Test.YtbhpflhopajbfaaJobU
import Derived.Test.YtbhpflhopajbfaaRegJ
namespace Go.Proofs.Ytbhpflhopajbfaa
open Go.RowKit Go.Shelf
attribute [local go_sem] Oper.semAt_some

/-- one step, in numbers -/
theorem whole_step {ls ps ds : List Int} (h : JobsP ls ps ds) {k : Nat} (hk : k < ps.length) : ∃ m p : Nat, lcmTo (natsTo ps k) = m ∧ nth ps k = (p : Int) ∧ 0 < m ∧ m ≤ 167961600000000 ∧ (1 ≤ p ∧ p ≤ 60) ∧ lcmTo (natsTo ps (k + 1)) = Nat.lcm m p ∧ Nat.lcm m p ≤ 167961600000000 ∧ 0 < Nat.lcm m p := by
  have hp := h.p k (by have := h.lp; omega)
  have hpp : ∀ j, j < ps.length → 1 ≤ nth ps j ∧ nth ps j ≤ 60 := fun j hj => h.p j (by have := h.lp; omega)
  have b1 := lcmTo_pow hpp (Nat.le_of_lt hk)
  have b2 := lcmTo_pow hpp (show k + 1 ≤ ps.length from hk)
  have h8 := h.len8
  have hlp := h.lp
  have p1 := pow60_le (show k ≤ 8 by omega)
  have p2 := pow60_le (show k + 1 ≤ 8 by omega)
  have hs := lcmTo_step hk
  refine ⟨_, (nth ps k).toNat, rfl, by omega, b1.1, by omega, by omega, hs, by rw [← hs]; omega, by rw [← hs]; omega⟩
theorem whole_pos {ls ps ds : List Int} (h : JobsP ls ps ds) : 0 < wholeN ps ∧ wholeN ps ≤ 167961600000000 := by
  have hpp : ∀ j, j < ps.length → 1 ≤ nth ps j ∧ nth ps j ≤ 60 := fun j hj => h.p j (by have := h.lp; omega)
  have b1 := lcmTo_pow hpp (Nat.le_refl _)
  have p1 := pow60_le (show ps.length ≤ 8 by have := h.lp; have := h.len8; omega)
  unfold wholeN; omega

set_option maxRecDepth 100000 in
set_option maxHeartbeats 8000000 in
theorem i_WholePeriod (cl cp cd : Value) (ls ps ds : List Int) (w : World) (hI : Jobs3 w.heap.size w cl cp cd ls ps ds) (hN : J64 ls ps ds) (hm : JLen ls ps ds) :
    Calls Try.prog 74 #[.agg #[cl, cp, cd]] w fun e w' => e = .returned (.tuple #[.int .i64 (wholeV ls ps ds), .int .i64 (jobCode ls ps ds)]) ∧ Below w.heap.size w w' := by
  obtain ⟨al, capl, rfl⟩ := hI.l.shape
  obtain ⟨ap, capp, rfl⟩ := hI.p.shape
  obtain ⟨ad, capd, rfl⟩ := hI.d.shape
  refine (callsIn_wide (n := 9)).1 ?_
  have hB0 := below_jobs w (.slice al ls.length capl) (.slice ap ps.length capp) (.slice ad ds.length capd)
  cases ht : jobsOk ls ps ds
  · have H1 := Lib.hid (jobCode_no ht)
    have H0 := Lib.hid (wholeV_err (ls := ls) (ps := ps) (ds := ds) (by rw [jobCode_no ht]; omega))
    have Ht := Lib.hid ht
    clear ht
    refine callsIn_of_wp_marks Try.func74 rfl trivial ?_ rfl
    simp only [Try.ntmps74, List.size_toArray, List.length_cons, List.length_nil, Nat.reduceAdd, Nat.reduceSub, Array.replicate_succ, Array.replicate_zero, List.push_toArray, List.append_toArray, List.nil_append, List.cons_append]
    gi_wp2_with fail
    refine ⟨trivial, (callsIn_wide.2 (i_AreJobs _ _ _ ls ps ds _ (hI.later hB0) hN hm)).mono ?_⟩
    rintro e w1 ⟨he, hb⟩
    rw [Ht.out] at he
    subst he
    gi_wp2
    refine retM0 ⟨_, results_tmp2 rfl _ _ _, ?_⟩
    exact ⟨ret_i2d H0.out.symm H1.out.symm, hB0.trans (hb.mono (by simp))⟩
  · have hP := jobsP ht
    have HP := Lib.hid hP
    have Ht := Lib.hid ht
    have h8 := hP.len8
    have hlp := hP.lp
    have Hlp := Lib.hid hlp
    have hpl8 : ps.length ≤ 8 := by omega
    clear ht hP hlp
    refine callsIn_of_wp_marks Try.func74 rfl trivial ?_ rfl
    simp only [Try.ntmps74, List.size_toArray, List.length_cons, List.length_nil, Nat.reduceAdd, Nat.reduceSub, Array.replicate_succ, Array.replicate_zero, List.push_toArray, List.append_toArray, List.nil_append, List.cons_append]
    gi_wp2_with fail
    refine ⟨trivial, (callsIn_wide.2 (i_AreJobs _ _ _ ls ps ds _ (hI.later hB0) hN hm)).mono ?_⟩
    rintro e w1 ⟨he, hb⟩
    rw [Ht.out] at he
    subst he
    have hB1 : Below w.heap.size w w1 := hB0.trans (hb.mono (by simp))
    have b1 : Box3 w1 w.heap.size 37 (.slice al ls.length capl) (.slice ap ps.length capp) (.slice ad ds.length capd) := (Box3.new _ _ _ _ _).later hb
    have k1 := (b1.alloc (.cells #[.int .i64 1] 2)).c1
    have hB1s := hB1.size
    clear hb hB0
    gi_wp2_with (first | (gi_at_call 93; refine (callsIn_wide.2 (numbered_c _ _ _ _)).mono ?_; rintro e w' ⟨rfl, rfl⟩) | (refine ⟨trivial, ?_⟩; gi_at_call 93; refine (callsIn_wide.2 (numbered_c _ _ _ _)).mono ?_; rintro e w' ⟨rfl, rfl⟩))
    clear k1 b1
    obtain ⟨W0, hW0⟩ : ∃ W0, ((w1.alloc (.cells #[.int .i64 1] 2)).alloc (.cells #[.slice ap ps.length capp] 22)) = W0 := ⟨_, rfl⟩
    have hB0 : Below w1.heap.size w1 W0 := by rw [← hW0]; exact (((Below.refl _ w1).alloc (Nat.le_refl _) _).alloc (by simp; try omega) _)
    have hs0 : w1.heap.size + 2 ≤ W0.heap.size := by rw [← hW0]; simp
    have bA : Boxed W0 (w1.heap.size) 2 (.int .i64 1) := by rw [← hW0]; repeat first | (refine boxed_at ?_; (simp; done)) | refine Boxed.alloc ?_ _
    have bN : Boxed W0 (w1.heap.size + 1) 22 (.slice ap ps.length capp) := by rw [← hW0]; repeat first | (refine boxed_at ?_; (simp; done)) | refine Boxed.alloc ?_ _
    rw [hW0]
    clear hW0
    have hB2 := hB1.trans (hB0.mono hB1s)
    have d0 : lcmTo (natsTo ps 0) = 1 := by simp [natsTo, lcmTo]
    refine range_outA rfl (by omega) rfl trivial (enters_of Try.func151 (by kernel_rfl) rfl) (numbered_at Fence.wide 8 trivial rfl (by omega) _ w.heap.size _ ps (by omega) W0 bN (by omega) (hI.p.below hB2)) (fun b hb => by omega) (fun _ => rfl)
      (fun k W => Boxed W w1.heap.size 2 (.int .i64 ((lcmTo (natsTo ps k) : Nat) : Int)) ∧ Below w.heap.size w W)
      (fun _ _ _ => False)
      (by repeat' (first | exact ownFrom_pure _ _ | exact Own.from (boxed_own _ _ _) _ | exact Own.from (ownI_Own _ _ _) _ | exact Own.from (ownB_Own _ _ _) _ | exact ownFrom_below (Nat.le_refl _) (by omega) | exact ownFrom_kps (by omega) | apply OwnFrom.and)) (fun _ _ _ _ _ hs _ _ => hs)
      ⟨by rw [d0]; exact bA, hB2⟩ ?a1 ?assign ?body ?done ?stop
    case assign =>
      intro l k W K hk hK
      simp only [numAt]
      gi_wp2
      exact hK
    case body =>
      rintro l k W hl2 hr ⟨bA1, hB⟩ hlt hsW
      obtain ⟨m, p, e1, e2, h1, h2, h3, h4, h5, h6⟩ := whole_step HP.out hlt
      rw [e1] at bA1
      rw [e2]
      have hg : 0 < Nat.gcd m p := Nat.gcd_pos_of_pos_right _ (by omega)
      have hgl : Nat.gcd m p ≤ p := Nat.le_of_dvd (by omega) (Nat.gcd_dvd_right m p)
      have hq : m * (p / Nat.gcd m p) = Nat.lcm m p := by rw [Nat.lcm, Nat.mul_div_assoc _ (Nat.gcd_dvd_right m p)]
      have q1 : ((p : Nat) : Int).tdiv ((Nat.gcd m p : Nat) : Int) = ((p / Nat.gcd m p : Nat) : Int) := rfl
      have r1 : ((p : Nat) : Int) / ((Nat.gcd m p : Nat) : Int) = ((p / Nat.gcd m p : Nat) : Int) := by simp
      have hd : p / Nat.gcd m p ≤ p := Nat.div_le_self _ _
      have HQ := Lib.hid hq
      have H4 := Lib.hid h4
      have H5 := Lib.hid h5
      obtain ⟨g, hgg⟩ : ∃ g, Nat.gcd m p = g := ⟨_, rfl⟩
      have hgc := hgg
      rw [hgg] at hg hgl q1 r1 hd hq
      obtain ⟨q, hqq⟩ : ∃ q, p / g = q := ⟨_, rfl⟩
      rw [hqq] at q1 r1 hd hq
      have hmul : m * q ≤ 167961600000000 := by rw [hq]; exact H5.out
      have e3 : (m : Int) * (q : Int) = ((m * q : Nat) : Int) := by rw [Int.natCast_mul]
      have HQ2 := Lib.hid hq
      obtain ⟨r, hrr⟩ : ∃ r, m * q = r := ⟨_, rfl⟩
      rw [hrr] at hmul e3 hq
      have HR := Lib.hid hq
      have HG := Lib.hid hgg
      have cA := bA1.cell
      have HB1 := Lib.hid hB1s
      have hpB := hB.size
      clear hq hgg hgc hqq hrr h4 h5 h6 e1 e2 hr
      have hfw : Try.prog.follows Departure.mixedOrders = true := by kernel_rfl
      have hbd : ∀ (W' : World) v, Kps (Band (fun b => b < w.heap.size) W0.heap.size (W0.heap.size + 2 + 0)) W W' → Kps (Band (fun b => b < w.heap.size) W0.heap.size (W0.heap.size + 2 + 0)) W (W'.setCell ⟨w1.heap.size, 0, none⟩ v) := fun W' v h => h.trans (Kps.setCell _ _ _ _ (not_band HB1.out (by omega)))
      have HBD := Lib.hid hbd
      have HBX := Lib.hid bA1
      have HB := Lib.hid hB
      have hcA : W.drew.cell? ⟨w1.heap.size, 0, none⟩ = some (.int .i64 (m : Int)) := cA
      have hgc := greatestDivisor_c m p
      have HGC := Lib.hid hgc
      have hr0 : IntKind.i64.wrap (r : Int) = (r : Int) := by rw [IntKind.wrap_i64]; omega
      have hq0 : IntKind.i64.wrap (q : Int) = (q : Int) := by rw [IntKind.wrap_i64]; omega
      have hg0 : ((g : Nat) : Int) ≠ 0 := by omega
      have hgz : ¬ g = 0 := by omega
      have HR4 := Lib.hid (show lcmTo (natsTo ps (k + 1)) = r by rw [H4.out, HR.out])
      clear hbd bA1 hB cA hgc HQ H4 H5 HQ2 HR
      gi_wp2_with fail
      refine wpIn_region_heldI (fun w' => Kps (Band (fun b => b < w.heap.size) W0.heap.size (W0.heap.size + 2 + 0)) W w' ∧ Below w.heap.size w w') hfw ⟨⟨Nat.le_refl _, fun _ _ _ => rfl⟩, HB.out.drew⟩ ?_
      intro hS0
      refine anyIH_take (i := 1) (v := ?v1) (by kernel_rfl) rfl (by kernel_rfl) (by kernel_rfl) (by kernel_rfl) (fun _ _ _ h => h) (.inl ⟨by rfl, ?y1⟩) hS0 ?_
      case y1 =>
        intro w' hS
        (clear hS)
        go_simp
        try with_reducible rfl
      refine anyIH_take (i := 3) (v := ?v3) (by kernel_rfl) rfl (by kernel_rfl) (by kernel_rfl) (by kernel_rfl) (fun _ _ _ h => h) (.inl ⟨by rfl, ?y3⟩) hS0 ?_
      case y3 =>
        intro w' hS
        (clear hS)
        go_simp
        try with_reducible rfl
      refine anyIH_two (i := 0) (j := 2) (by kernel_rfl) rfl rfl (fun K' hK' => ?_) (fun K' hK' => ?_)
      all_goals rw [if_pos (by rfl)]
      · go_simp
        refine hK'.out _ _ hS0 fun hS1 => ?_
        refine anyIH_one (i := 2) (by kernel_rfl) rfl (fun K' hK' => ?_)
        rw [if_pos (by rfl)]
        go_simp
        refine hK'.out _ _ hS0 fun hS2 => ?_
        refine anyIH_one (i := 4) (by kernel_rfl) rfl (fun K' hK' => ?_)
        rw [if_pos (by rfl)]
        go_simp
        refine ⟨trivial, ?_⟩
        refine (callsIn_wide.2 (HGC.out W.drew (by omega) (by omega))).mono ?_
        rintro e w3 ⟨rfl, hb3⟩
        have hb4 : Below W.heap.size W w3 := (Below.refl _ _).drew.trans hb3
        have hS3 : Kps (Band (fun b => b < w.heap.size) W0.heap.size (W0.heap.size + 2 + 0)) W w3 ∧ Below w.heap.size w w3 := ⟨Kps.below hb4, HB.out.trans (hb4.mono hpB)⟩
        have bA3 := boxed_later HBX.out hb4
        have c3 := bA3.cell
        have f3 := bA3.frozen
        rw [HG.out]
        clear hb3 hb4
        refine hK'.out _ _ hS3 fun hS4 => ?_
        refine anyIH_take (i := 5) (v := ?vw15) (by kernel_rfl) rfl (by kernel_rfl) (by kernel_rfl) (by kernel_rfl) (fun _ _ _ h => h) (.inl ⟨by rfl, ?yw15⟩) hS3 ?_
        case yw15 =>
          intro w' hS
          (clear hS)
          go_simp
          try with_reducible rfl
        refine anyIH_take (i := 6) (v := ?vw16) (by kernel_rfl) rfl (by kernel_rfl) (by kernel_rfl) (by kernel_rfl) (fun _ _ _ h => h) (.inl ⟨by rfl, ?yw16⟩) hS3 ?_
        case yw16 =>
          intro w' hS
          (clear hS)
          go_simp
          try with_reducible rfl
        refine anyIH_one (i := 7) (by kernel_rfl) rfl (fun K' hK' => ?_)
        rw [if_pos (by rfl)]
        go_simp
        refine hK'.out _ _ ⟨HBD.out _ _ hS3.1, hS3.2.setCell (p := ⟨w1.heap.size, 0, none⟩) HB1.out _⟩ fun hS5 => ?_
        refine anyIH_done (by kernel_rfl) ?_ _
        exact ⟨HBD.out _ _ hS3.1, by rw [HR4.out]; exact bA3.set _, hS3.2.setCell (p := ⟨w1.heap.size, 0, none⟩) HB1.out _⟩
      · go_simp
        refine hK'.out _ _ hS0 fun hS1 => ?_
        refine anyIH_two (i := 0) (j := 4) (by kernel_rfl) rfl rfl (fun K' hK' => ?_) (fun K' hK' => ?_)
        all_goals rw [if_pos (by rfl)]
        · go_simp
          refine hK'.out _ _ hS0 fun hS2 => ?_
          refine anyIH_one (i := 4) (by kernel_rfl) rfl (fun K' hK' => ?_)
          rw [if_pos (by rfl)]
          go_simp
          refine ⟨trivial, ?_⟩
          refine (callsIn_wide.2 (HGC.out W.drew (by omega) (by omega))).mono ?_
          rintro e w3 ⟨rfl, hb3⟩
          have hb4 : Below W.heap.size W w3 := (Below.refl _ _).drew.trans hb3
          have hS3 : Kps (Band (fun b => b < w.heap.size) W0.heap.size (W0.heap.size + 2 + 0)) W w3 ∧ Below w.heap.size w w3 := ⟨Kps.below hb4, HB.out.trans (hb4.mono hpB)⟩
          have bA3 := boxed_later HBX.out hb4
          have c3 := bA3.cell
          have f3 := bA3.frozen
          rw [HG.out]
          clear hb3 hb4
          refine hK'.out _ _ hS3 fun hS4 => ?_
          refine anyIH_take (i := 5) (v := ?vw25) (by kernel_rfl) rfl (by kernel_rfl) (by kernel_rfl) (by kernel_rfl) (fun _ _ _ h => h) (.inl ⟨by rfl, ?yw25⟩) hS3 ?_
          case yw25 =>
            intro w' hS
            (clear hS)
            go_simp
            try with_reducible rfl
          refine anyIH_take (i := 6) (v := ?vw26) (by kernel_rfl) rfl (by kernel_rfl) (by kernel_rfl) (by kernel_rfl) (fun _ _ _ h => h) (.inl ⟨by rfl, ?yw26⟩) hS3 ?_
          case yw26 =>
            intro w' hS
            (clear hS)
            go_simp
            try with_reducible rfl
          refine anyIH_one (i := 7) (by kernel_rfl) rfl (fun K' hK' => ?_)
          rw [if_pos (by rfl)]
          go_simp
          refine hK'.out _ _ ⟨HBD.out _ _ hS3.1, hS3.2.setCell (p := ⟨w1.heap.size, 0, none⟩) HB1.out _⟩ fun hS5 => ?_
          refine anyIH_done (by kernel_rfl) ?_ _
          exact ⟨HBD.out _ _ hS3.1, by rw [HR4.out]; exact bA3.set _, hS3.2.setCell (p := ⟨w1.heap.size, 0, none⟩) HB1.out _⟩
        · skip
          go_simp
          refine ⟨trivial, ?_⟩
          refine (callsIn_wide.2 (HGC.out W.drew (by omega) (by omega))).mono ?_
          rintro e w3 ⟨rfl, hb3⟩
          have hb4 : Below W.heap.size W w3 := (Below.refl _ _).drew.trans hb3
          have hS3 : Kps (Band (fun b => b < w.heap.size) W0.heap.size (W0.heap.size + 2 + 0)) W w3 ∧ Below w.heap.size w w3 := ⟨Kps.below hb4, HB.out.trans (hb4.mono hpB)⟩
          have bA3 := boxed_later HBX.out hb4
          have c3 := bA3.cell
          have f3 := bA3.frozen
          rw [HG.out]
          clear hb3 hb4
          refine hK'.out _ _ hS3 fun hS4 => ?_
          refine anyIH_take (i := 5) (v := ?vw45) (by kernel_rfl) rfl (by kernel_rfl) (by kernel_rfl) (by kernel_rfl) (fun _ _ _ h => h) (.inl ⟨by rfl, ?yw45⟩) hS3 ?_
          case yw45 =>
            intro w' hS
            (clear hS)
            go_simp
            try with_reducible rfl
          refine anyIH_one (i := 0) (by kernel_rfl) rfl (fun K' hK' => ?_)
          rw [if_pos (by rfl)]
          go_simp
          refine hK'.out _ _ hS3 fun hS6 => ?_
          refine anyIH_take (i := 6) (v := ?vw36) (by kernel_rfl) rfl (by kernel_rfl) (by kernel_rfl) (by kernel_rfl) (fun _ _ _ h => h) (.inl ⟨by rfl, ?yw36⟩) hS3 ?_
          case yw36 =>
            intro w' hS
            (clear hS)
            go_simp
            try with_reducible rfl
          refine anyIH_one (i := 7) (by kernel_rfl) rfl (fun K' hK' => ?_)
          rw [if_pos (by rfl)]
          go_simp
          refine hK'.out _ _ ⟨HBD.out _ _ hS3.1, hS3.2.setCell (p := ⟨w1.heap.size, 0, none⟩) HB1.out _⟩ fun hS5 => ?_
          refine anyIH_done (by kernel_rfl) ?_ _
          exact ⟨HBD.out _ _ hS3.1, by rw [HR4.out]; exact bA3.set _, hS3.2.setCell (p := ⟨w1.heap.size, 0, none⟩) HB1.out _⟩
    case done =>
      rintro D W hD ⟨bA1, hB⟩ hK
      have cA := bA1.cell
      have hwp := whole_pos HP.out
      rw [show lcmTo (natsTo ps ps.length) = wholeN ps from rfl] at bA1 cA
      by_cases hlim : 240 < wholeN ps
      · have H1 := Lib.hid (jobCode_lim Ht.out hlim)
        have H0 := Lib.hid (wholeV_err (ls := ls) (ps := ps) (ds := ds) (by rw [jobCode_lim Ht.out hlim]; omega))
        have hlim2 : (240 : Int) < ((wholeN ps : Nat) : Int) := by omega
        gi_wp2
        refine retM1 hK ⟨_, results_tmp2 rfl _ _ _, ?_⟩
        exact ⟨ret_i2d H0.out.symm H1.out.symm, below_shut hB (by omega)⟩
      · have H1 := Lib.hid (jobCode_ok Ht.out (by omega))
        have H0 := Lib.hid (wholeV_ok (jobCode_ok Ht.out (by omega)))
        have hlim2 : ((wholeN ps : Nat) : Int) ≤ 240 := by omega
        gi_wp2
        refine retM1 hK ⟨_, results_tmp2 rfl _ _ _, ?_⟩
        exact ⟨ret_i2d H0.out.symm H1.out.symm, below_shut hB (by omega)⟩
    case stop =>
      rintro D c k W hD hk h
      exact h.elim

end Go.Proofs.Ytbhpflhopajbfaa
