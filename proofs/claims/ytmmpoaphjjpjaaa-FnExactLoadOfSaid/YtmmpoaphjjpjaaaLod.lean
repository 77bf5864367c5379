/-
  LoadOf of the program and of the model.
  Conditions: lists of at most 1048576 elements.
-/
import Derived.Test.YtmmpoaphjjpjaaaJobU
namespace Go.Proofs.Ytmmpoaphjjpjaaa
open Go.RowKit Go.Shelf
attribute [local go_sem] Oper.semAt_some

theorem load_err {ls ps ds : List Int} (h : jobsOk ls ps ds = false) : load0 ls ps ds = 0 ∧ load1 ls ps ds = 0 ∧ load2 ls ps ds = 1 := by unfold load0 load1 load2; rw [h]; exact ⟨rfl, rfl, rfl⟩
theorem load_ok {ls ps ds : List Int} (h : jobsOk ls ps ds = true) : load0 ls ps ds = ((loadTo ls ps ls.length).1 : Int) ∧ load1 ls ps ds = ((loadTo ls ps ls.length).2 : Int) ∧ load2 ls ps ds = 0 := by unfold load0 load1 load2; rw [h]; exact ⟨rfl, rfl, rfl⟩

/-- one step, in numbers -/
theorem load_step {ls ps ds : List Int} (h : JobsP ls ps ds) {k : Nat} (hk : k < ls.length) : ∃ a b l p : Nat, (loadTo ls ps k).1 = a ∧ (loadTo ls ps k).2 = b ∧ nth ls k = (l : Int) ∧ nth ps k = (p : Int) ∧ a ≤ 3919104000000000 ∧ 0 < b ∧ b ≤ 2799360000000 ∧ (1 ≤ l ∧ l ≤ 20) ∧ (1 ≤ p ∧ p ≤ 60) ∧
    loadTo ls ps (k + 1) = (lowN (a * p + l * b) (b * p), lowD (a * p + l * b) (b * p)) := by
  have hb := loadTo_bd (n := ls.length) h.l h.p (Nat.le_of_lt hk)
  have hl := h.l k hk
  have hp := h.p k hk
  have h8 := h.len8
  have hk7 : 60 ^ k ≤ 60 ^ 7 := Nat.pow_le_pow_right (by omega) (by omega)
  have hk8 : 20 * k * 60 ^ k ≤ 20 * 7 * 60 ^ 7 := Nat.mul_le_mul (by omega) hk7
  have e7 : (60 : Nat) ^ 7 = 2799360000000 := by decide
  rw [e7] at hk7 hk8
  refine ⟨_, _, (nth ls k).toNat, (nth ps k).toNat, rfl, rfl, by omega, by omega, by omega, hb.2.1, by omega, by omega, by omega, rfl⟩

set_option maxRecDepth 100000 in
set_option maxHeartbeats 8000000 in
theorem i_LoadOf (cl cp cd : Value) (ls ps ds : List Int) (w : World) (hI : Jobs3 w.heap.size w cl cp cd ls ps ds) (hN : J64 ls ps ds) (hm : JLen ls ps ds) :
    Calls Try.prog 35 #[.agg #[cl, cp, cd]] w fun e w' => e = .returned (.tuple #[.int .i64 (load0 ls ps ds), .int .i64 (load1 ls ps ds), .int .i64 (load2 ls ps ds)]) ∧ Below w.heap.size w w' := by
  obtain ⟨al, capl, rfl⟩ := hI.l.shape
  obtain ⟨ap, capp, rfl⟩ := hI.p.shape
  obtain ⟨ad, capd, rfl⟩ := hI.d.shape
  refine (callsIn_wide (n := 9)).1 ?_
  have hB0 := below_jobs w (.slice al ls.length capl) (.slice ap ps.length capp) (.slice ad ds.length capd)
  cases ht : jobsOk ls ps ds
  · have H := Lib.hid (load_err ht)
    have Ht := Lib.hid ht
    clear ht
    refine callsIn_of_wp_marks Try.func35 rfl trivial ?_ rfl
    simp only [Try.ntmps35, List.size_toArray, List.length_cons, List.length_nil, Nat.reduceAdd, Nat.reduceSub, Array.replicate_succ, Array.replicate_zero, List.push_toArray, List.append_toArray, List.nil_append, List.cons_append]
    gi_wp2_with fail
    refine ⟨trivial, (callsIn_wide.2 (i_AreJobs _ _ _ ls ps ds _ (hI.later hB0) hN hm)).mono ?_⟩
    rintro e w1 ⟨he, hb⟩
    rw [Ht.out] at he
    subst he
    gi_wp2
    refine retM0 ⟨_, results_tmp3 rfl _ _ _, ?_⟩
    exact ⟨ret_i3d H.out.1.symm H.out.2.1.symm H.out.2.2.symm, hB0.trans (hb.mono (by simp))⟩
  · have H := Lib.hid (load_ok ht)
    have hP := jobsP ht
    have HP := Lib.hid hP
    have Ht := Lib.hid ht
    have h8 := hP.len8
    clear ht hP
    refine callsIn_of_wp_marks Try.func35 rfl trivial ?_ rfl
    simp only [Try.ntmps35, List.size_toArray, List.length_cons, List.length_nil, Nat.reduceAdd, Nat.reduceSub, Array.replicate_succ, Array.replicate_zero, List.push_toArray, List.append_toArray, List.nil_append, List.cons_append]
    gi_wp2_with fail
    refine ⟨trivial, (callsIn_wide.2 (i_AreJobs _ _ _ ls ps ds _ (hI.later hB0) hN hm)).mono ?_⟩
    rintro e w1 ⟨he, hb⟩
    rw [Ht.out] at he
    subst he
    have hB1 : Below w.heap.size w w1 := hB0.trans (hb.mono (by simp))
    have b1 : Box3 w1 w.heap.size 41 (.slice al ls.length capl) (.slice ap ps.length capp) (.slice ad ds.length capd) := (Box3.new _ _ _ _ _).later hb
    have k0 := ((b1.alloc (.cells #[.int .i64 0] 2)).alloc (.cells #[.int .i64 1] 2)).c0
    have k1 := ((b1.alloc (.cells #[.int .i64 0] 2)).alloc (.cells #[.int .i64 1] 2)).c1
    have k2 := ((b1.alloc (.cells #[.int .i64 0] 2)).alloc (.cells #[.int .i64 1] 2)).c2
    have hB1s := hB1.size
    clear hb hB0
    gi_wp2_with (first | (gi_at_call 78; refine (callsIn_wide.2 (jobsByTask_c _ _ _ _)).mono ?_; rintro e w' ⟨rfl, rfl⟩) | (refine ⟨trivial, ?_⟩; gi_at_call 78; refine (callsIn_wide.2 (jobsByTask_c _ _ _ _)).mono ?_; rintro e w' ⟨rfl, rfl⟩))
    clear k0 k1 k2 b1
    obtain ⟨W0, hW0⟩ : ∃ W0, (((w1.alloc (.cells #[.int .i64 0] 2)).alloc (.cells #[.int .i64 1] 2)).alloc (.cells #[.slice al ls.length capl, .slice ap ps.length capp, .slice ad ds.length capd] 41)) = W0 := ⟨_, rfl⟩
    have hB0 : Below w1.heap.size w1 W0 := by rw [← hW0]; exact ((((Below.refl _ w1).alloc (Nat.le_refl _) _).alloc (by simp; try omega) _).alloc (by simp; try omega) _)
    have hs0 : w1.heap.size + 3 ≤ W0.heap.size := by rw [← hW0]; simp
    have bA : Boxed W0 (w1.heap.size) 2 (.int .i64 0) := by rw [← hW0]; repeat first | (refine boxed_at ?_; (simp; done)) | refine Boxed.alloc ?_ _
    have bD : Boxed W0 (w1.heap.size + 1) 2 (.int .i64 1) := by rw [← hW0]; repeat first | (refine boxed_at ?_; (simp; done)) | refine Boxed.alloc ?_ _
    have bN : Box3 W0 (w1.heap.size + 1 + 1) 41 (.slice al ls.length capl) (.slice ap ps.length capp) (.slice ad ds.length capd) := by rw [← hW0]; repeat first | (refine box3_at ?_; (simp; done)) | refine Box3.alloc ?_ _
    rw [hW0]
    clear hW0
    have hB2 := hB1.trans (hB0.mono hB1s)
    refine range_outB 88 (fun k => .int .i64 (nth ls k)) (fun k => .int .i64 (nth ps k)) (fun k => .int .i64 (nth ds k)) (Keep := fun b => b < w.heap.size ∨ b = w1.heap.size + 1 + 1) (c := 4) rfl (by omega) rfl trivial (enters_of Try.func113 (by kernel_rfl) rfl) (jobsByTask_at 8 _ w.heap.size _ _ _ ls ps ds (by omega) HP.out.lp HP.out.ld W0 bN (by omega) (hI.below hB2)) (fun b hb => by omega) (fun _ => rfl)
      (fun k W => Boxed W w1.heap.size 2 (.int .i64 (((loadTo ls ps k).1 : Nat) : Int)) ∧ Boxed W (w1.heap.size + 1) 2 (.int .i64 (((loadTo ls ps k).2 : Nat) : Int)) ∧ Below w.heap.size w W)
      (fun _ _ _ => False)
      (by repeat' (first | exact ownFrom_pure _ _ | exact Own.from (boxed_own _ _ _) _ | exact Own.from (ownI_Own _ _ _) _ | exact Own.from (ownB_Own _ _ _) _ | exact ownFrom_below (Nat.le_refl _) (by omega) | exact ownFrom_kps (by omega) | apply OwnFrom.and)) (fun _ _ _ _ _ hs _ _ => hs)
      ⟨bA, bD, hB2⟩ ?a1 ?assign ?body ?done ?stop
    case assign =>
      intro l k b W K hk hb hK
      simp only [jobAt]
      gi_wp2_with fail
      exact hK
    case body =>
      rintro l k b W hl hr ⟨bA1, bD1, hB⟩ hb bx hk hs
      obtain ⟨x, y, l1, p1, e1, e2, e3, e4, h1, h2, h3, h4, h5, h6⟩ := load_step HP.out hk
      rw [e1] at bA1
      rw [e2] at bD1
      rw [e3, e4] at bx ⊢
      have m1 : x * p1 ≤ 3919104000000000 * 60 := Nat.mul_le_mul h1 (by omega)
      have m2 : l1 * y ≤ 20 * 2799360000000 := Nat.mul_le_mul (by omega) h3
      have m3 : y * p1 ≤ 2799360000000 * 60 := Nat.mul_le_mul h3 (by omega)
      have m4 : 0 < y * p1 := Nat.mul_pos h2 (by omega)
      have q1 : (x : Int) * (p1 : Int) = ((x * p1 : Nat) : Int) := by rw [Int.natCast_mul]
      have q2 : (l1 : Int) * (y : Int) = ((l1 * y : Nat) : Int) := by rw [Int.natCast_mul]
      have q3 : (y : Int) * (p1 : Int) = ((y * p1 : Nat) : Int) := by rw [Int.natCast_mul]
      obtain ⟨r1, hr1⟩ : ∃ r, x * p1 = r := ⟨_, rfl⟩
      obtain ⟨r2, hr2⟩ : ∃ r, l1 * y = r := ⟨_, rfl⟩
      obtain ⟨r3, hr3⟩ : ∃ r, y * p1 = r := ⟨_, rfl⟩
      rw [hr1] at m1 q1 h6
      rw [hr2] at m2 q2 h6
      rw [hr3] at m3 m4 q3 h6
      have H6 := Lib.hid h6
      have cA := bA1.cell
      have cD := bD1.cell
      have x0 := bx.c0
      have x1 := bx.c1
      have HB1 := Lib.hid hB1s
      have hpB := hB.size
      clear h6 hr1 hr2 hr3 e1 e2 e3 e4 hr
      gi_wp2_with fail
      rw [show (r1 : Int) + (r2 : Int) = ((r1 + r2 : Nat) : Int) by simp]
      refine ⟨trivial, (callsIn_wide.2 (lowestTerms_c (r1 + r2) r3 W (by omega) (by omega) m4)).mono ?_⟩
      rintro e w3 ⟨rfl, hb3⟩
      replace bA1 := boxed_later bA1 hb3
      replace bD1 := boxed_later bD1 hb3
      have cA := bA1.cell
      have fA := bA1.frozen
      have cD := bD1.cell
      have fD := bD1.frozen
      have hB3 := hB.trans (hb3.mono hpB)
      have hk3 : Kps (Band (fun b => b < w.heap.size ∨ b = w1.heap.size + 1 + 1) W0.heap.size (W0.heap.size + 2 + 4)) W w3 := Kps.below hb3
      clear hb3 x0 x1
      gi_wp2
      refine ⟨hk3.trans ((Kps.setCell _ _ _ _ (jobs_band (by omega) (by omega) (by omega))).trans (Kps.setCell _ _ _ _ (jobs_band (by omega) (by omega) (by omega)))), ?_, ?_,
        (hB3.setCell (p := ⟨w1.heap.size, 0, none⟩) HB1.out _).setCell (p := ⟨w1.heap.size + 1, 0, none⟩) (by show w.heap.size ≤ w1.heap.size + 1; omega) _⟩
      · rw [H6.out]; exact (bA1.set _).other (by omega) _
      · rw [H6.out]; exact (bD1.other (by omega) _).set _
    case done =>
      rintro D W hD ⟨bA1, bD1, hB⟩ hK
      have cA := bA1.cell
      have cD := bD1.cell
      gi_wp2
      gi_quiet (fail)
      gi_wp2
      have hK' : (W.drewN nq).heap[D]? = some (.deferred (some [])) := hK
      refine retM1 hK' ⟨_, results_tmp3 rfl _ _ _, ?_⟩
      exact ⟨ret_i3d H.out.1.symm H.out.2.1.symm H.out.2.2.symm, below_shut (below_drewN hB _) (by omega)⟩
    case stop =>
      rintro D c k W hD hk h
      exact h.elim

set_option maxRecDepth 100000 in
set_option maxHeartbeats 8000000 in
theorem s_LoadOf (cl cp cd : Value) (ls ps ds : List Int) (w : World) (hI : Jobs3 w.heap.size w cl cp cd ls ps ds) (_hN : J64 ls ps ds) (hm : JLen ls ps ds) :
    Calls Try.prog 34 #[.agg #[cl, cp, cd]] w fun e w' => e = .returned (.tuple #[.int .i64 (load0 ls ps ds), .int .i64 (load1 ls ps ds), .int .i64 (load2 ls ps ds)]) ∧ Below w.heap.size w w' := by
  obtain ⟨al, capl, rfl⟩ := hI.l.shape
  obtain ⟨ap, capp, rfl⟩ := hI.p.shape
  obtain ⟨ad, capd, rfl⟩ := hI.d.shape
  have hB0 := below_jobs w (.slice al ls.length capl) (.slice ap ps.length capp) (.slice ad ds.length capd)
  cases ht : jobsOk ls ps ds
  · have H := Lib.hid (load_err ht)
    have Ht := Lib.hid ht
    clear ht
    go_enter Try.func34, Try.ntmps34
    go_wp2_with fail
    refine (l04Is_c _ _ _ ls ps ds _ (hI.later hB0) hm).mono ?_
    rintro e w1 ⟨he, hb⟩
    rw [Ht.out] at he
    subst he
    go_wp2
    go_ret3
    exact ⟨ret_i3d H.out.1.symm H.out.2.1.symm H.out.2.2.symm, hB0.trans (hb.mono (by simp))⟩
  · have H := Lib.hid (load_ok ht)
    have hP := jobsP ht
    have HP := Lib.hid hP
    have Ht := Lib.hid ht
    have h8 := hP.len8
    have hpl : ls.length ≤ ps.length := by have := hP.lp; omega
    clear ht hP
    go_enter Try.func34, Try.ntmps34
    go_wp2_with fail
    refine (l04Is_c _ _ _ ls ps ds _ (hI.later hB0) hm).mono ?_
    rintro e w1 ⟨he, hb⟩
    rw [Ht.out] at he
    subst he
    have hB1 : Below w.heap.size w w1 := hB0.trans (hb.mono (by simp))
    have b1 : Box3 w1 w.heap.size 41 (.slice al ls.length capl) (.slice ap ps.length capp) (.slice ad ds.length capd) := (Box3.new _ _ _ _ _).later hb
    clear hb hB0
    have c0 := b1.c0
    go_wp2
    go_loopw [5, 6, 7] (fun x y i wr => ∃ k : Nat, k ≤ ls.length ∧ i = .int .i64 k ∧ x = .int .i64 (((loadTo ls ps k).1 : Nat) : Int) ∧ y = .int .i64 (((loadTo ls ps k).2 : Nat) : Int) ∧ Box3 wr w.heap.size 41 (.slice al ls.length capl) (.slice ap ps.length capp) (.slice ad ds.length capd) ∧ Below w.heap.size w wr) (fun _ _ i _ => ls.length - (intOf i).toNat)
    case atStart => exact ⟨0, Nat.zero_le _, rfl, rfl, rfl, b1, hB1⟩
    case round =>
      obtain ⟨k, hk, rfl, rfl, rfl, bk, hB⟩ := hrel
      clear hB1 b1 c0
      have c0 := bk.c0
      have c1 := bk.c1
      by_cases hlt : k < ls.length
      · obtain ⟨b1, o1, rfl, e1⟩ := (hI.l.below hB).cellOf hlt
        obtain ⟨b2, o2, rfl, e2⟩ := (hI.p.below hB).cellOf (k := k) (by omega)
        have i1 : (k : Int) < (ls.length : Int) := by omega
        have i2 : (k : Int) < (ps.length : Int) := by omega
        obtain ⟨x, y, l1, p1, d1, d2, d3, d4, h1, h2, h3, h4, h5, h6⟩ := load_step HP.out hlt
        rw [d1, d2]
        rw [d3] at e1
        rw [d4] at e2
        have m1 : x * p1 ≤ 3919104000000000 * 60 := Nat.mul_le_mul h1 (by omega)
        have m2 : l1 * y ≤ 20 * 2799360000000 := Nat.mul_le_mul (by omega) h3
        have m3 : y * p1 ≤ 2799360000000 * 60 := Nat.mul_le_mul h3 (by omega)
        have m4 : 0 < y * p1 := Nat.mul_pos h2 (by omega)
        have q1 : (x : Int) * (p1 : Int) = ((x * p1 : Nat) : Int) := by rw [Int.natCast_mul]
        have q2 : (l1 : Int) * (y : Int) = ((l1 * y : Nat) : Int) := by rw [Int.natCast_mul]
        have q3 : (y : Int) * (p1 : Int) = ((y * p1 : Nat) : Int) := by rw [Int.natCast_mul]
        obtain ⟨r1, hr1⟩ : ∃ r, x * p1 = r := ⟨_, rfl⟩
        obtain ⟨r2, hr2⟩ : ∃ r, l1 * y = r := ⟨_, rfl⟩
        obtain ⟨r3, hr3⟩ : ∃ r, y * p1 = r := ⟨_, rfl⟩
        rw [hr1] at m1 q1 h6
        rw [hr2] at m2 q2 h6
        rw [hr3] at m3 m4 q3 h6
        have H6 := Lib.hid h6
        clear h6 hr1 hr2 hr3 d1 d2 d3 d4
        have hfw : Try.prog.follows Departure.mixedOrders = true := by kernel_rfl
        have hq : ∀ w', Below wr.heap.size wr w' → w'.cell? ⟨w.heap.size, 0, none⟩ = some (.slice (some ⟨b1, o1, none⟩) ls.length capl) ∧ w'.cell? ⟨w.heap.size, 1, none⟩ = some (.slice (some ⟨b2, o2, none⟩) ps.length capp) ∧ w'.cell? ⟨b1, o1 + k, none⟩ = some (.int .i64 l1) ∧ w'.cell? ⟨b2, o2 + k, none⟩ = some (.int .i64 p1) := fun w' h =>
          ⟨(h.cell (World.block_lt_of_cell? wr _ c0)).trans c0, (h.cell (World.block_lt_of_cell? wr _ c1)).trans c1, (h.cell (World.block_lt_of_cell? wr _ e1)).trans e1, (h.cell (World.block_lt_of_cell? wr _ e2)).trans e2⟩
        have HQ := Lib.hid hq
        have HB := Lib.hid hB
        have HK := Lib.hid bk
        have HI := Lib.hid hI
        clear hq c1 e1 e2 hB bk hI
        go_wp2_with fail
        clear c0
        refine wp_region_held_drew (S := fun w' => Below wr.heap.size wr w') hfw (Below.refl _ _).drew ?_
        intro hS0
        refine wpAnyH_take (i := 0) (v := ?vu0) rfl (by kernel_rfl) (by kernel_rfl) (by kernel_rfl) (fun _ _ _ h => h) (.inl ⟨by first | kernel_rfl | rfl, ?yu0⟩) hS0 ?_
        case yu0 =>
          intro w' hS
          (obtain ⟨n0, n1, n2, n3⟩ := HQ.out _ hS; clear hS)
          go_simp
          try with_reducible rfl
        refine wpAnyH_take (i := 1) (v := ?vu1) rfl (by kernel_rfl) (by kernel_rfl) (by kernel_rfl) (fun _ _ _ h => h) (.inl ⟨by first | kernel_rfl | rfl, ?yu1⟩) hS0 ?_
        case yu1 =>
          intro w' hS
          (obtain ⟨n0, n1, n2, n3⟩ := HQ.out _ hS; clear hS)
          go_simp
          try with_reducible rfl
        refine wpAnyH_take (i := 2) (v := ?vu2) rfl (by kernel_rfl) (by kernel_rfl) (by kernel_rfl) (fun _ _ _ h => h) (.inl ⟨by first | kernel_rfl | rfl, ?yu2⟩) hS0 ?_
        case yu2 =>
          intro w' hS
          (obtain ⟨n0, n1, n2, n3⟩ := HQ.out _ hS; clear hS)
          go_simp
          try with_reducible rfl
        refine wpAnyH_take (i := 3) (v := ?vu3) rfl (by kernel_rfl) (by kernel_rfl) (by kernel_rfl) (fun _ _ _ h => h) (.inl ⟨by first | kernel_rfl | rfl, ?yu3⟩) hS0 ?_
        case yu3 =>
          intro w' hS
          (obtain ⟨n0, n1, n2, n3⟩ := HQ.out _ hS; clear hS)
          go_simp
          try with_reducible rfl
        refine wpAnyH_take (i := 4) (v := ?vu4) rfl (by kernel_rfl) (by kernel_rfl) (by kernel_rfl) (fun _ _ _ h => h) (.inl ⟨by first | kernel_rfl | rfl, ?yu4⟩) hS0 ?_
        case yu4 =>
          intro w' hS
          (obtain ⟨n0, n1, n2, n3⟩ := HQ.out _ hS; clear hS)
          go_simp
          try with_reducible rfl
        refine wpAnyH_take (i := 5) (v := ?vu5) rfl (by kernel_rfl) (by kernel_rfl) (by kernel_rfl) (fun _ _ _ h => h) (.inl ⟨by first | kernel_rfl | rfl, ?yu5⟩) hS0 ?_
        case yu5 =>
          intro w' hS
          (obtain ⟨n0, n1, n2, n3⟩ := HQ.out _ hS; clear hS)
          go_simp
          try with_reducible rfl
        refine wpAnyH_take (i := 6) (v := ?vu6) rfl (by kernel_rfl) (by kernel_rfl) (by kernel_rfl) (fun _ _ _ h => h) (.inl ⟨by first | kernel_rfl | rfl, ?yu6⟩) hS0 ?_
        case yu6 =>
          intro w' hS
          (obtain ⟨n0, n1, n2, n3⟩ := HQ.out _ hS; clear hS)
          go_simp
          try with_reducible rfl
        refine wpAnyH_take (i := 7) (v := ?vu7) rfl (by kernel_rfl) (by kernel_rfl) (by kernel_rfl) (fun _ _ _ h => h) (.inl ⟨by first | kernel_rfl | rfl, ?yu7⟩) hS0 ?_
        case yu7 =>
          intro w' hS
          (obtain ⟨n0, n1, n2, n3⟩ := HQ.out _ hS; clear hS)
          go_simp
          try with_reducible rfl
        refine wpAnyH_take (i := 8) (v := ?vu8) rfl (by kernel_rfl) (by kernel_rfl) (by kernel_rfl) (fun _ _ _ h => h) (.inl ⟨by first | kernel_rfl | rfl, ?yu8⟩) hS0 ?_
        case yu8 =>
          intro w' hS
          (obtain ⟨n0, n1, n2, n3⟩ := HQ.out _ hS; clear hS)
          go_simp
          try with_reducible rfl
        refine wpAnyH_take (i := 9) (v := ?vu9) rfl (by kernel_rfl) (by kernel_rfl) (by kernel_rfl) (fun _ _ _ h => h) (.inl ⟨by first | kernel_rfl | rfl, ?yu9⟩) hS0 ?_
        case yu9 =>
          intro w' hS
          (obtain ⟨n0, n1, n2, n3⟩ := HQ.out _ hS; clear hS)
          go_simp
          try with_reducible rfl
        refine wpAnyH_take (i := 10) (v := ?vu10) rfl (by kernel_rfl) (by kernel_rfl) (by kernel_rfl) (fun _ _ _ h => h) (.inl ⟨by first | kernel_rfl | rfl, ?yu10⟩) hS0 ?_
        case yu10 =>
          intro w' hS
          (obtain ⟨n0, n1, n2, n3⟩ := HQ.out _ hS; clear hS)
          go_simp
          try with_reducible rfl
        refine wpAnyH_take (i := 11) (v := ?vu11) rfl (by kernel_rfl) (by kernel_rfl) (by kernel_rfl) (fun _ _ _ h => h) (.inl ⟨by first | kernel_rfl | rfl, ?yu11⟩) hS0 ?_
        case yu11 =>
          intro w' hS
          (obtain ⟨n0, n1, n2, n3⟩ := HQ.out _ hS; clear hS)
          go_simp
          try with_reducible rfl
        refine wpAnyH_take (i := 12) (v := ?vu12) rfl (by kernel_rfl) (by kernel_rfl) (by kernel_rfl) (fun _ _ _ h => h) (.inl ⟨by first | kernel_rfl | rfl, ?yu12⟩) hS0 ?_
        case yu12 =>
          intro w' hS
          (obtain ⟨n0, n1, n2, n3⟩ := HQ.out _ hS; clear hS)
          go_simp
          try with_reducible rfl
        refine wpAnyH_take (i := 13) (v := ?vu13) rfl (by kernel_rfl) (by kernel_rfl) (by kernel_rfl) (fun _ _ _ h => h) (.inl ⟨by first | kernel_rfl | rfl, ?yu13⟩) hS0 ?_
        case yu13 =>
          intro w' hS
          (obtain ⟨n0, n1, n2, n3⟩ := HQ.out _ hS; clear hS)
          go_simp
          try with_reducible rfl
        refine wpAnyH_take (i := 14) (v := ?vu14) rfl (by kernel_rfl) (by kernel_rfl) (by kernel_rfl) (fun _ _ _ h => h) (.inl ⟨by first | kernel_rfl | rfl, ?yu14⟩) hS0 ?_
        case yu14 =>
          intro w' hS
          (obtain ⟨n0, n1, n2, n3⟩ := HQ.out _ hS; clear hS)
          go_simp
          try with_reducible rfl
        refine wpAnyH_take (i := 15) (v := ?vu15) rfl (by kernel_rfl) (by kernel_rfl) (by kernel_rfl) (fun _ _ _ h => h) (.inl ⟨by first | kernel_rfl | rfl, ?yu15⟩) hS0 ?_
        case yu15 =>
          intro w' hS
          (obtain ⟨n0, n1, n2, n3⟩ := HQ.out _ hS; clear hS)
          go_simp
          try with_reducible rfl
        refine wpAnyH_take (i := 16) (v := ?vu16) rfl (by kernel_rfl) (by kernel_rfl) (by kernel_rfl) (fun _ _ _ h => h) (.inl ⟨by first | kernel_rfl | rfl, ?yu16⟩) hS0 ?_
        case yu16 =>
          intro w' hS
          (obtain ⟨n0, n1, n2, n3⟩ := HQ.out _ hS; clear hS)
          go_simp
          try with_reducible rfl
        refine wpAnyH_take (i := 17) (v := ?vu17) rfl (by kernel_rfl) (by kernel_rfl) (by kernel_rfl) (fun _ _ _ h => h) (.inl ⟨by first | kernel_rfl | rfl, ?yu17⟩) hS0 ?_
        case yu17 =>
          intro w' hS
          (obtain ⟨n0, n1, n2, n3⟩ := HQ.out _ hS; clear hS)
          go_simp
          try with_reducible rfl
        refine wpAnyH_take (i := 18) (v := ?vu18) rfl (by kernel_rfl) (by kernel_rfl) (by kernel_rfl) (fun _ _ _ h => h) (.inl ⟨by first | kernel_rfl | rfl, ?yu18⟩) hS0 ?_
        case yu18 =>
          intro w' hS
          (obtain ⟨n0, n1, n2, n3⟩ := HQ.out _ hS; clear hS)
          go_simp
          try with_reducible rfl
        refine wpAnyH_take (i := 19) (v := ?vu19) rfl (by kernel_rfl) (by kernel_rfl) (by kernel_rfl) (fun _ _ _ h => h) (.inl ⟨by first | kernel_rfl | rfl, ?yu19⟩) hS0 ?_
        case yu19 =>
          intro w' hS
          (obtain ⟨n0, n1, n2, n3⟩ := HQ.out _ hS; clear hS)
          go_simp
          try with_reducible rfl
        refine wpAnyH_take (i := 20) (v := ?vu20) rfl (by kernel_rfl) (by kernel_rfl) (by kernel_rfl) (fun _ _ _ h => h) (.inl ⟨by first | kernel_rfl | rfl, ?yu20⟩) hS0 ?_
        case yu20 =>
          intro w' hS
          (obtain ⟨n0, n1, n2, n3⟩ := HQ.out _ hS; clear hS)
          go_simp
          try with_reducible rfl
        refine wpAnyH_take (i := 21) (v := ?vu21) rfl (by kernel_rfl) (by kernel_rfl) (by kernel_rfl) (fun _ _ _ h => h) (.inl ⟨by first | kernel_rfl | rfl, ?yu21⟩) hS0 ?_
        case yu21 =>
          intro w' hS
          (obtain ⟨n0, n1, n2, n3⟩ := HQ.out _ hS; clear hS)
          go_simp
          try with_reducible rfl
        try simp only [Act.put, List.getElem_toArray, List.getElem_cons_zero, List.getElem_cons_succ, List.setIfInBounds_toArray, List.set_cons_zero, List.set_cons_succ]
        have w1 : IntKind.i64.wrap (r1 : Int) = (r1 : Int) := by rw [IntKind.wrap_i64]; omega
        have w2 : IntKind.i64.wrap (r2 : Int) = (r2 : Int) := by rw [IntKind.wrap_i64]; omega
        have w3 : IntKind.i64.wrap (r3 : Int) = (r3 : Int) := by rw [IntKind.wrap_i64]; omega
        have w4 : IntKind.i64.wrap ((r1 : Int) + (r2 : Int)) = ((r1 + r2 : Nat) : Int) := by rw [IntKind.wrap_i64]; omega
        refine wpAnyH_ready (rs := [22]) (by kernel_rfl) (by simp) ?_
        refine AllReadyH.cons rfl (fun K' hK' => ?_) AllReadyH.nil
        rw [if_pos (by first | kernel_rfl | rfl)]
        go_simp
        try simp only [w1, w2, w3, w4]
        refine (l01Lowest_c (r1 + r2) r3 _ (by omega) (by omega) m4).mono ?_
        rintro e w3 ⟨rfl, hb3⟩
        have hb4 : Below wr.heap.size wr w3 := (Below.refl _ _).drew.trans hb3
        refine hK'.out _ _ hb4 fun hS1 => ?_
        refine wpAnyH_take (i := 23) (v := ?vv23) rfl (by kernel_rfl) (by kernel_rfl) (by kernel_rfl) (fun _ _ _ h => h) (.inl ⟨by first | kernel_rfl | rfl, ?yv23⟩) hS1 ?_
        case yv23 =>
          intro w' hS
          (clear hS)
          go_simp
          try with_reducible rfl
        refine wpAnyH_take (i := 24) (v := ?vv24) rfl (by kernel_rfl) (by kernel_rfl) (by kernel_rfl) (fun _ _ _ h => h) (.inl ⟨by first | kernel_rfl | rfl, ?yv24⟩) hS1 ?_
        case yv24 =>
          intro w' hS
          (clear hS)
          go_simp
          try with_reducible rfl
        refine wpAnyH_take (i := 25) (v := ?vv25) rfl (by kernel_rfl) (by kernel_rfl) (by kernel_rfl) (fun _ _ _ h => h) (.inl ⟨by first | kernel_rfl | rfl, ?yv25⟩) hS1 ?_
        case yv25 =>
          intro w' hS
          (clear hS)
          go_simp
          try with_reducible rfl
        refine wpAnyH_take (i := 26) (v := ?vv26) rfl (by kernel_rfl) (by kernel_rfl) (by kernel_rfl) (fun _ _ _ h => h) (.inl ⟨by first | kernel_rfl | rfl, ?yv26⟩) hS1 ?_
        case yv26 =>
          intro w' hS
          (clear hS)
          go_simp
          try with_reducible rfl
        refine wpAnyH_take (i := 27) (v := ?vv27) rfl (by kernel_rfl) (by kernel_rfl) (by kernel_rfl) (fun _ _ _ h => h) (.inl ⟨by first | kernel_rfl | rfl, ?yv27⟩) hS1 ?_
        case yv27 =>
          intro w' hS
          (clear hS)
          go_simp
          try with_reducible rfl
        try simp only [Act.put, List.getElem_toArray, List.getElem_cons_zero, List.getElem_cons_succ, List.setIfInBounds_toArray, List.set_cons_zero, List.set_cons_succ]
        refine wpAnyH_done (by kernel_rfl) ?_ _
        go_wp2
        go_roundw
        case rel => exact ⟨k + 1, by omega, by simp, by rw [H6.out], by rw [H6.out], HK.out.later hb4, HB.out.trans (hb4.mono HB.out.size)⟩
        case measure => simp [intOf]; omega
      · obtain rfl : k = ls.length := by omega
        go_wp2
        go_ret3
        exact ⟨ret_i3d H.out.1.symm H.out.2.1.symm H.out.2.2.symm, hB⟩

end Go.Proofs.Ytmmpoaphjjpjaaa
