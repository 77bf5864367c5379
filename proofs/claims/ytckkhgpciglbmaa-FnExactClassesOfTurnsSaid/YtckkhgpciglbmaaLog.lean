/-
  LeastOfGaps of both: the least gap, the least common multiple of all gaps.
  Conditions: lists of at most 1048576 elements.
-/
import Derived.Test.YtckkhgpciglbmaaDens
namespace Go.Proofs.Ytckkhgpciglbmaa
open Go.RowKit Go.Shelf
attribute [local go_sem] Oper.semAt_some

/-- the least of the first k numbers (and of the first one) -/
def leastTo (zs : List Int) (k : Nat) : Int := (zs.take k).foldl min (nth zs 0)
theorem leastTo_zero (zs : List Int) : leastTo zs 0 = nth zs 0 := by simp [leastTo]
theorem leastTo_succ {zs : List Int} {k : Nat} (h : k < zs.length) : leastTo zs (k + 1) = min (leastTo zs k) (nth zs k) := by
  unfold leastTo; rw [take_snoc h]; simp
theorem leastTo_one {zs : List Int} (h : 0 < zs.length) : leastTo zs 1 = nth zs 0 := by rw [leastTo_succ h, leastTo_zero]; omega
def leastL (zs : List Int) : Int := leastTo zs zs.length
theorem leastTo_le {zs : List Int} {k j : Nat} (hk : k ≤ zs.length) (h : j < k) : leastTo zs k ≤ nth zs j := by
  induction k with
  | zero => omega
  | succ k ih =>
    rw [leastTo_succ (by omega)]
    by_cases e : j = k
    · subst e; omega
    · have := ih (by omega) (by omega); omega
theorem leastL_le {zs : List Int} {j : Nat} (h : j < zs.length) : leastL zs ≤ nth zs j := leastTo_le (Nat.le_refl _) h
theorem leastTo_mem {zs : List Int} (h0 : 0 < zs.length) {k : Nat} (hk : k ≤ zs.length) : ∃ j, j < zs.length ∧ leastTo zs k = nth zs j := by
  induction k with
  | zero => exact ⟨0, h0, leastTo_zero _⟩
  | succ k ih =>
    obtain ⟨j, hj, e⟩ := ih (by omega)
    rw [leastTo_succ (by omega)]
    by_cases h : leastTo zs k ≤ nth zs k
    · exact ⟨j, hj, by omega⟩
    · exact ⟨k, by omega, by omega⟩
theorem leastL_mem {zs : List Int} (h0 : 0 < zs.length) : ∃ j, j < zs.length ∧ leastL zs = nth zs j := leastTo_mem h0 (Nat.le_refl _)

set_option maxRecDepth 100000 in
set_option maxHeartbeats 8000000 in
theorem min_c (sv : Value) (ts : List Int) (w : World) (hI : Ints w.heap.size w sv ts) (h0 : 0 < ts.length) (hl : ts.length ≤ 1048576) :
    Calls Try.prog 176 #[sv] w fun e w' => e = .returned (.int .i64 (leastL ts)) ∧ w = w' := by
  obtain ⟨a, cap, rfl⟩ := hI.shape
  obtain ⟨b, off, rfl, hbb, hc⟩ := hI.at_ h0
  have h1 : w.cell? ⟨b, off, none⟩ = some (.int .i64 (nth ts 0)) := by simpa using hc 0 (by omega)
  have e1 := leastTo_one h0
  go_enter Try.func176, Try.ntmps176
  clear hc
  go_wp2
  rw [← e1]
  clear e1 h1
  go_loop [4, 3] (fun i m => ∃ k : Nat, 1 ≤ k ∧ k ≤ ts.length ∧ i = .int .i64 k ∧ m = .int .i64 (leastTo ts k)) (fun i _ => ts.length - (intOf i).toNat)
  case atStart => exact ⟨1, Nat.le_refl _, h0, rfl, rfl⟩
  case round =>
    obtain ⟨k, hk1, hk, rfl, rfl⟩ := hrel
    by_cases hlt : k < ts.length
    · obtain ⟨b2, off2, hs, hb2, hc⟩ := hI.at_ hlt
      cases hs
      have hcx := hc k hlt
      have hs := leastTo_succ hlt
      have Hs := Lib.hid hs
      clear hc hs
      go_wp2
      exact ⟨⟨k + 1, by omega, by omega, by simp, by rw [Hs.out]; congr 1; omega⟩, by simp [intOf]; omega⟩
    · obtain rfl : k = ts.length := by omega
      go_wp2
      go_ret
      exact ⟨ret_int rfl, rfl⟩

def logA (zs : List Int) : Int := if tasksOk zs then leastL zs else 0
def logB (zs : List Int) : Int := if tasksOk zs then ((lcmTo (natsTo zs zs.length) : Nat) : Int) else 0

set_option maxRecDepth 100000 in
set_option maxHeartbeats 8000000 in
theorem i_LeastOfGaps (c0 : Value) (zs : List Int) (w : World) (hI : Ints w.heap.size w c0 zs) (_hN : I64s zs) (hm : zs.length ≤ 1048576) :
    Calls Try.prog 150 #[.agg #[c0]] w fun e w' => e = .returned (.tuple #[.int .i64 (logA zs), .int .i64 (logB zs), .int .i64 (dens2 zs)]) ∧ Below w.heap.size w w' := by
  obtain ⟨a, cap, rfl⟩ := hI.shape
  refine (callsIn_wide (n := 9)).1 ?_
  cases ht : tasksOk zs
  · have H0 := Lib.hid (show logA zs = 0 by unfold logA; rw [ht]; rfl)
    have H1 := Lib.hid (show logB zs = 0 by unfold logB; rw [ht]; rfl)
    have H2 := Lib.hid (show dens2 zs = 1 by unfold dens2; rw [ht]; rfl)
    have Ht := Lib.hid ht
    clear ht
    refine callsIn_of_wp_marks Try.func150 rfl trivial ?_ rfl
    simp only [Try.ntmps150, List.size_toArray, List.length_cons, List.length_nil, Nat.reduceAdd, Nat.reduceSub, Array.replicate_succ, Array.replicate_zero, List.push_toArray, List.append_toArray, List.nil_append, List.cons_append]
    gi_wp2_with fail
    have hB0 : Below w.heap.size w (w.alloc (.cells #[.slice a zs.length cap] 28)) := (Below.refl _ w).alloc (Nat.le_refl _) _
    refine ⟨trivial, (callsIn_wide.2 (isTasks_c _ zs _ (hI.later hB0) (by omega))).mono ?_⟩
    rintro e w1 ⟨he, hb⟩
    rw [Ht.out] at he
    subst he
    gi_wp2
    refine retM0 ⟨_, results_tmp3 rfl _ _ _, ?_⟩
    exact ⟨ret_i3d H0.out.symm H1.out.symm H2.out.symm, hB0.trans (hb.mono (by simp))⟩
  · have H0 := Lib.hid (show logA zs = leastL zs by unfold logA; rw [ht]; rfl)
    have H1 := Lib.hid (show logB zs = ((lcmTo (natsTo zs zs.length) : Nat) : Int) by unfold logB; rw [ht]; rfl)
    have H2 := Lib.hid (show dens2 zs = 0 by unfold dens2; rw [ht]; rfl)
    have Ht := Lib.hid ht
    have hl := tasksOk_len ht
    clear ht
    refine callsIn_of_wp_marks Try.func150 rfl trivial ?_ rfl
    simp only [Try.ntmps150, List.size_toArray, List.length_cons, List.length_nil, Nat.reduceAdd, Nat.reduceSub, Array.replicate_succ, Array.replicate_zero, List.push_toArray, List.append_toArray, List.nil_append, List.cons_append]
    gi_wp2_with fail
    have hB0 : Below w.heap.size w (w.alloc (.cells #[.slice a zs.length cap] 28)) := (Below.refl _ w).alloc (Nat.le_refl _) _
    refine ⟨trivial, (callsIn_wide.2 (isTasks_c _ zs _ (hI.later hB0) (by omega))).mono ?_⟩
    rintro e w1 ⟨he, hb⟩
    rw [Ht.out] at he
    subst he
    have hB1 : Below w.heap.size w w1 := hB0.trans (hb.mono (by simp))
    have b1 : Boxed w1 w.heap.size 28 (.slice a zs.length cap) := boxed_later (Boxed.new _ _ _) hb
    have k1 := (b1.alloc (.cells #[.int .i64 1] 2)).cell
    have hB1s := hB1.size
    clear hb hB0
    gi_wp2_with (first | (gi_at_call 129; refine (callsIn_wide.2 (numbered_c _ _ _ _)).mono ?_; rintro e w' ⟨rfl, rfl⟩) | (refine ⟨trivial, ?_⟩; gi_at_call 129; refine (callsIn_wide.2 (numbered_c _ _ _ _)).mono ?_; rintro e w' ⟨rfl, rfl⟩))
    clear k1
    obtain ⟨W0, hW0⟩ : ∃ W0, ((w1.alloc (.cells #[.int .i64 1] 2)).alloc (.cells #[.slice a zs.length cap] 22)) = W0 := ⟨_, rfl⟩
    have hB0 : Below w1.heap.size w1 W0 := by rw [← hW0]; exact (((Below.refl _ w1).alloc (Nat.le_refl _) _).alloc (by simp; try omega) _)
    have hs0 : w1.heap.size + 2 ≤ W0.heap.size := by rw [← hW0]; simp
    have bA : Boxed W0 (w1.heap.size) 2 (.int .i64 1) := by rw [← hW0]; repeat first | (refine boxed_at ?_; (simp; done)) | refine Boxed.alloc ?_ _
    have bN : Boxed W0 (w1.heap.size + 1) 22 (.slice a zs.length cap) := by rw [← hW0]; repeat first | (refine boxed_at ?_; (simp; done)) | refine Boxed.alloc ?_ _
    rw [hW0]
    clear hW0
    have hB2 := hB1.trans (hB0.mono hB1s)
    have bT := boxed_later b1 hB0
    have hlt1 := b1.lt
    refine range_outA rfl (by omega) rfl trivial (enters_of Try.func163 (by kernel_rfl) rfl) (numbered_at Fence.wide 8 trivial rfl (by omega) _ w.heap.size _ zs (by omega) W0 bN (by omega) (hI.below hB2)) (fun b hb => by omega) (fun _ => rfl)
      (fun k W => Boxed W w1.heap.size 2 (.int .i64 ((lcmTo (natsTo zs k) : Nat) : Int)) ∧ Boxed W w.heap.size 28 (.slice a zs.length cap) ∧ Below w.heap.size w W)
      (fun _ _ _ => False)
      (by repeat' (first | exact ownFrom_pure _ _ | exact Own.from (boxed_own _ _ _) _ | exact Own.from (ownI_Own _ _ _) _ | exact Own.from (ownB_Own _ _ _) _ | exact ownFrom_below (Nat.le_refl _) (by omega) | exact ownFrom_kps (by omega) | apply OwnFrom.and))
      (fun _ _ _ _ _ hs _ _ => hs)
      ⟨bA, bT, hB2⟩ ?a1 ?assign ?body ?done ?stop
    case assign =>
      intro l k W K hk hK
      simp only [numAt]
      gi_wp2
      exact hK
    case body =>
      rintro l k W hl2 hr ⟨bA1, bT1, hB⟩ hlt hsW
      have hg := tasksOk_nth Ht.out hlt
      obtain ⟨g, hgz⟩ : ∃ g : Nat, nth zs k = g := ⟨(nth zs k).toNat, by omega⟩
      have hbd := natsTo_bd Ht.out k
      have hL := lcmTo_le hbd
      have hbd2 := natsTo_bd Ht.out (k + 1)
      have hL2 := lcmTo_le hbd2
      have hs : lcmTo (natsTo zs (k + 1)) = Nat.lcm (lcmTo (natsTo zs k)) g := by rw [natsTo_succ hlt, lcmTo_snoc, hgz]; rfl
      obtain ⟨L, hLe⟩ : ∃ L, lcmTo (natsTo zs k) = L := ⟨_, rfl⟩
      rw [hLe] at hL hs bA1
      rw [hs] at hL2
      rw [hgz] at hg ⊢
      have hgp : 0 < Nat.gcd L g := Nat.gcd_pos_of_pos_right _ (by omega)
      have hgl : Nat.gcd L g ≤ g := gcd_le_right' (by omega)
      have hmul : (L : Int) * ((g / Nat.gcd L g : Nat) : Int) = ((Nat.lcm L g : Nat) : Int) := by
        rw [← Int.natCast_mul]
        congr 1
        unfold Nat.lcm
        exact (Nat.mul_div_assoc L (Nat.gcd_dvd_right L g)).symm
      have q1 : ((g : Nat) : Int).tdiv ((Nat.gcd L g : Nat) : Int) = ((g / Nat.gcd L g : Nat) : Int) := rfl
      have q2 : ((g : Nat) : Int) / ((Nat.gcd L g : Nat) : Int) = ((g / Nat.gcd L g : Nat) : Int) := by simp
      obtain ⟨d, hd⟩ : ∃ d, Nat.gcd L g = d := ⟨_, rfl⟩
      obtain ⟨q, hq⟩ : ∃ q, g / Nat.gcd L g = q := ⟨_, rfl⟩
      have hqg : g / Nat.gcd L g ≤ g := Nat.div_le_self _ _
      rw [hq] at hqg
      have hdd : (Nat.gcd L g : Nat) = d := hd
      have Hd := Lib.hid hd
      rw [hq, hd] at q1 q2
      rw [hq] at hmul
      obtain ⟨M, hM⟩ : ∃ M, Nat.lcm L g = M := ⟨_, rfl⟩
      rw [hM] at hmul hL2 hs
      rw [hd] at hgp hgl
      have Hs := Lib.hid hs
      have hd0 : ¬ d = 0 := by omega
      have hwq : IntKind.i64.wrap (q : Int) = (q : Int) := by rw [IntKind.wrap_i64]; omega
      have hwM : IntKind.i64.wrap (M : Int) = (M : Int) := by rw [IntKind.wrap_i64]; omega
      have cA := bA1.cell
      have hpB := hB.size
      have HB1 := Lib.hid hB1s
      clear hs hbd hbd2 hd hq hdd hM hgz hLe
      have hfw : Try.prog.follows Departure.mixedOrders = true := by kernel_rfl
      gi_wp2_with fail
      refine wpIn_region_held (S := fun w' => Boxed w' w.heap.size 28 (.slice a zs.length cap) ∧ Below w.heap.size w w' ∧ Kps (Band (fun b => b < w.heap.size) W0.heap.size (W0.heap.size + 2 + 0)) W w')
        hfw (by kernel_rfl) (fun ⟨_, _, h⟩ => h) ⟨bT1, hB.drew, ⟨Nat.le_refl _, fun _ _ _ => rfl⟩⟩ ?_
      intro hS0
      refine wpAnyH_take (i := 1) (v := ?v1) rfl (by kernel_rfl) (by kernel_rfl) (by kernel_rfl) (fun _ _ _ h => h) (.inl ⟨by rfl, ?y1⟩) hS0 ?_
      case y1 =>
        intro w' hS
        (clear hS)
        go_simp
        try with_reducible rfl
      refine wpAnyH_take (i := 3) (v := ?v3) rfl (by kernel_rfl) (by kernel_rfl) (by kernel_rfl) (fun _ _ _ h => h) (.inl ⟨by rfl, ?y3⟩) hS0 ?_
      case y3 =>
        intro w' hS
        (clear hS)
        go_simp
        try with_reducible rfl
      refine wpAnyH_ready (rs := [0, 2]) (by kernel_rfl) (by simp) ?_
      refine AllReadyH.cons rfl (fun K' hK' => ?_) (AllReadyH.cons rfl (fun K' hK' => ?_) AllReadyH.nil)
      · rw [if_pos (by rfl)]
        go_simp
        refine hK'.out _ _ hS0 fun hS1 => ?_
        refine wpAnyH_ready (rs := [2]) (by kernel_rfl) (by simp) ?_
        refine AllReadyH.cons rfl (fun K' hK' => ?_) AllReadyH.nil
        rw [if_pos (by rfl)]
        go_simp
        refine hK'.out _ _ hS1 fun hS2 => ?_
        refine wpAnyH_ready (rs := [4]) (by kernel_rfl) (by simp) ?_
        refine AllReadyH.cons rfl (fun K' hK' => ?_) AllReadyH.nil
        rw [if_pos (by rfl)]
        go_simp
        refine (greatestDivisor_c L g _ (by omega) (by omega)).mono ?_
        rintro e w3 ⟨rfl, hb3⟩
        rw [Hd.out]
        have A3 := boxed_later (show Boxed W.drew w1.heap.size 2 (.int .i64 (L : Int)) from bA1) hb3
        have s1 := boxed_later hS2.1 hb3
        have s2 := hS2.2.1.trans (hb3.mono hS2.2.1.size)
        have s3 : Kps (Band (fun b => b < w.heap.size) W0.heap.size (W0.heap.size + 2 + 0)) W w3 := hS2.2.2.trans (Kps.below hb3)
        have cA3 := A3.cell
        have fA3 := A3.frozen
        clear hb3
        refine hK'.out _ _ ⟨s1, s2, s3⟩ fun hS3 => ?_
        refine wpAnyH_take (i := 5) (v := ?va5) rfl (by kernel_rfl) (by kernel_rfl) (by kernel_rfl) (fun _ _ _ h => h) (.inl ⟨by rfl, ?ya5⟩) hS3 ?_
        case ya5 =>
          intro w' hS
          (clear hS)
          go_simp
          try with_reducible rfl
        refine wpAnyH_take (i := 6) (v := ?va6) rfl (by kernel_rfl) (by kernel_rfl) (by kernel_rfl) (fun _ _ _ h => h) (.inl ⟨by rfl, ?ya6⟩) hS3 ?_
        case ya6 =>
          intro w' hS
          (clear hS)
          go_simp
          try with_reducible rfl
        refine wpAnyH_ready (rs := [7]) (by kernel_rfl) (by simp) ?_
        refine AllReadyH.cons rfl (fun K' hK' => ?_) AllReadyH.nil
        rw [if_pos (by rfl)]
        go_simp
        refine hK'.out _ _ ⟨s1.other (by omega) _, s2.setCell (p := ⟨w1.heap.size, 0, none⟩) HB1.out _, s3.trans (Kps.setCell _ _ _ _ (not_band (by omega) (by omega)))⟩ fun hS4 => wpAnyH_done (by kernel_rfl) ?_ _
        exact ⟨hS4.2.2, by rw [Hs.out]; exact A3.set _, hS4.1, hS4.2.1⟩
      · rw [if_pos (by rfl)]
        go_simp
        refine hK'.out _ _ hS0 fun hS1 => ?_
        refine wpAnyH_ready (rs := [0, 4]) (by kernel_rfl) (by simp) ?_
        refine AllReadyH.cons rfl (fun K' hK' => ?_) (AllReadyH.cons rfl (fun K' hK' => ?_) AllReadyH.nil)
        · rw [if_pos (by rfl)]
          go_simp
          refine hK'.out _ _ hS1 fun hS2 => ?_
          refine wpAnyH_ready (rs := [4]) (by kernel_rfl) (by simp) ?_
          refine AllReadyH.cons rfl (fun K' hK' => ?_) AllReadyH.nil
          rw [if_pos (by rfl)]
          go_simp
          refine (greatestDivisor_c L g _ (by omega) (by omega)).mono ?_
          rintro e w3 ⟨rfl, hb3⟩
          rw [Hd.out]
          have A3 := boxed_later (show Boxed W.drew w1.heap.size 2 (.int .i64 (L : Int)) from bA1) hb3
          have s1 := boxed_later hS2.1 hb3
          have s2 := hS2.2.1.trans (hb3.mono hS2.2.1.size)
          have s3 : Kps (Band (fun b => b < w.heap.size) W0.heap.size (W0.heap.size + 2 + 0)) W w3 := hS2.2.2.trans (Kps.below hb3)
          have cA3 := A3.cell
          have fA3 := A3.frozen
          clear hb3
          refine hK'.out _ _ ⟨s1, s2, s3⟩ fun hS3 => ?_
          refine wpAnyH_take (i := 5) (v := ?vb5) rfl (by kernel_rfl) (by kernel_rfl) (by kernel_rfl) (fun _ _ _ h => h) (.inl ⟨by rfl, ?yb5⟩) hS3 ?_
          case yb5 =>
            intro w' hS
            (clear hS)
            go_simp
            try with_reducible rfl
          refine wpAnyH_take (i := 6) (v := ?vb6) rfl (by kernel_rfl) (by kernel_rfl) (by kernel_rfl) (fun _ _ _ h => h) (.inl ⟨by rfl, ?yb6⟩) hS3 ?_
          case yb6 =>
            intro w' hS
            (clear hS)
            go_simp
            try with_reducible rfl
          refine wpAnyH_ready (rs := [7]) (by kernel_rfl) (by simp) ?_
          refine AllReadyH.cons rfl (fun K' hK' => ?_) AllReadyH.nil
          rw [if_pos (by rfl)]
          go_simp
          refine hK'.out _ _ ⟨s1.other (by omega) _, s2.setCell (p := ⟨w1.heap.size, 0, none⟩) HB1.out _, s3.trans (Kps.setCell _ _ _ _ (not_band (by omega) (by omega)))⟩ fun hS4 => wpAnyH_done (by kernel_rfl) ?_ _
          exact ⟨hS4.2.2, by rw [Hs.out]; exact A3.set _, hS4.1, hS4.2.1⟩
        · rw [if_pos (by rfl)]
          go_simp
          refine (greatestDivisor_c L g _ (by omega) (by omega)).mono ?_
          rintro e w3 ⟨rfl, hb3⟩
          rw [Hd.out]
          have A3 := boxed_later (show Boxed W.drew w1.heap.size 2 (.int .i64 (L : Int)) from bA1) hb3
          have s1 := boxed_later hS1.1 hb3
          have s2 := hS1.2.1.trans (hb3.mono hS1.2.1.size)
          have s3 : Kps (Band (fun b => b < w.heap.size) W0.heap.size (W0.heap.size + 2 + 0)) W w3 := hS1.2.2.trans (Kps.below hb3)
          have cA3 := A3.cell
          have fA3 := A3.frozen
          clear hb3
          refine hK'.out _ _ ⟨s1, s2, s3⟩ fun hS3 => ?_
          refine wpAnyH_take (i := 5) (v := ?vc5) rfl (by kernel_rfl) (by kernel_rfl) (by kernel_rfl) (fun _ _ _ h => h) (.inl ⟨by rfl, ?yc5⟩) hS3 ?_
          case yc5 =>
            intro w' hS
            (clear hS)
            go_simp
            try with_reducible rfl
          refine wpAnyH_ready (rs := [0]) (by kernel_rfl) (by simp) ?_
          refine AllReadyH.cons rfl (fun K' hK' => ?_) AllReadyH.nil
          rw [if_pos (by rfl)]
          go_simp
          refine hK'.out _ _ hS3 fun hS3b => ?_
          clear hS3b
          refine wpAnyH_take (i := 6) (v := ?vc6) rfl (by kernel_rfl) (by kernel_rfl) (by kernel_rfl) (fun _ _ _ h => h) (.inl ⟨by rfl, ?yc6⟩) hS3 ?_
          case yc6 =>
            intro w' hS
            (clear hS)
            go_simp
            try with_reducible rfl
          refine wpAnyH_ready (rs := [7]) (by kernel_rfl) (by simp) ?_
          refine AllReadyH.cons rfl (fun K' hK' => ?_) AllReadyH.nil
          rw [if_pos (by rfl)]
          go_simp
          refine hK'.out _ _ ⟨s1.other (by omega) _, s2.setCell (p := ⟨w1.heap.size, 0, none⟩) HB1.out _, s3.trans (Kps.setCell _ _ _ _ (not_band (by omega) (by omega)))⟩ fun hS4 => wpAnyH_done (by kernel_rfl) ?_ _
          exact ⟨hS4.2.2, by rw [Hs.out]; exact A3.set _, hS4.1, hS4.2.1⟩
    case done =>
      rintro D W hD ⟨bA1, bT1, hB⟩ hK
      have cA := bA1.cell
      have cT := bT1.cell
      gi_wp2_with fail
      refine wpIn_wide.2 ?_
      go_region_held3 (fun w' => w'.cell? ⟨w.heap.size, 0, none⟩ = some (.slice a zs.length cap) ∧ w'.cell? ⟨w1.heap.size, 0, none⟩ = some (.int .i64 ((lcmTo (natsTo zs zs.length) : Nat) : Int)) ∧ w' = W.drew)
        (exact ⟨cT, cA, rfl⟩)
        (first | (go_at_call 176; refine (min_c _ zs _ ((hI.below hB.drew).mono hB.size) (by omega) (by omega)).mono ?_; rintro e w3 ⟨rfl, rfl⟩))
      gi_wp2
      have hK' : W.drew.heap[D]? = some (.deferred (some [])) := hK
      refine retM1 hK' ⟨_, results_tmp3 rfl _ _ _, ?_⟩
      exact ⟨ret_i3d H0.out.symm H1.out.symm H2.out.symm, below_shut hB.drew (by omega)⟩
    case stop =>
      rintro D c k W hD hk h
      exact h.elim

end Go.Proofs.Ytckkhgpciglbmaa
