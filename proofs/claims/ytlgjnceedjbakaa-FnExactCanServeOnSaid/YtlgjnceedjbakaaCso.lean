/-
  Whether tasks can be served on m channels: the program and the model.
  Conditions: at most 1048576 gaps.
-/
import Derived.Test.YtlgjnceedjbakaaCsl
import Derived.Test.YtlgjnceedjbakaaPli
namespace Go.Proofs.Ytlgjnceedjbakaa
open Go.RowKit Go.Shelf
attribute [local go_sem] Oper.semAt_some

open Classical in
noncomputable def canOnR (zs : List Int) (m : Int) : Bool := if onC zs m = 0 then decide (LastS zs m zs) else false

set_option maxRecDepth 100000 in
set_option maxHeartbeats 8000000 in
theorem canBeServedOn_c (c0 : Value) (zs : List Int) (m : Int) (w : World) (hI : Ints w.heap.size w c0 zs) (ht : tasksOk zs = true) (h4 : cntL zs ≤ 4000) :
    Calls Try.prog 74 #[.agg #[c0], .int .i64 m] w fun e w' => (∃ b : Bool, e = .returned (.bool b) ∧ (b = true ↔ LastS zs m zs)) ∧ Below w.heap.size w w' := by
  obtain ⟨a, cap, rfl⟩ := hI.shape
  have hB0 : Below w.heap.size w (w.alloc (.cells #[.slice a zs.length cap] 42)) := (Below.refl _ w).alloc (Nat.le_refl _) _
  go_enter Try.func74, Try.ntmps74
  go_wp2_with fail
  refine (leastPlayOn_c _ zs m _ (hI.later hB0) ht h4).mono ?_
  rintro e w1 ⟨hb, v, ps, ho, ⟨p, rfl, hf, -⟩ | ⟨rfl, hn⟩⟩
  · have hl : LastS zs m zs := hf.last (i := 0) (Nat.zero_le _)
    have Hl := Lib.hid hl
    clear hl hf
    go_wp2
    go_ret
    exact ⟨⟨true, rfl, fun _ => Hl.out, fun _ => rfl⟩, hB0.trans (hb.mono hB0.size)⟩
  · have Hn := Lib.hid hn
    clear hn
    go_wp2
    go_ret
    exact ⟨⟨false, rfl, fun h => (by cases h), fun h => absurd h Hn.out⟩, hB0.trans (hb.mono hB0.size)⟩

set_option maxRecDepth 100000 in
set_option maxHeartbeats 8000000 in
theorem i_CanServeOn (c0 : Value) (zs : List Int) (m : Int) (w : World) (hI : Ints w.heap.size w c0 zs) (hN : I64s zs) (hm0 : zs.length ≤ 1048576) (_hm : I64 m) :
    Calls Try.prog 37 #[.agg #[c0], .int .i64 m] w fun e w' => e = .returned (.tuple #[.bool (canOnR zs m), .int .i64 (onC zs m)]) ∧ Below w.heap.size w w' := by
  obtain ⟨a, cap, rfl⟩ := hI.shape
  have hB0 : Below w.heap.size w (w.alloc (.cells #[.slice a zs.length cap] 42)) := (Below.refl _ w).alloc (Nat.le_refl _) _
  have bT0 : Boxed (w.alloc (.cells #[.slice a zs.length cap] 42)) w.heap.size 42 (.slice a zs.length cap) := Boxed.new _ _ _
  have hbd := onC_bd zs m
  go_enter Try.func37, Try.ntmps37
  go_wp2_with fail
  refine (checkTasksOn_c _ zs m _ (hI.later hB0) hN hm0).mono ?_
  rintro e w1 ⟨rfl, hb1⟩
  have bT1 := boxed_later bT0 hb1
  have hB1 := hB0.trans (hb1.mono hB0.size)
  by_cases hc : onC zs m = 0
  · obtain ⟨ht, hmb, h4⟩ := onC_ok hc
    have Hr := Lib.hid (show canOnR zs m = open Classical in decide (LastS zs m zs) by unfold canOnR; rw [if_pos hc])
    have Hc := Lib.hid hc
    rw [hc]
    have k1 := bT1.cell
    clear hc hbd
    go_wp2_with fail
    refine (canBeServedOn_c _ zs m w1 (hI.later hB1) ht h4).mono ?_
    rintro e w2 ⟨⟨b, rfl, hbl⟩, hb2⟩
    have Hb := Lib.hid (show canOnR zs m = b by rw [Hr.out]; cases b <;> simp_all)
    clear hbl
    go_wp2
    go_ret2
    exact ⟨ret_b2' Hb.out.symm Hc.out.symm, hB1.trans (hb2.mono hB1.size)⟩
  · have Hr := Lib.hid (show canOnR zs m = false by unfold canOnR; rw [if_neg hc])
    have hq : (onC zs m != 0) = true := by simpa using hc
    clear hc
    go_wp2
    go_ret2
    exact ⟨ret_b2' Hr.out.symm rfl, hB1⟩

theorem last_full {zs : List Int} {m : Int} (hp : Pos zs) : (bAt (lastSB zs m) (((cntN zs - 1 : Nat)) : Int) = true) ↔ LastS zs m zs := by
  have h1 := cntL_cntN hp
  have h2 := numL_bd (isSt_full hp)
  rw [lastSB_at (by omega)]
  have h3 : (((cntN zs - 1 : Nat)) : Int) = numL zs zs := by rw [numL_full]; omega
  rw [h3, ofL_numL (isSt_full hp)]

set_option maxRecDepth 100000 in
set_option maxHeartbeats 8000000 in
theorem s_CanServeOn (c0 : Value) (zs : List Int) (m : Int) (w : World) (hI : Ints w.heap.size w c0 zs) (_hN : I64s zs) (hm0 : zs.length ≤ 1048576) (_hm : I64 m) :
    Calls Try.prog 36 #[.agg #[c0], .int .i64 m] w fun e w' => e = .returned (.tuple #[.bool (canOnR zs m), .int .i64 (onC zs m)]) ∧ Below w.heap.size w w' := by
  obtain ⟨a, cap, rfl⟩ := hI.shape
  have hfw : Try.prog.follows Departure.mixedOrders = true := by kernel_rfl
  have hB0 : Below w.heap.size w (w.alloc (.cells #[.slice a zs.length cap] 42)) := (Below.refl _ w).alloc (Nat.le_refl _) _
  have bT0 : Boxed (w.alloc (.cells #[.slice a zs.length cap] 42)) w.heap.size 42 (.slice a zs.length cap) := Boxed.new _ _ _
  have hbd := onC_bd zs m
  go_enter Try.func36, Try.ntmps36
  go_wp2_with fail
  refine (l08Code_c _ zs m _ (hI.later hB0) hm0).mono ?_
  rintro e w1 ⟨rfl, hb1⟩
  have bT1 := boxed_later bT0 hb1
  have hB1 := hB0.trans (hb1.mono hB0.size)
  by_cases hc : onC zs m = 0
  · obtain ⟨ht, hmb, h4⟩ := onC_ok hc
    have Hr := Lib.hid (show canOnR zs m = open Classical in decide (LastS zs m zs) by unfold canOnR; rw [if_pos hc])
    have Hc := Lib.hid hc
    rw [hc]
    have k1 := bT1.cell
    clear hc hbd
    go_wp2_with fail
    refine wp_region_held_drew (S := fun w' => Boxed w' w.heap.size 42 (.slice a zs.length cap) ∧ Below w.heap.size w w') hfw ⟨bT1, hB1.drew⟩ ?_
    intro hS0
    obtain ⟨Wd, hWd⟩ : ∃ Wd, w1.drew = Wd := ⟨_, rfl⟩
    rw [hWd] at hS0 ⊢
    clear hWd bT1 hB1 k1
    refine wpAnyH_take (i := 0) (v := ?vr10) rfl (by kernel_rfl) (by kernel_rfl) (by kernel_rfl) (fun _ _ _ h => h) (.inl ⟨by rfl, ?yr10⟩) hS0 ?_
    case yr10 =>
      intro w' hS
      (have k1 := hS.1.cell; clear hS)
      go_simp
      try with_reducible rfl
    refine wpAnyH_take (i := 1) (v := ?vr11) rfl (by kernel_rfl) (by kernel_rfl) (by kernel_rfl) (fun _ _ _ h => h) (.inl ⟨by rfl, ?yr11⟩) hS0 ?_
    case yr11 =>
      intro w' hS
      (have k1 := hS.1.cell; clear hS)
      go_simp
      try with_reducible rfl
    refine wpAnyH_take (i := 3) (v := ?vr13) rfl (by kernel_rfl) (by kernel_rfl) (by kernel_rfl) (fun _ _ _ h => h) (.inl ⟨by rfl, ?yr13⟩) hS0 ?_
    case yr13 =>
      intro w' hS
      (have k1 := hS.1.cell; clear hS)
      go_simp
      try with_reducible rfl
    refine wpAnyH_ready (rs := [2]) (by kernel_rfl) (by simp) ?_
    refine AllReadyH.cons rfl (fun K' hK' => ?_) AllReadyH.nil
    rw [if_pos (by rfl)]
    go_simp
    refine (l08Lasting_c _ zs m Wd (hI.later hS0.2) ht h4).mono ?_
    rintro e W2 ⟨g, rfl, hob, hb2⟩
    have hS2 : Boxed W2 w.heap.size 42 (.slice a zs.length cap) ∧ Below w.heap.size w W2 := ⟨boxed_later hS0.1 hb2, hS0.2.trans (hb2.mono hS0.2.size)⟩
    refine hK'.out _ _ hS2 fun hS1 => ?_
    clear hK' hS1 hS0 hb2 bT0
    refine wpAnyH_ready (rs := [4]) (by kernel_rfl) (by simp) ?_
    refine AllReadyH.cons rfl (fun K' hK' => ?_) AllReadyH.nil
    rw [if_pos (by rfl)]
    go_simp
    refine (l02Count_c _ zs W2 (hI.later hS2.2) ht).mono ?_
    rintro e W3 ⟨rfl, hb3⟩
    have hp := pos_of ht
    have hcn := cntL_cntN hp
    have hnb := numL_bd (isSt_full hp)
    obtain ⟨N, hN⟩ : ∃ N, cntN zs - 1 = N := ⟨_, rfl⟩
    have hN1 : cntN zs = N + 1 := by omega
    have hlf := last_full (zs := zs) (m := m) hp
    rw [hN] at hlf
    have hS3 : Boxed W3 w.heap.size 42 (.slice a zs.length cap) ∧ Below w.heap.size w W3 := ⟨boxed_later hS2.1 hb3, hS2.2.trans (hb3.mono hS2.2.size)⟩
    have hoF := hob.below9 hb3
    have hlen : (lastSB zs m).length = N + 1 := by simp [lastSB]; omega
    rw [hcn, hN1]
    rw [hN1] at hoF
    have hN4 : (N : Int) ≤ 4000 := by omega
    have hcell := ho_cell hoF hlen (Nat.lt_succ_self N)
    obtain ⟨b, hbv⟩ : ∃ b, bAt (lastSB zs m) (N : Int) = b := ⟨_, rfl⟩
    rw [hbv] at hcell hlf
    have hi1 : ((N : Int) + 1 - 1) = (N : Int) := by omega
    have hw64 : IntKind.i64.wrap (N : Int) = (N : Int) := by rw [IntKind.wrap_i64]; omega
    have hltN : (N : Int) < (N : Int) + 1 := by omega
    have hpc : (((N + 1 : Nat)) : Int) = (N : Int) + 1 := by omega
    rw [hpc]
    have Hb := Lib.hid (show canOnR zs m = b by rw [Hr.out]; cases b <;> simp_all)
    refine hK'.out _ _ hS3 fun hS1 => ?_
    clear hK' hS1 hS2 hb3 hob hbv hlf hnb hcn hpc
    refine wpAnyH_take (i := 5) (v := ?vr25) rfl (by kernel_rfl) (by kernel_rfl) (by kernel_rfl) (fun _ _ _ h => h) (.inl ⟨by rfl, ?yr25⟩) hS3 ?_
    case yr25 =>
      intro w' hS
      (clear hS)
      go_simp
      try with_reducible rfl
    refine wpAnyH_take (i := 6) (v := ?vr26) rfl (by kernel_rfl) (by kernel_rfl) (by kernel_rfl) (fun _ _ _ h => h) (.inl ⟨by rfl, ?yr26⟩) hS3 ?_
    case yr26 =>
      intro w' hS
      (clear hS)
      go_simp
      try with_reducible rfl
    refine wpAnyH_ready (rs := [7]) (by kernel_rfl) (by simp) ?_
    refine AllReadyH.cons rfl (fun K' hK' => ?_) AllReadyH.nil
    rw [if_pos (by rfl)]
    go_simp
    refine hK'.out _ _ hS3 fun hS1 => ?_
    clear hK' hS1
    refine wpAnyH_take (i := 8) (v := ?vr38) rfl (by kernel_rfl) (by kernel_rfl) (by kernel_rfl) (fun _ _ _ h => h) (.inl ⟨by rfl, ?yr38⟩) hS3 ?_
    case yr38 =>
      intro w' hS
      (clear hS)
      go_simp
      try with_reducible rfl
    refine wpAnyH_take (i := 9) (v := ?vr39) rfl (by kernel_rfl) (by kernel_rfl) (by kernel_rfl) (fun _ _ _ h => h) (.inl ⟨by rfl, ?yr39⟩) hS3 ?_
    case yr39 =>
      intro w' hS
      (clear hS)
      go_simp
      try with_reducible rfl
    refine wpAnyH_done (by kernel_rfl) ?_ _
    go_wp2
    go_ret2
    exact ⟨ret_b2' Hb.out.symm Hc.out.symm, hS3.2⟩
  · have Hr := Lib.hid (show canOnR zs m = false by unfold canOnR; rw [if_neg hc])
    have hq : (onC zs m != 0) = true := by simpa using hc
    clear hc
    go_wp2
    go_ret2
    exact ⟨ret_b2' Hr.out.symm rfl, hB1⟩

end Go.Proofs.Ytlgjnceedjbakaa
