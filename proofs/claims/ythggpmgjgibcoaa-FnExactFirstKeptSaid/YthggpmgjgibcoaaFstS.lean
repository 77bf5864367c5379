/-
  FirstKept of the model.
  Conditions: lists of at most 1048576 elements.
-/
import Derived.Test.YthggpmgjgibcoaaTopS
import Derived.Test.YthggpmgjgibcoaaKeepS
import Derived.Test.YthggpmgjgibcoaaFst
namespace Go.Proofs.Ythggpmgjgibcoaa
open Go.RowKit Go.Shelf
attribute [local go_sem] Oper.semAt_some

set_option maxRecDepth 100000 in
set_option maxHeartbeats 8000000 in
theorem l02Choices_c (c0 : Value) (zs : List Int) (c1 : Value) (cs : List Int) (w : World) (hI : Ints w.heap.size w c0 zs) (hm : zs.length ≤ 1048576) (hT : Ints w.heap.size w c1 cs) (hm1 : cs.length ≤ 1048576) :
    Calls Try.prog 146 #[.agg #[c0], c1] w fun e w' => e = .returned (.bool (chOk zs cs)) ∧ Below w.heap.size w w' := by
  obtain ⟨a, cap, rfl⟩ := hI.shape
  obtain ⟨a2, cap2, rfl⟩ := hT.shape
  have hB0 : Below w.heap.size w (w.alloc (.cells #[.slice a zs.length cap] 26)) := (Below.refl _ w).alloc (Nat.le_refl _) _
  have hfw : Try.prog.follows Departure.mixedOrders = true := by kernel_rfl
  have hwr : IntKind.i64.wrap ((zs.length : Int) - 1) = (zs.length : Int) - 1 := by rw [IntKind.wrap_i64]; omega
  go_enter Try.func146, Try.ntmps146
  go_wp2
  go_loopw [5] (fun i wr => ∃ k : Nat, k ≤ cs.length ∧ i = .int .i64 k ∧ (∀ j, j < k → inB (nth cs j) (-1) (zs.length - 1) = true) ∧ Boxed wr w.heap.size 26 (.slice a zs.length cap) ∧ Below w.heap.size w wr) (fun i _ => cs.length - (intOf i).toNat)
  case atStart => exact ⟨0, Nat.zero_le _, rfl, by simp, Boxed.new _ _ _, hB0⟩
  case round =>
    obtain ⟨k, hk, rfl, hall, hb, hB⟩ := hrel
    have kb := hb.cell
    have hsz := hB.size
    by_cases hlt : k < cs.length
    · obtain ⟨b, off, rfl, hbb, hc⟩ := hT.at_ hlt
      have hcw : ∀ W, Below w.heap.size w W → W.cell? ⟨b, off + k, none⟩ = some (.int .i64 (nth cs k)) := fun W h => (h.cell (p := ⟨b, off + k, none⟩) hbb).trans (hc k hlt)
      have hcx := hcw _ hB
      have Hcw := Lib.hid hcw
      clear hc hcw
      by_cases he : inB (nth cs k) (-1) (zs.length - 1) = true
      · have He := Lib.hid he
        clear he
        go_wp2_with fail
        refine wp_region_noPanic (wp_region_held_drew (S := fun w' => Boxed w' w.heap.size 26 (.slice a zs.length cap) ∧ Below w.heap.size w w') hfw ⟨hb, hB.drew⟩ ?_)
        intro hS0
        refine wpAnyH_take (i := 0) (v := ?v0) rfl (by kernel_rfl) (by kernel_rfl) (by kernel_rfl) (fun _ _ _ h => h) (.inl ⟨by rfl, ?y0⟩) hS0 ?_
        case y0 =>
          intro w' hS
          (have k1 := hS.1.cell; have k2 := Hcw.out _ hS.2; clear hS)
          go_simp
          try with_reducible rfl
        refine wpAnyH_take (i := 1) (v := ?v1) rfl (by kernel_rfl) (by kernel_rfl) (by kernel_rfl) (fun _ _ _ h => h) (.inl ⟨by rfl, ?y1⟩) hS0 ?_
        case y1 =>
          intro w' hS
          (have k1 := hS.1.cell; have k2 := Hcw.out _ hS.2; clear hS)
          go_simp
          try with_reducible rfl
        refine wpAnyH_take (i := 2) (v := ?v2) rfl (by kernel_rfl) (by kernel_rfl) (by kernel_rfl) (fun _ _ _ h => h) (.inl ⟨by rfl, ?y2⟩) hS0 ?_
        case y2 =>
          intro w' hS
          (have k1 := hS.1.cell; have k2 := Hcw.out _ hS.2; clear hS)
          go_simp
          try with_reducible rfl
        refine wpAnyH_take (i := 3) (v := ?v3) rfl (by kernel_rfl) (by kernel_rfl) (by kernel_rfl) (fun _ _ _ h => h) (.inl ⟨by rfl, ?y3⟩) hS0 ?_
        case y3 =>
          intro w' hS
          (have k1 := hS.1.cell; have k2 := Hcw.out _ hS.2; clear hS)
          go_simp
          try with_reducible rfl
        refine wpAnyH_take (i := 4) (v := ?v4) rfl (by kernel_rfl) (by kernel_rfl) (by kernel_rfl) (fun _ _ _ h => h) (.inl ⟨by rfl, ?y4⟩) hS0 ?_
        case y4 =>
          intro w' hS
          (have k1 := hS.1.cell; have k2 := Hcw.out _ hS.2; clear hS)
          go_simp
          try with_reducible rfl
        refine wpAnyH_ready (rs := [5]) (by kernel_rfl) (by simp) ?_
        refine AllReadyH.cons rfl (fun K' hK' => ?_) AllReadyH.nil
        rw [if_pos (by rfl)]
        go_simp
        refine (l01K_c _ _ _ _).mono ?_
        rintro e w2 ⟨rfl, rfl⟩
        refine hK'.out _ _ ⟨hS0.1.alloc _, hS0.2.alloc hS0.2.size _⟩ fun hS2 => ?_
        try simp only [id]
        refine wpAnyH_take (i := 6) (v := ?vz6) rfl (by kernel_rfl) (by kernel_rfl) (by kernel_rfl) (fun _ _ _ h => h) (.inl ⟨by rfl, ?yz6⟩) hS2 ?_
        case yz6 =>
          intro w' hS
          (clear hS)
          go_simp
          try with_reducible rfl
        refine wpAnyH_ready (rs := [7]) (by kernel_rfl) (by simp) ?_
        refine AllReadyH.cons rfl (fun K' hK' => ?_) AllReadyH.nil
        rw [if_pos (by rfl)]
        go_simp
        refine (l01In_d true _ _ _ _ He.out).mono ?_
        rintro e w3 ⟨rfl, rfl⟩
        refine hK'.out _ _ hS2 fun hS3 => ?_
        try simp only [id]
        refine wpAnyH_take (i := 8) (v := ?vy8) rfl (by kernel_rfl) (by kernel_rfl) (by kernel_rfl) (fun _ _ _ h => h) (.inl ⟨by rfl, ?yy8⟩) hS3 ?_
        case yy8 =>
          intro w' hS
          (clear hS)
          go_simp
          try with_reducible rfl
        refine wpAnyH_done (by kernel_rfl) (NoPanic.normal ?_) _
        go_wp2
        go_roundw
        case rel => exact ⟨k + 1, by omega, by simp, fun j hj => by by_cases e : j = k; exact e ▸ He.out; exact hall j (by omega), hS3.1, hS3.2⟩
        case measure => simp [intOf]; omega
      · have he' : inB (nth cs k) (-1) (zs.length - 1) = false := by simpa using he
        have He := Lib.hid he'
        clear he he'
        go_wp2_with fail
        refine wp_region_noPanic (wp_region_held_drew (S := fun w' => Boxed w' w.heap.size 26 (.slice a zs.length cap) ∧ Below w.heap.size w w') hfw ⟨hb, hB.drew⟩ ?_)
        intro hS0
        refine wpAnyH_take (i := 0) (v := ?vb0) rfl (by kernel_rfl) (by kernel_rfl) (by kernel_rfl) (fun _ _ _ h => h) (.inl ⟨by rfl, ?yb0⟩) hS0 ?_
        case yb0 =>
          intro w' hS
          (have k1 := hS.1.cell; have k2 := Hcw.out _ hS.2; clear hS)
          go_simp
          try with_reducible rfl
        refine wpAnyH_take (i := 1) (v := ?vb1) rfl (by kernel_rfl) (by kernel_rfl) (by kernel_rfl) (fun _ _ _ h => h) (.inl ⟨by rfl, ?yb1⟩) hS0 ?_
        case yb1 =>
          intro w' hS
          (have k1 := hS.1.cell; have k2 := Hcw.out _ hS.2; clear hS)
          go_simp
          try with_reducible rfl
        refine wpAnyH_take (i := 2) (v := ?vb2) rfl (by kernel_rfl) (by kernel_rfl) (by kernel_rfl) (fun _ _ _ h => h) (.inl ⟨by rfl, ?yb2⟩) hS0 ?_
        case yb2 =>
          intro w' hS
          (have k1 := hS.1.cell; have k2 := Hcw.out _ hS.2; clear hS)
          go_simp
          try with_reducible rfl
        refine wpAnyH_take (i := 3) (v := ?vb3) rfl (by kernel_rfl) (by kernel_rfl) (by kernel_rfl) (fun _ _ _ h => h) (.inl ⟨by rfl, ?yb3⟩) hS0 ?_
        case yb3 =>
          intro w' hS
          (have k1 := hS.1.cell; have k2 := Hcw.out _ hS.2; clear hS)
          go_simp
          try with_reducible rfl
        refine wpAnyH_take (i := 4) (v := ?vb4) rfl (by kernel_rfl) (by kernel_rfl) (by kernel_rfl) (fun _ _ _ h => h) (.inl ⟨by rfl, ?yb4⟩) hS0 ?_
        case yb4 =>
          intro w' hS
          (have k1 := hS.1.cell; have k2 := Hcw.out _ hS.2; clear hS)
          go_simp
          try with_reducible rfl
        refine wpAnyH_ready (rs := [5]) (by kernel_rfl) (by simp) ?_
        refine AllReadyH.cons rfl (fun K' hK' => ?_) AllReadyH.nil
        rw [if_pos (by rfl)]
        go_simp
        refine (l01K_c _ _ _ _).mono ?_
        rintro e w2 ⟨rfl, rfl⟩
        refine hK'.out _ _ ⟨hS0.1.alloc _, hS0.2.alloc hS0.2.size _⟩ fun hS2 => ?_
        try simp only [id]
        refine wpAnyH_take (i := 6) (v := ?vc6) rfl (by kernel_rfl) (by kernel_rfl) (by kernel_rfl) (fun _ _ _ h => h) (.inl ⟨by rfl, ?yc6⟩) hS2 ?_
        case yc6 =>
          intro w' hS
          (clear hS)
          go_simp
          try with_reducible rfl
        refine wpAnyH_ready (rs := [7]) (by kernel_rfl) (by simp) ?_
        refine AllReadyH.cons rfl (fun K' hK' => ?_) AllReadyH.nil
        rw [if_pos (by rfl)]
        go_simp
        refine (l01In_d false _ _ _ _ He.out).mono ?_
        rintro e w3 ⟨rfl, rfl⟩
        refine hK'.out _ _ hS2 fun hS3 => ?_
        try simp only [id]
        refine wpAnyH_take (i := 8) (v := ?vd8) rfl (by kernel_rfl) (by kernel_rfl) (by kernel_rfl) (fun _ _ _ h => h) (.inl ⟨by rfl, ?yd8⟩) hS3 ?_
        case yd8 =>
          intro w' hS
          (clear hS)
          go_simp
          try with_reducible rfl
        refine wpAnyH_done (by kernel_rfl) (NoPanic.normal ?_) _
        go_wp2
        go_ret
        exact ⟨ret_bool (by unfold chOk; rw [all_false_of hlt He.out]; rfl), hS3.2⟩
    · obtain rfl : k = cs.length := by omega
      go_wp2
      go_ret
      exact ⟨ret_bool (by unfold chOk; rw [all_true_of hall]; simp; omega), hB⟩

end Go.Proofs.Ythggpmgjgibcoaa
