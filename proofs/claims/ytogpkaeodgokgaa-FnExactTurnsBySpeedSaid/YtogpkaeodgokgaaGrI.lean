/-
  The contracts of the program's tests for gardens: areWithin, IsGarden, checkHeightsFor, checkTurnsIn, isSpeedNumber.
  Conditions: each slice takes at most 140737488351232 bytes.
-/
import Derived.Test.YtogpkaeodgokgaaChkI
import Derived.Test.YtogpkaeodgokgaaGrd
namespace Go.Proofs.Ytogpkaeodgokgaa
open Go.RowKit Go.Shelf
attribute [local go_sem] Oper.semAt_some

set_option maxRecDepth 100000 in
set_option maxHeartbeats 2000000 in
theorem areWithin_c (sv : Value) (zs : List Int) (x y : Int) (w : World) (hI : Ints w.heap.size w sv zs) (hreach : zs.length * 8 ≤ 140737488351232) :
    Calls Try.prog 84 #[sv, .int .i64 x, .int .i64 y] w fun e W' => e = .returned (.bool (zs.all fun z => inB z x y)) ∧ Below w.heap.size w W' := by
  obtain ⟨a, cap, rfl⟩ := hI.shape
  refine (callsIn_wide (n := 9)).1 ?_
  refine callsIn_of_wp_marks Try.func84 rfl trivial ?_ rfl
  simp only [Try.ntmps84, List.size_toArray, List.length_cons, List.length_nil, Nat.reduceAdd, Nat.reduceSub, Array.replicate_succ, Array.replicate_zero, List.push_toArray, List.append_toArray, List.nil_append, List.cons_append]
  gi_wp2_with (first | (gi_at_call 102; refine (callsIn_wide.2 (numbered_c _ _ _ _)).mono ?_; rintro e w' ⟨rfl, rfl⟩) | (refine ⟨trivial, ?_⟩; gi_at_call 102; refine (callsIn_wide.2 (numbered_c _ _ _ _)).mono ?_; rintro e w' ⟨rfl, rfl⟩))
  obtain ⟨W0, hW0⟩ : ∃ W0, ((((w.alloc (.cells #[.int .i64 x] 2)).alloc (.cells #[.int .i64 y] 2)).alloc (.cells #[.bool false] 4)).alloc (.cells #[.slice a zs.length cap] 22)) = W0 := ⟨_, rfl⟩
  have hB0 : Below w.heap.size w W0 := by rw [← hW0]; exact (((((Below.refl _ w).alloc (Nat.le_refl _) _).alloc (by simp; try omega) _).alloc (by simp; try omega) _).alloc (by simp; try omega) _)
  have hs0 : w.heap.size + 4 ≤ W0.heap.size := by rw [← hW0]; simp
  have bX : Boxed W0 (w.heap.size) 2 (.int .i64 x) := by rw [← hW0]; repeat first | (refine boxed_at ?_; (simp; done)) | refine Boxed.alloc ?_ _
  have bY : Boxed W0 (w.heap.size + 1) 2 (.int .i64 y) := by rw [← hW0]; repeat first | (refine boxed_at ?_; (simp; done)) | refine Boxed.alloc ?_ _
  have bR : Boxed W0 (w.heap.size + 1 + 1) 4 (.bool false) := by rw [← hW0]; repeat first | (refine boxed_at ?_; (simp; done)) | refine Boxed.alloc ?_ _
  have bN : Boxed W0 (w.heap.size + 1 + 1 + 1) 22 (.slice a zs.length cap) := by rw [← hW0]; repeat first | (refine boxed_at ?_; (simp; done)) | refine Boxed.alloc ?_ _
  rw [hW0]
  clear hW0
  refine range_numbered rfl hreach bN (hI.below hB0) (by omega)
    (fun pre W => ((∀ z ∈ pre, inB (nth zs z.1) x y = true) ∧ Boxed W (w.heap.size + 1 + 1) 4 (.bool false) ∧ Boxed W w.heap.size 2 (.int .i64 x) ∧ Boxed W (w.heap.size + 1) 2 (.int .i64 y)) ∧ Below w.heap.size w W)
    (fun c pre W => (c = .ret ∧ (∃ z ∈ pre, inB (nth zs z.1) x y = false) ∧ Boxed W (w.heap.size + 1 + 1) 4 (.bool false)) ∧ Below w.heap.size w W)
    (OwnFrom.and (OwnFrom.and (ownFrom_pure _ _) (OwnFrom.and (Own.from (boxed_own _ _ _) _) (OwnFrom.and (Own.from (boxed_own _ _ _) _) (Own.from (boxed_own _ _ _) _)))) (ownFrom_below (Nat.le_refl _) (by omega)))
    (fun c => OwnFrom.and (OwnFrom.and (ownFrom_pure _ _) (OwnFrom.and (ownFrom_pure _ _) (Own.from (boxed_own _ _ _) _))) (ownFrom_below (Nat.le_refl _) (by omega)))
    ⟨⟨by simp, bR, bX, bY⟩, hB0⟩ ?a1 ?assign ?body ?done ?stop
  case assign =>
    intro l x W K hK
    gi_wp2
    exact hK
  case body =>
    rintro l pre z W ⟨⟨hp, bR1, bX1, bY1⟩, hB1⟩ hlt
    have cR := bR1.cell
    have fR := bR1.frozen
    have cX := bX1.cell
    have cY := bY1.cell
    gi_wp2
    all_goals first
      | exact ⟨(KeepsOthers.setCell _ _ _).from _, ⟨rfl, ⟨z, by simp, inB_false.2 (by omega)⟩, bR1.set _⟩, hB1.setCell (p := ⟨w.heap.size + 1 + 1, 0, none⟩) (by simp; omega) _⟩
      | exact ⟨KeepsFrom.refl _ _, Below.refl _ _, ⟨fun y hy => (List.mem_append.1 hy).elim (hp y) (fun e => by simp at e; subst e; exact inB_true.2 (by omega)), bR1, bX1, bY1⟩, hB1⟩
  case done =>
    rintro D W hD ⟨⟨hp, bR1, bX1, bY1⟩, hB1⟩ hK
    have cR := bR1.cell
    have fR := bR1.frozen
    gi_wp2
    have hK' := (KeepsOthers.setCell W ⟨w.heap.size + 1 + 1, 0, none⟩ (.bool true)).same D _ hK rfl
    have cR2 := (boxed_shut (bR1.set (.bool true)) hK').cell
    exact retM1 hK' ⟨.bool true, by simp [results, Try.f84, go_sem, cR2], ret_bool (all_firsts (p := fun z => inB z x y) hp).symm, below_shut (hB1.setCell (p := ⟨w.heap.size + 1 + 1, 0, none⟩) (by simp; omega) _) (by omega)⟩
  case stop =>
    rintro D c k W hD hk ⟨⟨rfl, hp, bR1⟩, hB1⟩ hK
    gi_wp2
    have cR2 := (boxed_shut bR1 hK).cell
    exact retM1 hK ⟨.bool false, by simp [results, Try.f84, go_sem, cR2], ret_bool (all_not (p := fun z => inB z x y) hp).symm, below_shut hB1 (by omega)⟩

theorem areWithin_d (d : Bool) (sv : Value) (zs : List Int) (x y : Int) (w : World) (hI : Ints w.heap.size w sv zs) (hreach : zs.length * 8 ≤ 140737488351232) (hd : (zs.all fun z => inB z x y) = d) :
    Calls Try.prog 84 #[sv, .int .i64 x, .int .i64 y] w fun e W' => e = .returned (.bool d) ∧ Below w.heap.size w W' := by
  subst hd; exact areWithin_c sv zs x y w hI hreach

set_option maxRecDepth 100000 in
set_option maxHeartbeats 2000000 in
theorem isGarden_c (sv : Value) (rs : List Int) (w : World) (hI : Ints w.heap.size w sv rs) (hreach : rs.length * 8 ≤ 140737488351232) :
    Calls Try.prog 36 #[.agg #[sv]] w fun e W' => e = .returned (.bool (gardenOk rs)) ∧ Below w.heap.size w W' := by
  obtain ⟨a, cap, rfl⟩ := hI.shape
  have hB0 : Below w.heap.size w (w.alloc (.cells #[.slice a rs.length cap] 48)) := (Below.refl _ w).alloc (Nat.le_refl _) _
  by_cases hb1 : rs.length < 1
  · have hf : gardenOk rs = false := by unfold gardenOk; rw [inB_false.2 (by omega)]; simp
    have Hf := Lib.hid hf
    clear hf
    go_enter Try.func36, Try.ntmps36
    go_wp2
    go_ret
    exact ⟨ret_bool Hf.out.symm, hB0⟩
  · by_cases hb2 : 8 < rs.length
    · have hf : gardenOk rs = false := by unfold gardenOk; rw [inB_false.2 (by omega)]; simp
      have Hf := Lib.hid hf
      clear hf
      go_enter Try.func36, Try.ntmps36
      go_wp2
      go_ret
      exact ⟨ret_bool Hf.out.symm, hB0⟩
    · have hf : gardenOk rs = rs.all fun z => inB z 1 20 := by unfold gardenOk; rw [inB_true.2 (show 1 ≤ (rs.length : Int) ∧ (rs.length : Int) ≤ 8 by omega), Bool.and_true]
      have Hf := Lib.hid hf
      clear hf
      go_enter Try.func36, Try.ntmps36
      go_wp2_with fail
      refine (areWithin_c _ rs 1 20 _ (hI.later hB0) hreach).mono ?_
      rintro e w1 ⟨rfl, hb⟩
      go_wp2
      go_ret
      exact ⟨ret_bool Hf.out.symm, hB0.trans (hb.mono (by simp))⟩

theorem isGarden_d (d : Bool) (sv : Value) (rs : List Int) (w : World) (hI : Ints w.heap.size w sv rs) (hreach : rs.length * 8 ≤ 140737488351232) (hd : gardenOk rs = d) :
    Calls Try.prog 36 #[.agg #[sv]] w fun e W' => e = .returned (.bool d) ∧ Below w.heap.size w W' := by
  subst hd; exact isGarden_c sv rs w hI hreach

theorem i_IsGarden (c0 : Value) (zs : List Int) (w : World) (hI : Ints w.heap.size w c0 zs) (_hN : I64s zs) (hm : zs.length ≤ 1048576) :
    Calls Try.prog 36 #[.agg #[c0]] w fun e w' => e = .returned (.bool (gardenOk zs)) ∧ Below w.heap.size w w' := isGarden_c c0 zs w hI (by omega)

set_option maxRecDepth 100000 in
set_option maxHeartbeats 2000000 in
theorem checkHeightsFor_c (sv tv : Value) (rs hs : List Int) (w : World) (hI : Ints w.heap.size w sv rs) (hT : Ints w.heap.size w tv hs) (hl : rs.length * 8 ≤ 140737488351232) (ht : hs.length * 8 ≤ 140737488351232) :
    Calls Try.prog 88 #[.agg #[sv], tv] w fun e w' => e = .returned (.int .i64 (htC rs hs)) ∧ Below w.heap.size w w' := by
  obtain ⟨a, cap, rfl⟩ := hI.shape
  obtain ⟨a2, cap2, rfl⟩ := hT.shape
  have hB0 : Below w.heap.size w (w.alloc (.cells #[.slice a rs.length cap] 48)) := (Below.refl _ w).alloc (Nat.le_refl _) _
  have hI0 := hI.later hB0
  have hT0 := hT.later hB0
  cases h1 : gardenOk rs
  · have Hc := Lib.hid (show htC rs hs = 1 by simp [htC, h1])
    go_enter Try.func88, Try.ntmps88
    go_wp2_with fail
    refine (isGarden_d false _ rs _ hI0 hl h1).mono ?_
    rintro e w1 ⟨rfl, hb⟩
    go_wp2
    go_ret
    exact ⟨ret_int Hc.out.symm, hB0.trans (hb.mono (by simp))⟩
  · have H1 := Lib.hid h1
    by_cases hle : hs.length = rs.length
    · cases h2 : heightsOk hs
      · have Hc := Lib.hid (show htC rs hs = 2 by simp [htC, h1, h2])
        have H2 := Lib.hid h2
        have hq : ((hs.length : Int) != (rs.length : Int)) = false := by rw [hle]; simp
        clear h1 h2 hle
        go_enter Try.func88, Try.ntmps88
        go_wp2_with fail
        refine (isGarden_d true _ rs _ hI0 hl H1.out).mono ?_
        rintro e w1 ⟨rfl, hb⟩
        have k1 : w1.cell? ⟨w.heap.size, 0, none⟩ = some (.slice a rs.length cap) := (hb.cell (p := ⟨w.heap.size, 0, none⟩) (by simp)).trans (by simp [go_sem])
        go_wp2_with fail
        refine (areWithin_d false _ hs 0 100000 _ (hT0.later hb) ht H2.out).mono ?_
        rintro e w2 ⟨rfl, hb2⟩
        go_wp2
        go_ret
        exact ⟨ret_int Hc.out.symm, hB0.trans ((hb.mono (by simp)).trans (hb2.mono (by have := hb.size; simp at this; omega)))⟩
      · have Hc := Lib.hid (show htC rs hs = 0 by simp [htC, h1, h2, hle])
        have H2 := Lib.hid h2
        have hq : ((hs.length : Int) != (rs.length : Int)) = false := by rw [hle]; simp
        clear h1 h2 hle
        go_enter Try.func88, Try.ntmps88
        go_wp2_with fail
        refine (isGarden_d true _ rs _ hI0 hl H1.out).mono ?_
        rintro e w1 ⟨rfl, hb⟩
        have k1 : w1.cell? ⟨w.heap.size, 0, none⟩ = some (.slice a rs.length cap) := (hb.cell (p := ⟨w.heap.size, 0, none⟩) (by simp)).trans (by simp [go_sem])
        go_wp2_with fail
        refine (areWithin_d true _ hs 0 100000 _ (hT0.later hb) ht H2.out).mono ?_
        rintro e w2 ⟨rfl, hb2⟩
        go_wp2
        go_ret
        exact ⟨ret_int Hc.out.symm, hB0.trans ((hb.mono (by simp)).trans (hb2.mono (by have := hb.size; simp at this; omega)))⟩
    · have Hc := Lib.hid (show htC rs hs = 2 by simp [htC, h1, hle])
      have hq : ((hs.length : Int) != (rs.length : Int)) = true := by rw [bne_iff_ne]; omega
      clear h1 hle
      go_enter Try.func88, Try.ntmps88
      go_wp2_with fail
      refine (isGarden_d true _ rs _ hI0 hl H1.out).mono ?_
      rintro e w1 ⟨rfl, hb⟩
      have k1 : w1.cell? ⟨w.heap.size, 0, none⟩ = some (.slice a rs.length cap) := (hb.cell (p := ⟨w.heap.size, 0, none⟩) (by simp)).trans (by simp [go_sem])
      go_wp2
      go_ret
      exact ⟨ret_int Hc.out.symm, hB0.trans (hb.mono (by simp))⟩

set_option maxRecDepth 100000 in
set_option maxHeartbeats 2000000 in
theorem checkTurnsIn_c (sv tv : Value) (rs ts : List Int) (w : World) (hI : Ints w.heap.size w sv rs) (hT : Ints w.heap.size w tv ts) (hl : rs.length * 8 ≤ 140737488351232) (ht : ts.length * 8 ≤ 140737488351232) :
    Calls Try.prog 99 #[.agg #[sv], tv] w fun e w' => e = .returned (.int .i64 (gtC rs ts)) ∧ Below w.heap.size w w' := by
  obtain ⟨a, cap, rfl⟩ := hI.shape
  obtain ⟨a2, cap2, rfl⟩ := hT.shape
  have hB0 : Below w.heap.size w (w.alloc (.cells #[.slice a rs.length cap] 48)) := (Below.refl _ w).alloc (Nat.le_refl _) _
  have hI0 := hI.later hB0
  have hT0 := hT.later hB0
  cases h1 : gardenOk rs
  · have Hc := Lib.hid (show gtC rs ts = 1 by simp [gtC, h1])
    go_enter Try.func99, Try.ntmps99
    go_wp2_with fail
    refine (isGarden_d false _ rs _ hI0 hl h1).mono ?_
    rintro e w1 ⟨rfl, hb⟩
    go_wp2
    go_ret
    exact ⟨ret_int Hc.out.symm, hB0.trans (hb.mono (by simp))⟩
  · have H1 := Lib.hid h1
    rcases hd : turnsOk ts rs.length with _ | _
    · have Hc := Lib.hid (show gtC rs ts = 2 by simp [gtC, h1, hd])
      have H2 := Lib.hid hd
      clear h1 hd
      go_enter Try.func99, Try.ntmps99
      go_wp2_with fail
      refine (isGarden_d true _ rs _ hI0 hl H1.out).mono ?_
      rintro e w1 ⟨rfl, hb⟩
      have k1 : w1.cell? ⟨w.heap.size, 0, none⟩ = some (.slice a rs.length cap) := (hb.cell (p := ⟨w.heap.size, 0, none⟩) (by simp)).trans (by simp [go_sem])
      go_wp2_with fail
      refine (areTurns_c _ ts _ _ (hT0.later hb) ht).mono ?_
      rintro e w2 ⟨he, hb2⟩
      rw [H2.out] at he
      subst he
      go_wp2
      go_ret
      exact ⟨ret_int Hc.out.symm, hB0.trans ((hb.mono (by simp)).trans (hb2.mono (by have := hb.size; simp at this; omega)))⟩
    · have Hc := Lib.hid (show gtC rs ts = 0 by simp [gtC, h1, hd])
      have H2 := Lib.hid hd
      clear h1 hd
      go_enter Try.func99, Try.ntmps99
      go_wp2_with fail
      refine (isGarden_d true _ rs _ hI0 hl H1.out).mono ?_
      rintro e w1 ⟨rfl, hb⟩
      have k1 : w1.cell? ⟨w.heap.size, 0, none⟩ = some (.slice a rs.length cap) := (hb.cell (p := ⟨w.heap.size, 0, none⟩) (by simp)).trans (by simp [go_sem])
      go_wp2_with fail
      refine (areTurns_c _ ts _ _ (hT0.later hb) ht).mono ?_
      rintro e w2 ⟨he, hb2⟩
      rw [H2.out] at he
      subst he
      go_wp2
      go_ret
      exact ⟨ret_int Hc.out.symm, hB0.trans ((hb.mono (by simp)).trans (hb2.mono (by have := hb.size; simp at this; omega)))⟩

theorem isSpeedNumber_d (d : Bool) (x : Int) (w : World) (hd : inB x 1 1000 = d) :
    Calls Try.prog 96 #[.int .i64 x] w fun e w' => e = .returned (.bool d) ∧ w = w' := by
  cases d
  · rw [inB_false] at hd
    by_cases h : x < 1
    · go_enter Try.func96, Try.ntmps96
      go_wp2
      go_ret
      exact ⟨rfl, rfl⟩
    · have h2 : 1000 < x := by omega
      clear hd
      go_enter Try.func96, Try.ntmps96
      go_wp2
      go_ret
      exact ⟨ret_bool (decide_eq_false (by omega)), rfl⟩
  · rw [inB_true] at hd
    obtain ⟨h1, h2⟩ := hd
    go_enter Try.func96, Try.ntmps96
    go_wp2
    go_ret
    exact ⟨rfl, rfl⟩

end Go.Proofs.Ytogpkaeodgokgaa
