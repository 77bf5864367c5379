/-
  Lines, rings and stars of program and model: lineOf, l09Line, LineGround, RingGround, StarGround.
  Conditions: none.
-/
import Derived.Test.YtieobjoijalijaaGnI
namespace Go.Proofs.Ytieobjoijalijaa
open Go.RowKit Go.Shelf
attribute [local go_sem] Oper.semAt_some

theorem line_or {k : Nat} (hk : k < 5) : bits BinOp.or IntKind.i64 ((lineN k : Nat) : Int) (2 ^ rix k (k + 1)) = ((lineN (k + 1) : Nat) : Int) := by
  have := or_bits (lineN_lt k (by omega)) (rix_lt (k + 1) (by omega) k (by omega))
  rw [show lineN (k + 1) = lineN k ||| 2 ^ rix k (k + 1) from rfl, ← this]
  simp
theorem star_or {k : Nat} (hk : k < 5) : bits BinOp.or IntKind.i64 ((starN k : Nat) : Int) (2 ^ rix 0 (k + 1)) = ((starN (k + 1) : Nat) : Int) := by
  have := or_bits (starN_lt k (by omega)) (rix_lt (k + 1) (by omega) 0 (by omega))
  rw [show starN (k + 1) = starN k ||| 2 ^ rix 0 (k + 1) from rfl, ← this]
  simp
/-- the roads of a ring of k places -/
def ringN (k : Nat) : Nat := lineN (k - 1) ||| 2 ^ rix 0 (k - 1)
theorem ring_or {k : Nat} (h3 : 3 ≤ k) (h6 : k ≤ 6) : bits BinOp.or IntKind.i64 ((lineN (k - 1) : Nat) : Int) (2 ^ rix 0 (k - 1)) = ((ringN k : Nat) : Int) := by
  have := or_bits (lineN_lt (k - 1) (by omega)) (rix_lt (k - 1) (by omega) 0 (by omega))
  unfold ringN
  rw [← this]
  simp
theorem ringN_lt : ∀ k : Nat, k ≤ 6 → ringN k < 32768 := of_decide_eq_true (by kernel_rfl)
/-- the grounds of the three functions, and their codes -/
def gdP (lo n : Int) : Int := if inB n lo 6 then n else 0
def gdC (lo n : Int) : Int := if inB n lo 6 then 0 else 2
def gdR (f : Nat → Nat) (lo n : Int) : Int := if inB n lo 6 then ((f n.toNat : Nat) : Int) else 0
theorem gd_in {lo : Int} {n : Nat} (f : Nat → Nat) (h1 : lo ≤ n) (h2 : n ≤ 6) : gdP lo n = n ∧ gdC lo n = 0 ∧ gdR f lo n = ((f n : Nat) : Int) := by
  have h : inB n lo 6 = true := inB_true.2 ⟨h1, by omega⟩
  simp [gdP, gdC, gdR, h]
theorem gd_out {lo n : Int} (f : Nat → Nat) (h : n < lo ∨ 6 < n) : gdP lo n = 0 ∧ gdC lo n = 2 ∧ gdR f lo n = 0 := by
  have h : inB n lo 6 = false := inB_false.2 h
  simp [gdP, gdC, gdR, h]
def lineF (n : Nat) : Nat := lineN (n - 1)
def starF (n : Nat) : Nat := starN (n - 1)

set_option maxRecDepth 100000 in
set_option maxHeartbeats 8000000 in
theorem lineOf_c (n : Nat) (w : World) (h1 : 1 ≤ n) (h6 : n ≤ 6) : Calls Try.prog 99 #[.int .i64 (n : Int)] w fun e w' => e = .returned (.agg #[.int .i64 (n : Int), .int .i64 ((lineN (n - 1) : Nat) : Int)]) ∧ Below w.heap.size w w' := by
  have hfw : Try.prog.follows Departure.mixedOrders = true := by kernel_rfl
  go_enter Try.func99, Try.ntmps99
  go_wp2
  obtain ⟨W0, hW0⟩ : ∃ W0, ((w.alloc (.cells #[.int .i64 0, .int .i64 0] 56)).alloc (.cells #[.int .i64 (n : Int), .int .i64 0] 56)) = W0 := ⟨_, rfl⟩
  have bR : Box2 W0 w.heap.size 56 (.int .i64 0) (.int .i64 0) := by rw [← hW0]; exact (Box2.new w _ _ _).alloc _
  have bO : Box2 W0 (w.heap.size + 1) 56 (.int .i64 (n : Int)) (.int .i64 0) := by rw [← hW0]; exact box2_at (by simp)
  have hB0 : Below w.heap.size w W0 := by rw [← hW0]; exact ((Below.refl _ w).alloc (Nat.le_refl _) _).alloc (by simp) _
  rw [hW0]
  clear hW0
  go_loopw [4] (fun q wr => ∃ k : Nat, k + 1 ≤ n ∧ q = .int .i64 ((k + 1 : Nat) : Int) ∧ Box2 wr w.heap.size 56 (.int .i64 0) (.int .i64 0) ∧ Box2 wr (w.heap.size + 1) 56 (.int .i64 (n : Int)) (.int .i64 ((lineN k : Nat) : Int)) ∧ Below w.heap.size w wr) (fun q _ => n + 1 - (intOf q).toNat)
  case atStart => exact ⟨0, by omega, rfl, bR, bO, hB0⟩
  case round =>
    obtain ⟨k, hk, rfl, bR, bO, hB⟩ := hrel
    have hsw := hB.size
    by_cases hlt : k + 1 < n
    · have hor := line_or (k := k) (by omega)
      obtain ⟨x, hx⟩ : ∃ x, lineN k = x := ⟨_, rfl⟩
      obtain ⟨y, hy⟩ : ∃ y, lineN (k + 1) = y := ⟨_, rfl⟩
      rw [hx] at bO
      rw [hx, hy] at hor
      have Hy := Lib.hid hy
      clear hx hy
      have hki : ((k : Int) + 1) < (n : Int) := by omega
      have hwk : IntKind.i64.wrap (k : Int) = (k : Int) := by rw [IntKind.wrap_i64]; omega
      have c1 : wr.drew.cell? ⟨w.heap.size + 1, 1, none⟩ = some (.int .i64 (x : Int)) := bO.c1
      have f1 : wr.drew.frozen? ⟨w.heap.size + 1, 1, none⟩ = false := bO.frozen 1
      have HB := Lib.hid hB
      have HR := Lib.hid bR
      have HO := Lib.hid bO
      clear hB bR bO
      go_wp2_with fail
      refine wp_region_held_drew (S := fun w' => Below w.heap.size w w') hfw HB.out.drew ?_
      intro hS0
      refine wpAnyH_take (i := 0) (v := ?vr10) rfl (by kernel_rfl) (by kernel_rfl) (by kernel_rfl) (fun _ _ _ h => h) (.inl ⟨by first | kernel_rfl | rfl, ?yr10⟩) hS0 ?_
      case yr10 =>
        intro w' hS
        (clear hS)
        go_simp
        try with_reducible rfl
      refine wpAnyH_take (i := 2) (v := ?vr12) rfl (by kernel_rfl) (by kernel_rfl) (by kernel_rfl) (fun _ _ _ h => h) (.inl ⟨by first | kernel_rfl | rfl, ?yr12⟩) hS0 ?_
      case yr12 =>
        intro w' hS
        (clear hS)
        go_simp
        try with_reducible rfl
      try simp only [Act.put, List.getElem_toArray, List.getElem_cons_zero, List.getElem_cons_succ, List.setIfInBounds_toArray, List.set_cons_zero, List.set_cons_succ]
      refine wpAnyH_take (i := 3) (v := (.int .i64 (k : Int))) rfl (by kernel_rfl) (by kernel_rfl) (by kernel_rfl) (fun _ _ _ h => h) (.inl ⟨by first | kernel_rfl | rfl, ?yr23⟩) hS0 ?_
      case yr23 =>
        intro w' hS
        (clear hS)
        go_simp
        first | done | (simp; done) | (simp; omega) | omega | (simp [*]; done)
      refine wpAnyH_take (i := 4) (v := ?vr34) rfl (by kernel_rfl) (by kernel_rfl) (by kernel_rfl) (fun _ _ _ h => h) (.inl ⟨by first | kernel_rfl | rfl, ?yr34⟩) hS0 ?_
      case yr34 =>
        intro w' hS
        (clear hS)
        go_simp
        try with_reducible rfl
      try simp only [Act.put, List.getElem_toArray, List.getElem_cons_zero, List.getElem_cons_succ, List.setIfInBounds_toArray, List.set_cons_zero, List.set_cons_succ]
      refine wpAnyH_ready (rs := [1, 5]) (by kernel_rfl) (by simp) ?_
      refine AllReadyH.cons rfl (fun K' hK' => ?_) (AllReadyH.cons rfl (fun K' hK' => ?_) AllReadyH.nil)
      all_goals rw [if_pos (by first | kernel_rfl | rfl)]
      · skip
        go_simp
        refine hK'.out _ _ hS0 fun _ => ?_
        clear hK'
        refine wpAnyH_ready (rs := [5]) (by kernel_rfl) (by simp) ?_
        refine AllReadyH.cons rfl (fun K' hK' => ?_) AllReadyH.nil
        rw [if_pos (by first | kernel_rfl | rfl)]
        go_simp
        refine (roadBetween_c k (k + 1) _ (by omega) (by omega)).mono ?_
        rintro e w' ⟨rfl, rfl⟩
        refine hK'.out _ _ hS0 fun _ => ?_
        clear hK'
        refine wpAnyH_take (i := 6) (v := (.int .i64 ((y : Int)))) rfl (by kernel_rfl) (by kernel_rfl) (by kernel_rfl) (fun _ _ _ h => h) (.inl ⟨by first | kernel_rfl | rfl, ?yr046⟩) hS0 ?_
        case yr046 =>
          intro w' hS
          (clear hS)
          go_simp
          first | done | (simp; done) | (simp; omega) | omega | (simp [*]; done)
        refine wpAnyH_take (i := 7) (v := ?vr057) rfl (by kernel_rfl) (by kernel_rfl) (by kernel_rfl) (fun _ _ _ h => h) (.inl ⟨by first | kernel_rfl | rfl, ?yr057⟩) hS0 ?_
        case yr057 =>
          intro w' hS
          (clear hS)
          go_simp
          try with_reducible rfl
        try simp only [Act.put, List.getElem_toArray, List.getElem_cons_zero, List.getElem_cons_succ, List.setIfInBounds_toArray, List.set_cons_zero, List.set_cons_succ]
        refine wpAnyH_ready (rs := [8]) (by kernel_rfl) (by simp) ?_
        refine AllReadyH.cons rfl (fun K' hK' => ?_) AllReadyH.nil
        rw [if_pos (by first | kernel_rfl | rfl)]
        go_simp
        refine hK'.out _ _ (hS0.setCell (p := ⟨w.heap.size + 1, 1, none⟩) (by simp; try omega) _) fun hS1 => ?_
        refine wpAnyH_done (by kernel_rfl) ?_ _
        go_wp2
        go_roundw
        case rel => exact ⟨k + 1, by omega, by simp, (HR.out.kept (grownBy_setC wr (w.heap.size + 1) 1 (.int .i64 (y : Int))) (by simp) : Box2 (wr.setCell ⟨w.heap.size + 1, 1, none⟩ (.int .i64 (y : Int))) _ _ _ _), by rw [Hy.out]; exact (HO.out.set1 (.int .i64 (y : Int)) : Box2 (wr.setCell ⟨w.heap.size + 1, 1, none⟩ (.int .i64 (y : Int))) _ _ _ _), hS1⟩
        case measure => simp [intOf]; omega
      · skip
        go_simp
        refine (roadBetween_c k (k + 1) _ (by omega) (by omega)).mono ?_
        rintro e w' ⟨rfl, rfl⟩
        refine hK'.out _ _ hS0 fun _ => ?_
        clear hK'
        refine wpAnyH_ready (rs := [1]) (by kernel_rfl) (by simp) ?_
        refine AllReadyH.cons rfl (fun K' hK' => ?_) AllReadyH.nil
        rw [if_pos (by first | kernel_rfl | rfl)]
        go_simp
        refine hK'.out _ _ hS0 fun _ => ?_
        clear hK'
        refine wpAnyH_take (i := 6) (v := (.int .i64 ((y : Int)))) rfl (by kernel_rfl) (by kernel_rfl) (by kernel_rfl) (fun _ _ _ h => h) (.inl ⟨by first | kernel_rfl | rfl, ?yr146⟩) hS0 ?_
        case yr146 =>
          intro w' hS
          (clear hS)
          go_simp
          first | done | (simp; done) | (simp; omega) | omega | (simp [*]; done)
        refine wpAnyH_take (i := 7) (v := ?vr157) rfl (by kernel_rfl) (by kernel_rfl) (by kernel_rfl) (fun _ _ _ h => h) (.inl ⟨by first | kernel_rfl | rfl, ?yr157⟩) hS0 ?_
        case yr157 =>
          intro w' hS
          (clear hS)
          go_simp
          try with_reducible rfl
        try simp only [Act.put, List.getElem_toArray, List.getElem_cons_zero, List.getElem_cons_succ, List.setIfInBounds_toArray, List.set_cons_zero, List.set_cons_succ]
        refine wpAnyH_ready (rs := [8]) (by kernel_rfl) (by simp) ?_
        refine AllReadyH.cons rfl (fun K' hK' => ?_) AllReadyH.nil
        rw [if_pos (by first | kernel_rfl | rfl)]
        go_simp
        refine hK'.out _ _ (hS0.setCell (p := ⟨w.heap.size + 1, 1, none⟩) (by simp; try omega) _) fun hS1 => ?_
        refine wpAnyH_done (by kernel_rfl) ?_ _
        go_wp2
        go_roundw
        case rel => exact ⟨k + 1, by omega, by simp, (HR.out.kept (grownBy_setC wr (w.heap.size + 1) 1 (.int .i64 (y : Int))) (by simp) : Box2 (wr.setCell ⟨w.heap.size + 1, 1, none⟩ (.int .i64 (y : Int))) _ _ _ _), by rw [Hy.out]; exact (HO.out.set1 (.int .i64 (y : Int)) : Box2 (wr.setCell ⟨w.heap.size + 1, 1, none⟩ (.int .i64 (y : Int))) _ _ _ _), hS1⟩
        case measure => simp [intOf]; omega
    · have he : n = k + 1 := by omega
      have Hn := Lib.hid (show lineN k = lineN (n - 1) by rw [he]; rfl)
      have hki : ¬ ((k : Int) + 1) < (n : Int) := by omega
      clear he hk hlt
      obtain ⟨x, hx⟩ : ∃ x, lineN k = x := ⟨_, rfl⟩
      rw [hx] at bO Hn
      clear hx
      have c0 := bO.c0
      have c1 := bO.c1
      have fR0 := bR.frozen 0
      have fR1 := bR.frozen 1
      have r0 := bR.c0
      have r1 := bR.c1
      go_wp2
      have b2 := (bR.set0 (.int .i64 (n : Int))).set1 (.int .i64 (x : Int))
      have d0 := b2.c0
      have d1 := b2.c1
      refine bodyPost_ret (v := .agg #[.int .i64 (n : Int), .int .i64 (x : Int)]) (by simp [results, Try.results99, go_sem, d0, d1]) rfl ⟨by rw [← Hn.out], ?_⟩
      exact (hB.setCell (p := ⟨w.heap.size, 0, none⟩) (by simp) _).setCell (p := ⟨w.heap.size, 1, none⟩) (by simp) _

set_option maxRecDepth 100000 in
set_option maxHeartbeats 8000000 in
theorem l09Line_c (n : Nat) (w : World) (h1 : 1 ≤ n) (h6 : n ≤ 6) : Calls Try.prog 98 #[.int .i64 (n : Int)] w fun e w' => e = .returned (.agg #[.int .i64 (n : Int), .int .i64 ((lineN (n - 1) : Nat) : Int)]) ∧ Below w.heap.size w w' := by
  have hfw : Try.prog.follows Departure.mixedOrders = true := by kernel_rfl
  go_enter Try.func98, Try.ntmps98
  go_wp2
  obtain ⟨W0, hW0⟩ : ∃ W0, ((w.alloc (.cells #[.int .i64 0, .int .i64 0] 56)).alloc (.cells #[.int .i64 (n : Int), .int .i64 0] 56)) = W0 := ⟨_, rfl⟩
  have bR : Box2 W0 w.heap.size 56 (.int .i64 0) (.int .i64 0) := by rw [← hW0]; exact (Box2.new w _ _ _).alloc _
  have bO : Box2 W0 (w.heap.size + 1) 56 (.int .i64 (n : Int)) (.int .i64 0) := by rw [← hW0]; exact box2_at (by simp)
  have hB0 : Below w.heap.size w W0 := by rw [← hW0]; exact ((Below.refl _ w).alloc (Nat.le_refl _) _).alloc (by simp) _
  rw [hW0]
  clear hW0
  go_loopw [4] (fun q wr => ∃ k : Nat, k + 1 ≤ n ∧ q = .int .i64 ((k + 1 : Nat) : Int) ∧ Box2 wr w.heap.size 56 (.int .i64 0) (.int .i64 0) ∧ Box2 wr (w.heap.size + 1) 56 (.int .i64 (n : Int)) (.int .i64 ((lineN k : Nat) : Int)) ∧ Below w.heap.size w wr) (fun q _ => n + 1 - (intOf q).toNat)
  case atStart => exact ⟨0, by omega, rfl, bR, bO, hB0⟩
  case round =>
    obtain ⟨k, hk, rfl, bR, bO, hB⟩ := hrel
    have hsw := hB.size
    by_cases hlt : k + 1 < n
    · have hor := line_or (k := k) (by omega)
      obtain ⟨x, hx⟩ : ∃ x, lineN k = x := ⟨_, rfl⟩
      obtain ⟨y, hy⟩ : ∃ y, lineN (k + 1) = y := ⟨_, rfl⟩
      rw [hx] at bO
      rw [hx, hy] at hor
      have Hy := Lib.hid hy
      clear hx hy
      have hki : ((k : Int) + 1) < (n : Int) := by omega
      have hwk : IntKind.i64.wrap (k : Int) = (k : Int) := by rw [IntKind.wrap_i64]; omega
      have c1 : wr.drew.cell? ⟨w.heap.size + 1, 1, none⟩ = some (.int .i64 (x : Int)) := bO.c1
      have f1 : wr.drew.frozen? ⟨w.heap.size + 1, 1, none⟩ = false := bO.frozen 1
      have HB := Lib.hid hB
      have HR := Lib.hid bR
      have HO := Lib.hid bO
      clear hB bR bO
      go_wp2_with fail
      refine wp_region_held_drew (S := fun w' => Below w.heap.size w w') hfw HB.out.drew ?_
      intro hS0
      refine wpAnyH_take (i := 0) (v := ?vr10) rfl (by kernel_rfl) (by kernel_rfl) (by kernel_rfl) (fun _ _ _ h => h) (.inl ⟨by first | kernel_rfl | rfl, ?yr10⟩) hS0 ?_
      case yr10 =>
        intro w' hS
        (clear hS)
        go_simp
        try with_reducible rfl
      refine wpAnyH_take (i := 2) (v := ?vr12) rfl (by kernel_rfl) (by kernel_rfl) (by kernel_rfl) (fun _ _ _ h => h) (.inl ⟨by first | kernel_rfl | rfl, ?yr12⟩) hS0 ?_
      case yr12 =>
        intro w' hS
        (clear hS)
        go_simp
        try with_reducible rfl
      try simp only [Act.put, List.getElem_toArray, List.getElem_cons_zero, List.getElem_cons_succ, List.setIfInBounds_toArray, List.set_cons_zero, List.set_cons_succ]
      refine wpAnyH_take (i := 3) (v := (.int .i64 (k : Int))) rfl (by kernel_rfl) (by kernel_rfl) (by kernel_rfl) (fun _ _ _ h => h) (.inl ⟨by first | kernel_rfl | rfl, ?yr23⟩) hS0 ?_
      case yr23 =>
        intro w' hS
        (clear hS)
        go_simp
        first | done | (simp; done) | (simp; omega) | omega | (simp [*]; done)
      refine wpAnyH_take (i := 4) (v := ?vr34) rfl (by kernel_rfl) (by kernel_rfl) (by kernel_rfl) (fun _ _ _ h => h) (.inl ⟨by first | kernel_rfl | rfl, ?yr34⟩) hS0 ?_
      case yr34 =>
        intro w' hS
        (clear hS)
        go_simp
        try with_reducible rfl
      try simp only [Act.put, List.getElem_toArray, List.getElem_cons_zero, List.getElem_cons_succ, List.setIfInBounds_toArray, List.set_cons_zero, List.set_cons_succ]
      refine wpAnyH_ready (rs := [1, 5]) (by kernel_rfl) (by simp) ?_
      refine AllReadyH.cons rfl (fun K' hK' => ?_) (AllReadyH.cons rfl (fun K' hK' => ?_) AllReadyH.nil)
      all_goals rw [if_pos (by first | kernel_rfl | rfl)]
      · skip
        go_simp
        refine hK'.out _ _ hS0 fun _ => ?_
        clear hK'
        refine wpAnyH_ready (rs := [5]) (by kernel_rfl) (by simp) ?_
        refine AllReadyH.cons rfl (fun K' hK' => ?_) AllReadyH.nil
        rw [if_pos (by first | kernel_rfl | rfl)]
        go_simp
        refine (l09Road_c k (k + 1) _ (by omega) (by omega)).mono ?_
        rintro e w' ⟨rfl, rfl⟩
        rw [show min k (k + 1) = k by omega, show max k (k + 1) = k + 1 by omega]
        refine hK'.out _ _ hS0 fun _ => ?_
        clear hK'
        refine wpAnyH_take (i := 6) (v := (.int .i64 ((y : Int)))) rfl (by kernel_rfl) (by kernel_rfl) (by kernel_rfl) (fun _ _ _ h => h) (.inl ⟨by first | kernel_rfl | rfl, ?yr046⟩) hS0 ?_
        case yr046 =>
          intro w' hS
          (clear hS)
          go_simp
          first | done | (simp; done) | (simp; omega) | omega | (simp [*]; done)
        refine wpAnyH_take (i := 7) (v := ?vr057) rfl (by kernel_rfl) (by kernel_rfl) (by kernel_rfl) (fun _ _ _ h => h) (.inl ⟨by first | kernel_rfl | rfl, ?yr057⟩) hS0 ?_
        case yr057 =>
          intro w' hS
          (clear hS)
          go_simp
          try with_reducible rfl
        try simp only [Act.put, List.getElem_toArray, List.getElem_cons_zero, List.getElem_cons_succ, List.setIfInBounds_toArray, List.set_cons_zero, List.set_cons_succ]
        refine wpAnyH_ready (rs := [8]) (by kernel_rfl) (by simp) ?_
        refine AllReadyH.cons rfl (fun K' hK' => ?_) AllReadyH.nil
        rw [if_pos (by first | kernel_rfl | rfl)]
        go_simp
        refine hK'.out _ _ (hS0.setCell (p := ⟨w.heap.size + 1, 1, none⟩) (by simp; try omega) _) fun hS1 => ?_
        refine wpAnyH_done (by kernel_rfl) ?_ _
        go_wp2
        go_roundw
        case rel => exact ⟨k + 1, by omega, by simp, (HR.out.kept (grownBy_setC wr (w.heap.size + 1) 1 (.int .i64 (y : Int))) (by simp) : Box2 (wr.setCell ⟨w.heap.size + 1, 1, none⟩ (.int .i64 (y : Int))) _ _ _ _), by rw [Hy.out]; exact (HO.out.set1 (.int .i64 (y : Int)) : Box2 (wr.setCell ⟨w.heap.size + 1, 1, none⟩ (.int .i64 (y : Int))) _ _ _ _), hS1⟩
        case measure => simp [intOf]; omega
      · skip
        go_simp
        refine (l09Road_c k (k + 1) _ (by omega) (by omega)).mono ?_
        rintro e w' ⟨rfl, rfl⟩
        rw [show min k (k + 1) = k by omega, show max k (k + 1) = k + 1 by omega]
        refine hK'.out _ _ hS0 fun _ => ?_
        clear hK'
        refine wpAnyH_ready (rs := [1]) (by kernel_rfl) (by simp) ?_
        refine AllReadyH.cons rfl (fun K' hK' => ?_) AllReadyH.nil
        rw [if_pos (by first | kernel_rfl | rfl)]
        go_simp
        refine hK'.out _ _ hS0 fun _ => ?_
        clear hK'
        refine wpAnyH_take (i := 6) (v := (.int .i64 ((y : Int)))) rfl (by kernel_rfl) (by kernel_rfl) (by kernel_rfl) (fun _ _ _ h => h) (.inl ⟨by first | kernel_rfl | rfl, ?yr146⟩) hS0 ?_
        case yr146 =>
          intro w' hS
          (clear hS)
          go_simp
          first | done | (simp; done) | (simp; omega) | omega | (simp [*]; done)
        refine wpAnyH_take (i := 7) (v := ?vr157) rfl (by kernel_rfl) (by kernel_rfl) (by kernel_rfl) (fun _ _ _ h => h) (.inl ⟨by first | kernel_rfl | rfl, ?yr157⟩) hS0 ?_
        case yr157 =>
          intro w' hS
          (clear hS)
          go_simp
          try with_reducible rfl
        try simp only [Act.put, List.getElem_toArray, List.getElem_cons_zero, List.getElem_cons_succ, List.setIfInBounds_toArray, List.set_cons_zero, List.set_cons_succ]
        refine wpAnyH_ready (rs := [8]) (by kernel_rfl) (by simp) ?_
        refine AllReadyH.cons rfl (fun K' hK' => ?_) AllReadyH.nil
        rw [if_pos (by first | kernel_rfl | rfl)]
        go_simp
        refine hK'.out _ _ (hS0.setCell (p := ⟨w.heap.size + 1, 1, none⟩) (by simp; try omega) _) fun hS1 => ?_
        refine wpAnyH_done (by kernel_rfl) ?_ _
        go_wp2
        go_roundw
        case rel => exact ⟨k + 1, by omega, by simp, (HR.out.kept (grownBy_setC wr (w.heap.size + 1) 1 (.int .i64 (y : Int))) (by simp) : Box2 (wr.setCell ⟨w.heap.size + 1, 1, none⟩ (.int .i64 (y : Int))) _ _ _ _), by rw [Hy.out]; exact (HO.out.set1 (.int .i64 (y : Int)) : Box2 (wr.setCell ⟨w.heap.size + 1, 1, none⟩ (.int .i64 (y : Int))) _ _ _ _), hS1⟩
        case measure => simp [intOf]; omega
    · have he : n = k + 1 := by omega
      have Hn := Lib.hid (show lineN k = lineN (n - 1) by rw [he]; rfl)
      have hki : ¬ ((k : Int) + 1) < (n : Int) := by omega
      clear he hk hlt
      obtain ⟨x, hx⟩ : ∃ x, lineN k = x := ⟨_, rfl⟩
      rw [hx] at bO Hn
      clear hx
      have c0 := bO.c0
      have c1 := bO.c1
      have fR0 := bR.frozen 0
      have fR1 := bR.frozen 1
      have r0 := bR.c0
      have r1 := bR.c1
      go_wp2
      have b2 := (bR.set0 (.int .i64 (n : Int))).set1 (.int .i64 (x : Int))
      have d0 := b2.c0
      have d1 := b2.c1
      refine bodyPost_ret (v := .agg #[.int .i64 (n : Int), .int .i64 (x : Int)]) (by simp [results, Try.results98, go_sem, d0, d1]) rfl ⟨by rw [← Hn.out], ?_⟩
      exact (hB.setCell (p := ⟨w.heap.size, 0, none⟩) (by simp) _).setCell (p := ⟨w.heap.size, 1, none⟩) (by simp) _

set_option maxRecDepth 100000 in
set_option maxHeartbeats 8000000 in
theorem i_LineGround (n : Int) (w : World) (_hn : I64 n) : Calls Try.prog 44 #[.int .i64 n] w fun e w' => e = .returned (.tuple #[.agg #[.int .i64 (gdP 1 n), .int .i64 (gdR lineF 1 n)], .int .i64 (gdC 1 n)]) ∧ Below w.heap.size w w' := by
  have hfw : Try.prog.follows Departure.mixedOrders = true := by kernel_rfl
  have bR0 := Box2.new w 56 (.int .i64 0) (.int .i64 0)
  have hBR := (Below.refl _ w).alloc (Nat.le_refl _) (.cells #[.int .i64 0, .int .i64 0] 56)
  obtain ⟨WR, hWR⟩ : ∃ WR, w.alloc (.cells #[.int .i64 0, .int .i64 0] 56) = WR := ⟨_, rfl⟩
  rw [hWR] at bR0 hBR
  by_cases h1 : n < 1
  · skip
    have Hg := Lib.hid (gd_out (lo := 1) lineF (.inl h1))
    have r0 := bR0.c0
    have r1 := bR0.c1
    have f0 := bR0.frozen 0
    have f1 := bR0.frozen 1
    go_enter Try.func44, Try.ntmps44
    go_wp2
    have b2 := (bR0.set0 (.int .i64 0)).set1 (.int .i64 0)
    have d0 := b2.c0
    have d1 := b2.c1
    refine bodyPost_ret (v := .tuple #[.agg #[.int .i64 (gdP 1 n), .int .i64 (gdR lineF 1 n)], .int .i64 (gdC 1 n)]) (by rw [Hg.out.1, Hg.out.2.1, Hg.out.2.2]; simp [results, Try.results44, go_sem, d0, d1]) rfl ⟨rfl, ?_⟩
    exact (hBR.setCell (p := ⟨w.heap.size, 0, none⟩) (by simp) _).setCell (p := ⟨w.heap.size, 1, none⟩) (by simp) _
  by_cases h2 : 6 < n
  · skip
    have Hg := Lib.hid (gd_out (lo := 1) lineF (.inr h2))
    have r0 := bR0.c0
    have r1 := bR0.c1
    have f0 := bR0.frozen 0
    have f1 := bR0.frozen 1
    go_enter Try.func44, Try.ntmps44
    go_wp2
    have b2 := (bR0.set0 (.int .i64 0)).set1 (.int .i64 0)
    have d0 := b2.c0
    have d1 := b2.c1
    refine bodyPost_ret (v := .tuple #[.agg #[.int .i64 (gdP 1 n), .int .i64 (gdR lineF 1 n)], .int .i64 (gdC 1 n)]) (by rw [Hg.out.1, Hg.out.2.1, Hg.out.2.2]; simp [results, Try.results44, go_sem, d0, d1]) rfl ⟨rfl, ?_⟩
    exact (hBR.setCell (p := ⟨w.heap.size, 0, none⟩) (by simp) _).setCell (p := ⟨w.heap.size, 1, none⟩) (by simp) _
  obtain ⟨n, rfl⟩ : ∃ m : Nat, n = m := ⟨n.toNat, by omega⟩
  have Hg := Lib.hid (gd_in (lo := 1) (n := n) lineF (by omega) (by omega))
  have hr1 : 1 ≤ n := by omega
  have hr2 : n ≤ 6 := by omega
  clear _hn
  go_enter Try.func44, Try.ntmps44
  go_wp2_with fail
  refine (lineOf_c n WR (by omega) (by omega)).mono ?_
  rintro e w2 ⟨rfl, hb⟩
  have bR1 := bR0.later hb
  have hB1 := hBR.trans (hb.mono hBR.size)
  obtain ⟨x, hx⟩ : ∃ x, lineN (n - 1) = x := ⟨_, rfl⟩
  have Hg := Lib.hid (show gdP 1 (n : Int) = n ∧ gdC 1 (n : Int) = 0 ∧ gdR lineF 1 (n : Int) = (x : Int) by have := Hg.out; unfold lineF at this; rw [hx] at this; exact this)
  rw [hx]
  clear hx
  have r0 := bR1.c0
  have r1 := bR1.c1
  have f0 := bR1.frozen 0
  have f1 := bR1.frozen 1
  go_wp2
  have b2 := (bR1.set0 (.int .i64 (n : Int))).set1 (.int .i64 (x : Int))
  have d0 := b2.c0
  have d1 := b2.c1
  refine bodyPost_ret (v := .tuple #[.agg #[.int .i64 (gdP 1 n), .int .i64 (gdR lineF 1 n)], .int .i64 (gdC 1 n)]) (by rw [Hg.out.1, Hg.out.2.1, Hg.out.2.2]; simp [results, Try.results44, go_sem, d0, d1]) rfl ⟨rfl, ?_⟩
  exact (hB1.setCell (p := ⟨w.heap.size, 0, none⟩) (by simp) _).setCell (p := ⟨w.heap.size, 1, none⟩) (by simp) _

set_option maxRecDepth 100000 in
set_option maxHeartbeats 8000000 in
theorem s_LineGround (n : Int) (w : World) (_hn : I64 n) : Calls Try.prog 43 #[.int .i64 n] w fun e w' => e = .returned (.tuple #[.agg #[.int .i64 (gdP 1 n), .int .i64 (gdR lineF 1 n)], .int .i64 (gdC 1 n)]) ∧ Below w.heap.size w w' := by
  have hfw : Try.prog.follows Departure.mixedOrders = true := by kernel_rfl
  have bR0 := Box2.new w 56 (.int .i64 0) (.int .i64 0)
  have hBR := (Below.refl _ w).alloc (Nat.le_refl _) (.cells #[.int .i64 0, .int .i64 0] 56)
  obtain ⟨WR, hWR⟩ : ∃ WR, w.alloc (.cells #[.int .i64 0, .int .i64 0] 56) = WR := ⟨_, rfl⟩
  rw [hWR] at bR0 hBR
  by_cases h12 : n < 1 ∨ 6 < n
  · skip
    have Hg := Lib.hid (gd_out (lo := 1) lineF (h12))
    have r0 := bR0.c0
    have r1 := bR0.c1
    have f0 := bR0.frozen 0
    have f1 := bR0.frozen 1
    go_enter Try.func43, Try.ntmps43
    go_wp2_with fail
    refine (l01In_d false _ _ _ _ (inB_false.2 (h12))).mono ?_
    rintro e w1 ⟨rfl, rfl⟩
    go_wp2
    have b2 := (bR0.set0 (.int .i64 0)).set1 (.int .i64 0)
    have d0 := b2.c0
    have d1 := b2.c1
    refine bodyPost_ret (v := .tuple #[.agg #[.int .i64 (gdP 1 n), .int .i64 (gdR lineF 1 n)], .int .i64 (gdC 1 n)]) (by rw [Hg.out.1, Hg.out.2.1, Hg.out.2.2]; simp [results, Try.results43, go_sem, d0, d1]) rfl ⟨rfl, ?_⟩
    exact (hBR.setCell (p := ⟨w.heap.size, 0, none⟩) (by simp) _).setCell (p := ⟨w.heap.size, 1, none⟩) (by simp) _
  obtain ⟨n, rfl⟩ : ∃ m : Nat, n = m := ⟨n.toNat, by omega⟩
  have Hg := Lib.hid (gd_in (lo := 1) (n := n) lineF (by omega) (by omega))
  have hr1 : 1 ≤ n := by omega
  have hr2 : n ≤ 6 := by omega
  clear _hn h12
  go_enter Try.func43, Try.ntmps43
  go_wp2_with fail
  refine (l01In_d true _ _ _ _ (inB_true.2 ⟨by omega, by omega⟩)).mono ?_
  rintro e w1 ⟨rfl, rfl⟩
  go_wp2_with fail
  refine (l09Line_c n WR (by omega) (by omega)).mono ?_
  rintro e w2 ⟨rfl, hb⟩
  have bR1 := bR0.later hb
  have hB1 := hBR.trans (hb.mono hBR.size)
  obtain ⟨x, hx⟩ : ∃ x, lineN (n - 1) = x := ⟨_, rfl⟩
  have Hg := Lib.hid (show gdP 1 (n : Int) = n ∧ gdC 1 (n : Int) = 0 ∧ gdR lineF 1 (n : Int) = (x : Int) by have := Hg.out; unfold lineF at this; rw [hx] at this; exact this)
  rw [hx]
  clear hx
  have r0 := bR1.c0
  have r1 := bR1.c1
  have f0 := bR1.frozen 0
  have f1 := bR1.frozen 1
  go_wp2
  have b2 := (bR1.set0 (.int .i64 (n : Int))).set1 (.int .i64 (x : Int))
  have d0 := b2.c0
  have d1 := b2.c1
  refine bodyPost_ret (v := .tuple #[.agg #[.int .i64 (gdP 1 n), .int .i64 (gdR lineF 1 n)], .int .i64 (gdC 1 n)]) (by rw [Hg.out.1, Hg.out.2.1, Hg.out.2.2]; simp [results, Try.results43, go_sem, d0, d1]) rfl ⟨rfl, ?_⟩
  exact (hB1.setCell (p := ⟨w.heap.size, 0, none⟩) (by simp) _).setCell (p := ⟨w.heap.size, 1, none⟩) (by simp) _

set_option maxRecDepth 100000 in
set_option maxHeartbeats 8000000 in
theorem i_StarGround (n : Int) (w : World) (_hn : I64 n) : Calls Try.prog 49 #[.int .i64 n] w fun e w' => e = .returned (.tuple #[.agg #[.int .i64 (gdP 1 n), .int .i64 (gdR starF 1 n)], .int .i64 (gdC 1 n)]) ∧ Below w.heap.size w w' := by
  have hfw : Try.prog.follows Departure.mixedOrders = true := by kernel_rfl
  have bR0 := Box2.new w 56 (.int .i64 0) (.int .i64 0)
  have hBR := (Below.refl _ w).alloc (Nat.le_refl _) (.cells #[.int .i64 0, .int .i64 0] 56)
  obtain ⟨WR, hWR⟩ : ∃ WR, w.alloc (.cells #[.int .i64 0, .int .i64 0] 56) = WR := ⟨_, rfl⟩
  rw [hWR] at bR0 hBR
  by_cases h1 : n < 1
  · skip
    have Hg := Lib.hid (gd_out (lo := 1) starF (.inl h1))
    have r0 := bR0.c0
    have r1 := bR0.c1
    have f0 := bR0.frozen 0
    have f1 := bR0.frozen 1
    go_enter Try.func49, Try.ntmps49
    go_wp2
    have b2 := (bR0.set0 (.int .i64 0)).set1 (.int .i64 0)
    have d0 := b2.c0
    have d1 := b2.c1
    refine bodyPost_ret (v := .tuple #[.agg #[.int .i64 (gdP 1 n), .int .i64 (gdR starF 1 n)], .int .i64 (gdC 1 n)]) (by rw [Hg.out.1, Hg.out.2.1, Hg.out.2.2]; simp [results, Try.results49, go_sem, d0, d1]) rfl ⟨rfl, ?_⟩
    exact (hBR.setCell (p := ⟨w.heap.size, 0, none⟩) (by simp) _).setCell (p := ⟨w.heap.size, 1, none⟩) (by simp) _
  by_cases h2 : 6 < n
  · skip
    have Hg := Lib.hid (gd_out (lo := 1) starF (.inr h2))
    have r0 := bR0.c0
    have r1 := bR0.c1
    have f0 := bR0.frozen 0
    have f1 := bR0.frozen 1
    go_enter Try.func49, Try.ntmps49
    go_wp2
    have b2 := (bR0.set0 (.int .i64 0)).set1 (.int .i64 0)
    have d0 := b2.c0
    have d1 := b2.c1
    refine bodyPost_ret (v := .tuple #[.agg #[.int .i64 (gdP 1 n), .int .i64 (gdR starF 1 n)], .int .i64 (gdC 1 n)]) (by rw [Hg.out.1, Hg.out.2.1, Hg.out.2.2]; simp [results, Try.results49, go_sem, d0, d1]) rfl ⟨rfl, ?_⟩
    exact (hBR.setCell (p := ⟨w.heap.size, 0, none⟩) (by simp) _).setCell (p := ⟨w.heap.size, 1, none⟩) (by simp) _
  obtain ⟨n, rfl⟩ : ∃ m : Nat, n = m := ⟨n.toNat, by omega⟩
  have Hg := Lib.hid (gd_in (lo := 1) (n := n) starF (by omega) (by omega))
  have hr1 : 1 ≤ n := by omega
  have hr2 : n ≤ 6 := by omega
  clear _hn
  go_enter Try.func49, Try.ntmps49
  go_wp2_with fail
  obtain ⟨W0, hW0⟩ : ∃ W0, WR.alloc (.cells #[.int .i64 (n : Int), .int .i64 0] 56) = W0 := ⟨_, rfl⟩
  have hz : WR.heap.size = w.heap.size + 1 := by rw [← hWR]; simp
  have bR : Box2 W0 w.heap.size 56 (.int .i64 0) (.int .i64 0) := by rw [← hW0]; exact bR0.alloc _
  have bO : Box2 W0 (w.heap.size + 1) 56 (.int .i64 (n : Int)) (.int .i64 0) := by rw [← hW0]; exact box2_at (by rw [hz])
  have hB0 : Below w.heap.size w W0 := by rw [← hW0]; exact hBR.alloc hBR.size _
  rw [hz]
  first | rw [hW0] | skip
  clear hW0 hWR hz bR0 hBR
  go_loopw [5] (fun q wr => ∃ k : Nat, k + 1 ≤ n ∧ q = .int .i64 ((k + 1 : Nat) : Int) ∧ Box2 wr w.heap.size 56 (.int .i64 0) (.int .i64 0) ∧ Box2 wr (w.heap.size + 1) 56 (.int .i64 (n : Int)) (.int .i64 ((starN k : Nat) : Int)) ∧ Below w.heap.size w wr) (fun q _ => n + 1 - (intOf q).toNat)
  case atStart => exact ⟨0, by omega, rfl, bR, bO, hB0⟩
  case round =>
    obtain ⟨k, hk, rfl, bR, bO, hB⟩ := hrel
    have hsw := hB.size
    by_cases hlt : k + 1 < n
    · have hor := star_or (k := k) (by omega)
      obtain ⟨x, hx⟩ : ∃ x, starN k = x := ⟨_, rfl⟩
      obtain ⟨y, hy⟩ : ∃ y, starN (k + 1) = y := ⟨_, rfl⟩
      rw [hx] at bO
      rw [hx, hy] at hor
      have Hy := Lib.hid hy
      clear hx hy
      have hki : ((k : Int) + 1) < (n : Int) := by omega
      have c1 : wr.drew.cell? ⟨w.heap.size + 1, 1, none⟩ = some (.int .i64 (x : Int)) := bO.c1
      have f1 : wr.drew.frozen? ⟨w.heap.size + 1, 1, none⟩ = false := bO.frozen 1
      have HB := Lib.hid hB
      have HR := Lib.hid bR
      have HO := Lib.hid bO
      clear hB bR bO
      go_wp2_with fail
      refine wp_region_held_drew (S := fun w' => Below w.heap.size w w') hfw HB.out.drew ?_
      intro hS0
      refine wpAnyH_take (i := 0) (v := ?vr10) rfl (by kernel_rfl) (by kernel_rfl) (by kernel_rfl) (fun _ _ _ h => h) (.inl ⟨by first | kernel_rfl | rfl, ?yr10⟩) hS0 ?_
      case yr10 =>
        intro w' hS
        (clear hS)
        go_simp
        try with_reducible rfl
      refine wpAnyH_take (i := 2) (v := ?vr12) rfl (by kernel_rfl) (by kernel_rfl) (by kernel_rfl) (fun _ _ _ h => h) (.inl ⟨by first | kernel_rfl | rfl, ?yr12⟩) hS0 ?_
      case yr12 =>
        intro w' hS
        (clear hS)
        go_simp
        try with_reducible rfl
      try simp only [Act.put, List.getElem_toArray, List.getElem_cons_zero, List.getElem_cons_succ, List.setIfInBounds_toArray, List.set_cons_zero, List.set_cons_succ]
      refine wpAnyH_ready (rs := [1, 3]) (by kernel_rfl) (by simp) ?_
      refine AllReadyH.cons rfl (fun K' hK' => ?_) (AllReadyH.cons rfl (fun K' hK' => ?_) AllReadyH.nil)
      all_goals rw [if_pos (by first | kernel_rfl | rfl)]
      · skip
        go_simp
        refine hK'.out _ _ hS0 fun _ => ?_
        clear hK'
        refine wpAnyH_ready (rs := [3]) (by kernel_rfl) (by simp) ?_
        refine AllReadyH.cons rfl (fun K' hK' => ?_) AllReadyH.nil
        rw [if_pos (by first | kernel_rfl | rfl)]
        go_simp
        refine (roadBetween_c 0 (k + 1) _ (by omega) (by omega)).mono ?_
        rintro e w' ⟨rfl, rfl⟩
        refine hK'.out _ _ hS0 fun _ => ?_
        clear hK'
        refine wpAnyH_take (i := 4) (v := (.int .i64 ((y : Int)))) rfl (by kernel_rfl) (by kernel_rfl) (by kernel_rfl) (fun _ _ _ h => h) (.inl ⟨by first | kernel_rfl | rfl, ?yr044⟩) hS0 ?_
        case yr044 =>
          intro w' hS
          (clear hS)
          go_simp
          first | done | (simp; done) | (simp; omega) | omega | (simp [*]; done)
        refine wpAnyH_take (i := 5) (v := ?vr055) rfl (by kernel_rfl) (by kernel_rfl) (by kernel_rfl) (fun _ _ _ h => h) (.inl ⟨by first | kernel_rfl | rfl, ?yr055⟩) hS0 ?_
        case yr055 =>
          intro w' hS
          (clear hS)
          go_simp
          try with_reducible rfl
        try simp only [Act.put, List.getElem_toArray, List.getElem_cons_zero, List.getElem_cons_succ, List.setIfInBounds_toArray, List.set_cons_zero, List.set_cons_succ]
        refine wpAnyH_ready (rs := [6]) (by kernel_rfl) (by simp) ?_
        refine AllReadyH.cons rfl (fun K' hK' => ?_) AllReadyH.nil
        rw [if_pos (by first | kernel_rfl | rfl)]
        go_simp
        refine hK'.out _ _ (hS0.setCell (p := ⟨w.heap.size + 1, 1, none⟩) (by simp; try omega) _) fun hS1 => ?_
        refine wpAnyH_done (by kernel_rfl) ?_ _
        go_wp2
        go_roundw
        case rel => exact ⟨k + 1, by omega, by simp, (HR.out.kept (grownBy_setC wr (w.heap.size + 1) 1 (.int .i64 (y : Int))) (by simp) : Box2 (wr.setCell ⟨w.heap.size + 1, 1, none⟩ (.int .i64 (y : Int))) _ _ _ _), by rw [Hy.out]; exact (HO.out.set1 (.int .i64 (y : Int)) : Box2 (wr.setCell ⟨w.heap.size + 1, 1, none⟩ (.int .i64 (y : Int))) _ _ _ _), hS1⟩
        case measure => simp [intOf]; omega
      · skip
        go_simp
        refine (roadBetween_c 0 (k + 1) _ (by omega) (by omega)).mono ?_
        rintro e w' ⟨rfl, rfl⟩
        refine hK'.out _ _ hS0 fun _ => ?_
        clear hK'
        refine wpAnyH_ready (rs := [1]) (by kernel_rfl) (by simp) ?_
        refine AllReadyH.cons rfl (fun K' hK' => ?_) AllReadyH.nil
        rw [if_pos (by first | kernel_rfl | rfl)]
        go_simp
        refine hK'.out _ _ hS0 fun _ => ?_
        clear hK'
        refine wpAnyH_take (i := 4) (v := (.int .i64 ((y : Int)))) rfl (by kernel_rfl) (by kernel_rfl) (by kernel_rfl) (fun _ _ _ h => h) (.inl ⟨by first | kernel_rfl | rfl, ?yr144⟩) hS0 ?_
        case yr144 =>
          intro w' hS
          (clear hS)
          go_simp
          first | done | (simp; done) | (simp; omega) | omega | (simp [*]; done)
        refine wpAnyH_take (i := 5) (v := ?vr155) rfl (by kernel_rfl) (by kernel_rfl) (by kernel_rfl) (fun _ _ _ h => h) (.inl ⟨by first | kernel_rfl | rfl, ?yr155⟩) hS0 ?_
        case yr155 =>
          intro w' hS
          (clear hS)
          go_simp
          try with_reducible rfl
        try simp only [Act.put, List.getElem_toArray, List.getElem_cons_zero, List.getElem_cons_succ, List.setIfInBounds_toArray, List.set_cons_zero, List.set_cons_succ]
        refine wpAnyH_ready (rs := [6]) (by kernel_rfl) (by simp) ?_
        refine AllReadyH.cons rfl (fun K' hK' => ?_) AllReadyH.nil
        rw [if_pos (by first | kernel_rfl | rfl)]
        go_simp
        refine hK'.out _ _ (hS0.setCell (p := ⟨w.heap.size + 1, 1, none⟩) (by simp; try omega) _) fun hS1 => ?_
        refine wpAnyH_done (by kernel_rfl) ?_ _
        go_wp2
        go_roundw
        case rel => exact ⟨k + 1, by omega, by simp, (HR.out.kept (grownBy_setC wr (w.heap.size + 1) 1 (.int .i64 (y : Int))) (by simp) : Box2 (wr.setCell ⟨w.heap.size + 1, 1, none⟩ (.int .i64 (y : Int))) _ _ _ _), by rw [Hy.out]; exact (HO.out.set1 (.int .i64 (y : Int)) : Box2 (wr.setCell ⟨w.heap.size + 1, 1, none⟩ (.int .i64 (y : Int))) _ _ _ _), hS1⟩
        case measure => simp [intOf]; omega
    · have he : n = k + 1 := by omega
      have Hn := Lib.hid (show starN k = starN (n - 1) by rw [he]; rfl)
      have hki : ¬ ((k : Int) + 1) < (n : Int) := by omega
      clear he hk hlt
      obtain ⟨x, hx⟩ : ∃ x, starN k = x := ⟨_, rfl⟩
      rw [hx] at bO Hn
      clear hx
      have Hg := Lib.hid (show gdP 1 (n : Int) = n ∧ gdC 1 (n : Int) = 0 ∧ gdR starF 1 (n : Int) = (x : Int) by have := Hg.out; unfold starF at this; rw [← Hn.out] at this; exact this)
      have c0 := bO.c0
      have c1 := bO.c1
      have fR0 := bR.frozen 0
      have fR1 := bR.frozen 1
      have r0 := bR.c0
      have r1 := bR.c1
      go_wp2
      have b2 := (bR.set0 (.int .i64 (n : Int))).set1 (.int .i64 (x : Int))
      have d0 := b2.c0
      have d1 := b2.c1
      refine bodyPost_ret (v := .tuple #[.agg #[.int .i64 (gdP 1 n), .int .i64 (gdR starF 1 n)], .int .i64 (gdC 1 n)]) (by rw [Hg.out.1, Hg.out.2.1, Hg.out.2.2]; simp [results, Try.results49, go_sem, d0, d1]) rfl ⟨rfl, ?_⟩
      exact (hB.setCell (p := ⟨w.heap.size, 0, none⟩) (by simp) _).setCell (p := ⟨w.heap.size, 1, none⟩) (by simp) _

set_option maxRecDepth 100000 in
set_option maxHeartbeats 8000000 in
theorem s_StarGround (n : Int) (w : World) (_hn : I64 n) : Calls Try.prog 48 #[.int .i64 n] w fun e w' => e = .returned (.tuple #[.agg #[.int .i64 (gdP 1 n), .int .i64 (gdR starF 1 n)], .int .i64 (gdC 1 n)]) ∧ Below w.heap.size w w' := by
  have hfw : Try.prog.follows Departure.mixedOrders = true := by kernel_rfl
  have bR0 := Box2.new w 56 (.int .i64 0) (.int .i64 0)
  have hBR := (Below.refl _ w).alloc (Nat.le_refl _) (.cells #[.int .i64 0, .int .i64 0] 56)
  obtain ⟨WR, hWR⟩ : ∃ WR, w.alloc (.cells #[.int .i64 0, .int .i64 0] 56) = WR := ⟨_, rfl⟩
  rw [hWR] at bR0 hBR
  by_cases h12 : n < 1 ∨ 6 < n
  · skip
    have Hg := Lib.hid (gd_out (lo := 1) starF (h12))
    have r0 := bR0.c0
    have r1 := bR0.c1
    have f0 := bR0.frozen 0
    have f1 := bR0.frozen 1
    go_enter Try.func48, Try.ntmps48
    go_wp2_with fail
    refine (l01In_d false _ _ _ _ (inB_false.2 (h12))).mono ?_
    rintro e w1 ⟨rfl, rfl⟩
    go_wp2
    have b2 := (bR0.set0 (.int .i64 0)).set1 (.int .i64 0)
    have d0 := b2.c0
    have d1 := b2.c1
    refine bodyPost_ret (v := .tuple #[.agg #[.int .i64 (gdP 1 n), .int .i64 (gdR starF 1 n)], .int .i64 (gdC 1 n)]) (by rw [Hg.out.1, Hg.out.2.1, Hg.out.2.2]; simp [results, Try.results48, go_sem, d0, d1]) rfl ⟨rfl, ?_⟩
    exact (hBR.setCell (p := ⟨w.heap.size, 0, none⟩) (by simp) _).setCell (p := ⟨w.heap.size, 1, none⟩) (by simp) _
  obtain ⟨n, rfl⟩ : ∃ m : Nat, n = m := ⟨n.toNat, by omega⟩
  have Hg := Lib.hid (gd_in (lo := 1) (n := n) starF (by omega) (by omega))
  have hr1 : 1 ≤ n := by omega
  have hr2 : n ≤ 6 := by omega
  clear _hn h12
  go_enter Try.func48, Try.ntmps48
  go_wp2_with fail
  refine (l01In_d true _ _ _ _ (inB_true.2 ⟨by omega, by omega⟩)).mono ?_
  rintro e w1 ⟨rfl, rfl⟩
  go_wp2_with fail
  obtain ⟨W0, hW0⟩ : ∃ W0, WR.alloc (.cells #[.int .i64 (n : Int), .int .i64 0] 56) = W0 := ⟨_, rfl⟩
  have hz : WR.heap.size = w.heap.size + 1 := by rw [← hWR]; simp
  have bR : Box2 W0 w.heap.size 56 (.int .i64 0) (.int .i64 0) := by rw [← hW0]; exact bR0.alloc _
  have bO : Box2 W0 (w.heap.size + 1) 56 (.int .i64 (n : Int)) (.int .i64 0) := by rw [← hW0]; exact box2_at (by rw [hz])
  have hB0 : Below w.heap.size w W0 := by rw [← hW0]; exact hBR.alloc hBR.size _
  rw [hz]
  first | rw [hW0] | skip
  clear hW0 hWR hz bR0 hBR
  go_loopw [5] (fun q wr => ∃ k : Nat, k + 1 ≤ n ∧ q = .int .i64 ((k + 1 : Nat) : Int) ∧ Box2 wr w.heap.size 56 (.int .i64 0) (.int .i64 0) ∧ Box2 wr (w.heap.size + 1) 56 (.int .i64 (n : Int)) (.int .i64 ((starN k : Nat) : Int)) ∧ Below w.heap.size w wr) (fun q _ => n + 1 - (intOf q).toNat)
  case atStart => exact ⟨0, by omega, rfl, bR, bO, hB0⟩
  case round =>
    obtain ⟨k, hk, rfl, bR, bO, hB⟩ := hrel
    have hsw := hB.size
    by_cases hlt : k + 1 < n
    · have hor := star_or (k := k) (by omega)
      obtain ⟨x, hx⟩ : ∃ x, starN k = x := ⟨_, rfl⟩
      obtain ⟨y, hy⟩ : ∃ y, starN (k + 1) = y := ⟨_, rfl⟩
      rw [hx] at bO
      rw [hx, hy] at hor
      have Hy := Lib.hid hy
      clear hx hy
      have hki : ((k : Int) + 1) < (n : Int) := by omega
      have c1 : wr.drew.cell? ⟨w.heap.size + 1, 1, none⟩ = some (.int .i64 (x : Int)) := bO.c1
      have f1 : wr.drew.frozen? ⟨w.heap.size + 1, 1, none⟩ = false := bO.frozen 1
      have HB := Lib.hid hB
      have HR := Lib.hid bR
      have HO := Lib.hid bO
      clear hB bR bO
      go_wp2_with fail
      refine wp_region_held_drew (S := fun w' => Below w.heap.size w w') hfw HB.out.drew ?_
      intro hS0
      refine wpAnyH_take (i := 0) (v := ?vr10) rfl (by kernel_rfl) (by kernel_rfl) (by kernel_rfl) (fun _ _ _ h => h) (.inl ⟨by first | kernel_rfl | rfl, ?yr10⟩) hS0 ?_
      case yr10 =>
        intro w' hS
        (clear hS)
        go_simp
        try with_reducible rfl
      refine wpAnyH_take (i := 2) (v := ?vr12) rfl (by kernel_rfl) (by kernel_rfl) (by kernel_rfl) (fun _ _ _ h => h) (.inl ⟨by first | kernel_rfl | rfl, ?yr12⟩) hS0 ?_
      case yr12 =>
        intro w' hS
        (clear hS)
        go_simp
        try with_reducible rfl
      try simp only [Act.put, List.getElem_toArray, List.getElem_cons_zero, List.getElem_cons_succ, List.setIfInBounds_toArray, List.set_cons_zero, List.set_cons_succ]
      refine wpAnyH_ready (rs := [1, 3]) (by kernel_rfl) (by simp) ?_
      refine AllReadyH.cons rfl (fun K' hK' => ?_) (AllReadyH.cons rfl (fun K' hK' => ?_) AllReadyH.nil)
      all_goals rw [if_pos (by first | kernel_rfl | rfl)]
      · skip
        go_simp
        refine hK'.out _ _ hS0 fun _ => ?_
        clear hK'
        refine wpAnyH_ready (rs := [3]) (by kernel_rfl) (by simp) ?_
        refine AllReadyH.cons rfl (fun K' hK' => ?_) AllReadyH.nil
        rw [if_pos (by first | kernel_rfl | rfl)]
        go_simp
        refine (l09Road_c 0 (k + 1) _ (by omega) (by omega)).mono ?_
        rintro e w' ⟨rfl, rfl⟩
        rw [show min 0 (k + 1) = 0 by omega, show max 0 (k + 1) = k + 1 by omega]
        refine hK'.out _ _ hS0 fun _ => ?_
        clear hK'
        refine wpAnyH_take (i := 4) (v := (.int .i64 ((y : Int)))) rfl (by kernel_rfl) (by kernel_rfl) (by kernel_rfl) (fun _ _ _ h => h) (.inl ⟨by first | kernel_rfl | rfl, ?yr044⟩) hS0 ?_
        case yr044 =>
          intro w' hS
          (clear hS)
          go_simp
          first | done | (simp; done) | (simp; omega) | omega | (simp [*]; done)
        refine wpAnyH_take (i := 5) (v := ?vr055) rfl (by kernel_rfl) (by kernel_rfl) (by kernel_rfl) (fun _ _ _ h => h) (.inl ⟨by first | kernel_rfl | rfl, ?yr055⟩) hS0 ?_
        case yr055 =>
          intro w' hS
          (clear hS)
          go_simp
          try with_reducible rfl
        try simp only [Act.put, List.getElem_toArray, List.getElem_cons_zero, List.getElem_cons_succ, List.setIfInBounds_toArray, List.set_cons_zero, List.set_cons_succ]
        refine wpAnyH_ready (rs := [6]) (by kernel_rfl) (by simp) ?_
        refine AllReadyH.cons rfl (fun K' hK' => ?_) AllReadyH.nil
        rw [if_pos (by first | kernel_rfl | rfl)]
        go_simp
        refine hK'.out _ _ (hS0.setCell (p := ⟨w.heap.size + 1, 1, none⟩) (by simp; try omega) _) fun hS1 => ?_
        refine wpAnyH_done (by kernel_rfl) ?_ _
        go_wp2
        go_roundw
        case rel => exact ⟨k + 1, by omega, by simp, (HR.out.kept (grownBy_setC wr (w.heap.size + 1) 1 (.int .i64 (y : Int))) (by simp) : Box2 (wr.setCell ⟨w.heap.size + 1, 1, none⟩ (.int .i64 (y : Int))) _ _ _ _), by rw [Hy.out]; exact (HO.out.set1 (.int .i64 (y : Int)) : Box2 (wr.setCell ⟨w.heap.size + 1, 1, none⟩ (.int .i64 (y : Int))) _ _ _ _), hS1⟩
        case measure => simp [intOf]; omega
      · skip
        go_simp
        refine (l09Road_c 0 (k + 1) _ (by omega) (by omega)).mono ?_
        rintro e w' ⟨rfl, rfl⟩
        rw [show min 0 (k + 1) = 0 by omega, show max 0 (k + 1) = k + 1 by omega]
        refine hK'.out _ _ hS0 fun _ => ?_
        clear hK'
        refine wpAnyH_ready (rs := [1]) (by kernel_rfl) (by simp) ?_
        refine AllReadyH.cons rfl (fun K' hK' => ?_) AllReadyH.nil
        rw [if_pos (by first | kernel_rfl | rfl)]
        go_simp
        refine hK'.out _ _ hS0 fun _ => ?_
        clear hK'
        refine wpAnyH_take (i := 4) (v := (.int .i64 ((y : Int)))) rfl (by kernel_rfl) (by kernel_rfl) (by kernel_rfl) (fun _ _ _ h => h) (.inl ⟨by first | kernel_rfl | rfl, ?yr144⟩) hS0 ?_
        case yr144 =>
          intro w' hS
          (clear hS)
          go_simp
          first | done | (simp; done) | (simp; omega) | omega | (simp [*]; done)
        refine wpAnyH_take (i := 5) (v := ?vr155) rfl (by kernel_rfl) (by kernel_rfl) (by kernel_rfl) (fun _ _ _ h => h) (.inl ⟨by first | kernel_rfl | rfl, ?yr155⟩) hS0 ?_
        case yr155 =>
          intro w' hS
          (clear hS)
          go_simp
          try with_reducible rfl
        try simp only [Act.put, List.getElem_toArray, List.getElem_cons_zero, List.getElem_cons_succ, List.setIfInBounds_toArray, List.set_cons_zero, List.set_cons_succ]
        refine wpAnyH_ready (rs := [6]) (by kernel_rfl) (by simp) ?_
        refine AllReadyH.cons rfl (fun K' hK' => ?_) AllReadyH.nil
        rw [if_pos (by first | kernel_rfl | rfl)]
        go_simp
        refine hK'.out _ _ (hS0.setCell (p := ⟨w.heap.size + 1, 1, none⟩) (by simp; try omega) _) fun hS1 => ?_
        refine wpAnyH_done (by kernel_rfl) ?_ _
        go_wp2
        go_roundw
        case rel => exact ⟨k + 1, by omega, by simp, (HR.out.kept (grownBy_setC wr (w.heap.size + 1) 1 (.int .i64 (y : Int))) (by simp) : Box2 (wr.setCell ⟨w.heap.size + 1, 1, none⟩ (.int .i64 (y : Int))) _ _ _ _), by rw [Hy.out]; exact (HO.out.set1 (.int .i64 (y : Int)) : Box2 (wr.setCell ⟨w.heap.size + 1, 1, none⟩ (.int .i64 (y : Int))) _ _ _ _), hS1⟩
        case measure => simp [intOf]; omega
    · have he : n = k + 1 := by omega
      have Hn := Lib.hid (show starN k = starN (n - 1) by rw [he]; rfl)
      have hki : ¬ ((k : Int) + 1) < (n : Int) := by omega
      clear he hk hlt
      obtain ⟨x, hx⟩ : ∃ x, starN k = x := ⟨_, rfl⟩
      rw [hx] at bO Hn
      clear hx
      have Hg := Lib.hid (show gdP 1 (n : Int) = n ∧ gdC 1 (n : Int) = 0 ∧ gdR starF 1 (n : Int) = (x : Int) by have := Hg.out; unfold starF at this; rw [← Hn.out] at this; exact this)
      have c0 := bO.c0
      have c1 := bO.c1
      have fR0 := bR.frozen 0
      have fR1 := bR.frozen 1
      have r0 := bR.c0
      have r1 := bR.c1
      go_wp2
      have b2 := (bR.set0 (.int .i64 (n : Int))).set1 (.int .i64 (x : Int))
      have d0 := b2.c0
      have d1 := b2.c1
      refine bodyPost_ret (v := .tuple #[.agg #[.int .i64 (gdP 1 n), .int .i64 (gdR starF 1 n)], .int .i64 (gdC 1 n)]) (by rw [Hg.out.1, Hg.out.2.1, Hg.out.2.2]; simp [results, Try.results48, go_sem, d0, d1]) rfl ⟨rfl, ?_⟩
      exact (hB.setCell (p := ⟨w.heap.size, 0, none⟩) (by simp) _).setCell (p := ⟨w.heap.size, 1, none⟩) (by simp) _

set_option maxRecDepth 100000 in
set_option maxHeartbeats 8000000 in
theorem i_RingGround (n : Int) (w : World) (_hn : I64 n) : Calls Try.prog 47 #[.int .i64 n] w fun e w' => e = .returned (.tuple #[.agg #[.int .i64 (gdP 3 n), .int .i64 (gdR ringN 3 n)], .int .i64 (gdC 3 n)]) ∧ Below w.heap.size w w' := by
  have hfw : Try.prog.follows Departure.mixedOrders = true := by kernel_rfl
  have bR0 := Box2.new w 56 (.int .i64 0) (.int .i64 0)
  have hBR := (Below.refl _ w).alloc (Nat.le_refl _) (.cells #[.int .i64 0, .int .i64 0] 56)
  obtain ⟨WR, hWR⟩ : ∃ WR, w.alloc (.cells #[.int .i64 0, .int .i64 0] 56) = WR := ⟨_, rfl⟩
  rw [hWR] at bR0 hBR
  by_cases h1 : n < 3
  · skip
    have Hg := Lib.hid (gd_out (lo := 3) ringN (.inl h1))
    have r0 := bR0.c0
    have r1 := bR0.c1
    have f0 := bR0.frozen 0
    have f1 := bR0.frozen 1
    go_enter Try.func47, Try.ntmps47
    go_wp2
    have b2 := (bR0.set0 (.int .i64 0)).set1 (.int .i64 0)
    have d0 := b2.c0
    have d1 := b2.c1
    refine bodyPost_ret (v := .tuple #[.agg #[.int .i64 (gdP 3 n), .int .i64 (gdR ringN 3 n)], .int .i64 (gdC 3 n)]) (by rw [Hg.out.1, Hg.out.2.1, Hg.out.2.2]; simp [results, Try.results47, go_sem, d0, d1]) rfl ⟨rfl, ?_⟩
    exact (hBR.setCell (p := ⟨w.heap.size, 0, none⟩) (by simp) _).setCell (p := ⟨w.heap.size, 1, none⟩) (by simp) _
  by_cases h2 : 6 < n
  · skip
    have Hg := Lib.hid (gd_out (lo := 3) ringN (.inr h2))
    have r0 := bR0.c0
    have r1 := bR0.c1
    have f0 := bR0.frozen 0
    have f1 := bR0.frozen 1
    go_enter Try.func47, Try.ntmps47
    go_wp2
    have b2 := (bR0.set0 (.int .i64 0)).set1 (.int .i64 0)
    have d0 := b2.c0
    have d1 := b2.c1
    refine bodyPost_ret (v := .tuple #[.agg #[.int .i64 (gdP 3 n), .int .i64 (gdR ringN 3 n)], .int .i64 (gdC 3 n)]) (by rw [Hg.out.1, Hg.out.2.1, Hg.out.2.2]; simp [results, Try.results47, go_sem, d0, d1]) rfl ⟨rfl, ?_⟩
    exact (hBR.setCell (p := ⟨w.heap.size, 0, none⟩) (by simp) _).setCell (p := ⟨w.heap.size, 1, none⟩) (by simp) _
  obtain ⟨n, rfl⟩ : ∃ m : Nat, n = m := ⟨n.toNat, by omega⟩
  have Hg := Lib.hid (gd_in (lo := 3) (n := n) ringN (by omega) (by omega))
  have hr1 : 3 ≤ n := by omega
  have hr2 : n ≤ 6 := by omega
  clear _hn
  go_enter Try.func47, Try.ntmps47
  go_wp2_with fail
  refine (lineOf_c n WR (by omega) (by omega)).mono ?_
  rintro e w2 ⟨rfl, hb⟩
  have bR1 := bR0.later hb
  have hB1 := hBR.trans (hb.mono hBR.size)
  have hsw := hBR.size
  have hsw2 := hb.size
  have hz : w.heap.size < w2.heap.size := bR1.lt
  have hor := ring_or (k := n) hr1 hr2
  obtain ⟨x, hx⟩ : ∃ x, lineN (n - 1) = x := ⟨_, rfl⟩
  obtain ⟨y, hy⟩ : ∃ y, ringN n = y := ⟨_, rfl⟩
  have Hg := Lib.hid (show gdP 3 (n : Int) = n ∧ gdC 3 (n : Int) = 0 ∧ gdR ringN 3 (n : Int) = (y : Int) by have := Hg.out; rw [hy] at this; exact this)
  rw [hx, hy] at hor
  rw [hx]
  clear hx hy
  clear bR0 hBR hb
  have hwk : (n : Int) - 1 = ((n - 1 : Nat) : Int) := by omega
  have hww : IntKind.i64.wrap (((n - 1 : Nat) : Int)) = ((n - 1 : Nat) : Int) := by rw [IntKind.wrap_i64]; omega
  go_wp2_with fail
  obtain ⟨W0, hW0⟩ : ∃ W0, w2.alloc (.cells #[.int .i64 (n : Int), .int .i64 (x : Int)] 56) = W0 := ⟨_, rfl⟩
  have bR : Box2 W0 w.heap.size 56 (.int .i64 0) (.int .i64 0) := by rw [← hW0]; exact bR1.alloc _
  have bO : Box2 W0 w2.heap.size 56 (.int .i64 (n : Int)) (.int .i64 (x : Int)) := by rw [← hW0]; exact Box2.new _ _ _ _
  have hB0 : Below w.heap.size w W0 := by rw [← hW0]; exact hB1.alloc hB1.size _
  first | rw [hW0] | skip
  clear hW0 bR1 hB1
  have c1 : W0.drew.cell? ⟨w2.heap.size, 1, none⟩ = some (.int .i64 (x : Int)) := bO.c1
  have f1 : W0.drew.frozen? ⟨w2.heap.size, 1, none⟩ = false := bO.frozen 1
  have HR := Lib.hid bR
  have HO := Lib.hid bO
  clear bR bO
  refine wp_region_held_drew (S := fun w' => Below w.heap.size w w') hfw hB0.drew ?_
  intro hS0
  refine wpAnyH_take (i := 0) (v := ?vr10) rfl (by kernel_rfl) (by kernel_rfl) (by kernel_rfl) (fun _ _ _ h => h) (.inl ⟨by first | kernel_rfl | rfl, ?yr10⟩) hS0 ?_
  case yr10 =>
    intro w' hS
    (clear hS)
    go_simp
    try with_reducible rfl
  refine wpAnyH_take (i := 2) (v := ?vr12) rfl (by kernel_rfl) (by kernel_rfl) (by kernel_rfl) (fun _ _ _ h => h) (.inl ⟨by first | kernel_rfl | rfl, ?yr12⟩) hS0 ?_
  case yr12 =>
    intro w' hS
    (clear hS)
    go_simp
    try with_reducible rfl
  try simp only [Act.put, List.getElem_toArray, List.getElem_cons_zero, List.getElem_cons_succ, List.setIfInBounds_toArray, List.set_cons_zero, List.set_cons_succ]
  refine wpAnyH_take (i := 3) (v := (.int .i64 ((n - 1 : Nat) : Int))) rfl (by kernel_rfl) (by kernel_rfl) (by kernel_rfl) (fun _ _ _ h => h) (.inl ⟨by first | kernel_rfl | rfl, ?yr23⟩) hS0 ?_
  case yr23 =>
    intro w' hS
    (clear hS)
    go_simp
    first | done | (simp; done) | (simp; omega) | omega | (simp [*]; done)
  refine wpAnyH_ready (rs := [1, 4]) (by kernel_rfl) (by simp) ?_
  refine AllReadyH.cons rfl (fun K' hK' => ?_) (AllReadyH.cons rfl (fun K' hK' => ?_) AllReadyH.nil)
  all_goals rw [if_pos (by first | kernel_rfl | rfl)]
  · skip
    go_simp
    refine hK'.out _ _ hS0 fun _ => ?_
    clear hK'
    refine wpAnyH_ready (rs := [4]) (by kernel_rfl) (by simp) ?_
    refine AllReadyH.cons rfl (fun K' hK' => ?_) AllReadyH.nil
    rw [if_pos (by first | kernel_rfl | rfl)]
    go_simp
    refine (roadBetween_c 0 (n - 1) _ (by omega) (by omega)).mono ?_
    rintro e w' ⟨rfl, rfl⟩
    refine hK'.out _ _ hS0 fun _ => ?_
    clear hK'
    refine wpAnyH_take (i := 5) (v := (.int .i64 ((y : Int)))) rfl (by kernel_rfl) (by kernel_rfl) (by kernel_rfl) (fun _ _ _ h => h) (.inl ⟨by first | kernel_rfl | rfl, ?yr045⟩) hS0 ?_
    case yr045 =>
      intro w' hS
      (clear hS)
      go_simp
      first | done | (simp; done) | (simp; omega) | omega | (simp [*]; done)
    refine wpAnyH_take (i := 6) (v := ?vr056) rfl (by kernel_rfl) (by kernel_rfl) (by kernel_rfl) (fun _ _ _ h => h) (.inl ⟨by first | kernel_rfl | rfl, ?yr056⟩) hS0 ?_
    case yr056 =>
      intro w' hS
      (clear hS)
      go_simp
      try with_reducible rfl
    try simp only [Act.put, List.getElem_toArray, List.getElem_cons_zero, List.getElem_cons_succ, List.setIfInBounds_toArray, List.set_cons_zero, List.set_cons_succ]
    refine wpAnyH_ready (rs := [7]) (by kernel_rfl) (by simp) ?_
    refine AllReadyH.cons rfl (fun K' hK' => ?_) AllReadyH.nil
    rw [if_pos (by first | kernel_rfl | rfl)]
    go_simp
    refine hK'.out _ _ (hS0.setCell (p := ⟨w2.heap.size, 1, none⟩) (by simp; try omega) _) fun hS1 => ?_
    refine wpAnyH_done (by kernel_rfl) ?_ _
    have hBe : Below w.heap.size w (W0.setCell ⟨w2.heap.size, 1, none⟩ (.int .i64 (y : Int))).drew := hS1
    have bR2 : Box2 (W0.setCell ⟨w2.heap.size, 1, none⟩ (.int .i64 (y : Int))).drew w.heap.size 56 (.int .i64 0) (.int .i64 0) := (HR.out.kept (grownBy_setC W0 w2.heap.size 1 (.int .i64 (y : Int))) (by simp; omega) : Box2 (W0.setCell ⟨w2.heap.size, 1, none⟩ (.int .i64 (y : Int))) _ _ _ _)
    have bO2 : Box2 (W0.setCell ⟨w2.heap.size, 1, none⟩ (.int .i64 (y : Int))).drew w2.heap.size 56 (.int .i64 (n : Int)) (.int .i64 (y : Int)) := (HO.out.set1 (.int .i64 (y : Int)) : Box2 (W0.setCell ⟨w2.heap.size, 1, none⟩ (.int .i64 (y : Int))) _ _ _ _)
    obtain ⟨W5, hW5⟩ : ∃ W5, (W0.setCell ⟨w2.heap.size, 1, none⟩ (.int .i64 (y : Int))).drew = W5 := ⟨_, rfl⟩
    rw [hW5] at hBe bR2 bO2
    first | rw [hW5] | (have hW6 : W0.drew.setCell ⟨w2.heap.size, 1, none⟩ (.int .i64 (y : Int)) = W5 := hW5; rw [hW6])
    have e0 := bO2.c0
    have e1 := bO2.c1
    have r0 := bR2.c0
    have r1 := bR2.c1
    have f5 := bR2.frozen 0
    have f6 := bR2.frozen 1
    clear hS1 f1 c1 hor
    go_wp2
    have b2 := (bR2.set0 (.int .i64 (n : Int))).set1 (.int .i64 (y : Int))
    have d0 := b2.c0
    have d1 := b2.c1
    refine bodyPost_ret (v := .tuple #[.agg #[.int .i64 (gdP 3 n), .int .i64 (gdR ringN 3 n)], .int .i64 (gdC 3 n)]) (by rw [Hg.out.1, Hg.out.2.1, Hg.out.2.2]; simp [results, Try.results47, go_sem, d0, d1]) rfl ⟨rfl, ?_⟩
    exact (hBe.setCell (p := ⟨w.heap.size, 0, none⟩) (by simp) _).setCell (p := ⟨w.heap.size, 1, none⟩) (by simp) _
  · skip
    go_simp
    refine (roadBetween_c 0 (n - 1) _ (by omega) (by omega)).mono ?_
    rintro e w' ⟨rfl, rfl⟩
    refine hK'.out _ _ hS0 fun _ => ?_
    clear hK'
    refine wpAnyH_ready (rs := [1]) (by kernel_rfl) (by simp) ?_
    refine AllReadyH.cons rfl (fun K' hK' => ?_) AllReadyH.nil
    rw [if_pos (by first | kernel_rfl | rfl)]
    go_simp
    refine hK'.out _ _ hS0 fun _ => ?_
    clear hK'
    refine wpAnyH_take (i := 5) (v := (.int .i64 ((y : Int)))) rfl (by kernel_rfl) (by kernel_rfl) (by kernel_rfl) (fun _ _ _ h => h) (.inl ⟨by first | kernel_rfl | rfl, ?yr145⟩) hS0 ?_
    case yr145 =>
      intro w' hS
      (clear hS)
      go_simp
      first | done | (simp; done) | (simp; omega) | omega | (simp [*]; done)
    refine wpAnyH_take (i := 6) (v := ?vr156) rfl (by kernel_rfl) (by kernel_rfl) (by kernel_rfl) (fun _ _ _ h => h) (.inl ⟨by first | kernel_rfl | rfl, ?yr156⟩) hS0 ?_
    case yr156 =>
      intro w' hS
      (clear hS)
      go_simp
      try with_reducible rfl
    try simp only [Act.put, List.getElem_toArray, List.getElem_cons_zero, List.getElem_cons_succ, List.setIfInBounds_toArray, List.set_cons_zero, List.set_cons_succ]
    refine wpAnyH_ready (rs := [7]) (by kernel_rfl) (by simp) ?_
    refine AllReadyH.cons rfl (fun K' hK' => ?_) AllReadyH.nil
    rw [if_pos (by first | kernel_rfl | rfl)]
    go_simp
    refine hK'.out _ _ (hS0.setCell (p := ⟨w2.heap.size, 1, none⟩) (by simp; try omega) _) fun hS1 => ?_
    refine wpAnyH_done (by kernel_rfl) ?_ _
    have hBe : Below w.heap.size w (W0.setCell ⟨w2.heap.size, 1, none⟩ (.int .i64 (y : Int))).drew := hS1
    have bR2 : Box2 (W0.setCell ⟨w2.heap.size, 1, none⟩ (.int .i64 (y : Int))).drew w.heap.size 56 (.int .i64 0) (.int .i64 0) := (HR.out.kept (grownBy_setC W0 w2.heap.size 1 (.int .i64 (y : Int))) (by simp; omega) : Box2 (W0.setCell ⟨w2.heap.size, 1, none⟩ (.int .i64 (y : Int))) _ _ _ _)
    have bO2 : Box2 (W0.setCell ⟨w2.heap.size, 1, none⟩ (.int .i64 (y : Int))).drew w2.heap.size 56 (.int .i64 (n : Int)) (.int .i64 (y : Int)) := (HO.out.set1 (.int .i64 (y : Int)) : Box2 (W0.setCell ⟨w2.heap.size, 1, none⟩ (.int .i64 (y : Int))) _ _ _ _)
    obtain ⟨W5, hW5⟩ : ∃ W5, (W0.setCell ⟨w2.heap.size, 1, none⟩ (.int .i64 (y : Int))).drew = W5 := ⟨_, rfl⟩
    rw [hW5] at hBe bR2 bO2
    first | rw [hW5] | (have hW6 : W0.drew.setCell ⟨w2.heap.size, 1, none⟩ (.int .i64 (y : Int)) = W5 := hW5; rw [hW6])
    have e0 := bO2.c0
    have e1 := bO2.c1
    have r0 := bR2.c0
    have r1 := bR2.c1
    have f5 := bR2.frozen 0
    have f6 := bR2.frozen 1
    clear hS1 f1 c1 hor
    go_wp2
    have b2 := (bR2.set0 (.int .i64 (n : Int))).set1 (.int .i64 (y : Int))
    have d0 := b2.c0
    have d1 := b2.c1
    refine bodyPost_ret (v := .tuple #[.agg #[.int .i64 (gdP 3 n), .int .i64 (gdR ringN 3 n)], .int .i64 (gdC 3 n)]) (by rw [Hg.out.1, Hg.out.2.1, Hg.out.2.2]; simp [results, Try.results47, go_sem, d0, d1]) rfl ⟨rfl, ?_⟩
    exact (hBe.setCell (p := ⟨w.heap.size, 0, none⟩) (by simp) _).setCell (p := ⟨w.heap.size, 1, none⟩) (by simp) _

set_option maxRecDepth 100000 in
set_option maxHeartbeats 8000000 in
theorem s_RingGround (n : Int) (w : World) (_hn : I64 n) : Calls Try.prog 46 #[.int .i64 n] w fun e w' => e = .returned (.tuple #[.agg #[.int .i64 (gdP 3 n), .int .i64 (gdR ringN 3 n)], .int .i64 (gdC 3 n)]) ∧ Below w.heap.size w w' := by
  have hfw : Try.prog.follows Departure.mixedOrders = true := by kernel_rfl
  have bR0 := Box2.new w 56 (.int .i64 0) (.int .i64 0)
  have hBR := (Below.refl _ w).alloc (Nat.le_refl _) (.cells #[.int .i64 0, .int .i64 0] 56)
  obtain ⟨WR, hWR⟩ : ∃ WR, w.alloc (.cells #[.int .i64 0, .int .i64 0] 56) = WR := ⟨_, rfl⟩
  rw [hWR] at bR0 hBR
  by_cases h12 : n < 3 ∨ 6 < n
  · skip
    have Hg := Lib.hid (gd_out (lo := 3) ringN (h12))
    have r0 := bR0.c0
    have r1 := bR0.c1
    have f0 := bR0.frozen 0
    have f1 := bR0.frozen 1
    go_enter Try.func46, Try.ntmps46
    go_wp2_with fail
    refine (l01In_d false _ _ _ _ (inB_false.2 (h12))).mono ?_
    rintro e w1 ⟨rfl, rfl⟩
    go_wp2
    have b2 := (bR0.set0 (.int .i64 0)).set1 (.int .i64 0)
    have d0 := b2.c0
    have d1 := b2.c1
    refine bodyPost_ret (v := .tuple #[.agg #[.int .i64 (gdP 3 n), .int .i64 (gdR ringN 3 n)], .int .i64 (gdC 3 n)]) (by rw [Hg.out.1, Hg.out.2.1, Hg.out.2.2]; simp [results, Try.results46, go_sem, d0, d1]) rfl ⟨rfl, ?_⟩
    exact (hBR.setCell (p := ⟨w.heap.size, 0, none⟩) (by simp) _).setCell (p := ⟨w.heap.size, 1, none⟩) (by simp) _
  obtain ⟨n, rfl⟩ : ∃ m : Nat, n = m := ⟨n.toNat, by omega⟩
  have Hg := Lib.hid (gd_in (lo := 3) (n := n) ringN (by omega) (by omega))
  have hr1 : 3 ≤ n := by omega
  have hr2 : n ≤ 6 := by omega
  clear _hn h12
  go_enter Try.func46, Try.ntmps46
  go_wp2_with fail
  refine (l01In_d true _ _ _ _ (inB_true.2 ⟨by omega, by omega⟩)).mono ?_
  rintro e w1 ⟨rfl, rfl⟩
  go_wp2_with fail
  refine (l09Line_c n WR (by omega) (by omega)).mono ?_
  rintro e w2 ⟨rfl, hb⟩
  have bR1 := bR0.later hb
  have hB1 := hBR.trans (hb.mono hBR.size)
  have hsw := hBR.size
  have hsw2 := hb.size
  have hz : w.heap.size < w2.heap.size := bR1.lt
  have hor := ring_or (k := n) hr1 hr2
  obtain ⟨x, hx⟩ : ∃ x, lineN (n - 1) = x := ⟨_, rfl⟩
  obtain ⟨y, hy⟩ : ∃ y, ringN n = y := ⟨_, rfl⟩
  have Hg := Lib.hid (show gdP 3 (n : Int) = n ∧ gdC 3 (n : Int) = 0 ∧ gdR ringN 3 (n : Int) = (y : Int) by have := Hg.out; rw [hy] at this; exact this)
  rw [hx, hy] at hor
  rw [hx]
  clear hx hy
  clear bR0 hBR hb
  have hwk : (n : Int) - 1 = ((n - 1 : Nat) : Int) := by omega
  have hww : IntKind.i64.wrap (((n - 1 : Nat) : Int)) = ((n - 1 : Nat) : Int) := by rw [IntKind.wrap_i64]; omega
  go_wp2_with fail
  obtain ⟨W0, hW0⟩ : ∃ W0, w2.alloc (.cells #[.int .i64 (n : Int), .int .i64 (x : Int)] 56) = W0 := ⟨_, rfl⟩
  have bR : Box2 W0 w.heap.size 56 (.int .i64 0) (.int .i64 0) := by rw [← hW0]; exact bR1.alloc _
  have bO : Box2 W0 w2.heap.size 56 (.int .i64 (n : Int)) (.int .i64 (x : Int)) := by rw [← hW0]; exact Box2.new _ _ _ _
  have hB0 : Below w.heap.size w W0 := by rw [← hW0]; exact hB1.alloc hB1.size _
  first | rw [hW0] | skip
  clear hW0 bR1 hB1
  have c1 : W0.drew.cell? ⟨w2.heap.size, 1, none⟩ = some (.int .i64 (x : Int)) := bO.c1
  have f1 : W0.drew.frozen? ⟨w2.heap.size, 1, none⟩ = false := bO.frozen 1
  have HR := Lib.hid bR
  have HO := Lib.hid bO
  clear bR bO
  refine wp_region_held_drew (S := fun w' => Below w.heap.size w w') hfw hB0.drew ?_
  intro hS0
  refine wpAnyH_take (i := 0) (v := ?vr10) rfl (by kernel_rfl) (by kernel_rfl) (by kernel_rfl) (fun _ _ _ h => h) (.inl ⟨by first | kernel_rfl | rfl, ?yr10⟩) hS0 ?_
  case yr10 =>
    intro w' hS
    (clear hS)
    go_simp
    try with_reducible rfl
  refine wpAnyH_take (i := 2) (v := ?vr12) rfl (by kernel_rfl) (by kernel_rfl) (by kernel_rfl) (fun _ _ _ h => h) (.inl ⟨by first | kernel_rfl | rfl, ?yr12⟩) hS0 ?_
  case yr12 =>
    intro w' hS
    (clear hS)
    go_simp
    try with_reducible rfl
  try simp only [Act.put, List.getElem_toArray, List.getElem_cons_zero, List.getElem_cons_succ, List.setIfInBounds_toArray, List.set_cons_zero, List.set_cons_succ]
  refine wpAnyH_take (i := 3) (v := (.int .i64 ((n - 1 : Nat) : Int))) rfl (by kernel_rfl) (by kernel_rfl) (by kernel_rfl) (fun _ _ _ h => h) (.inl ⟨by first | kernel_rfl | rfl, ?yr23⟩) hS0 ?_
  case yr23 =>
    intro w' hS
    (clear hS)
    go_simp
    first | done | (simp; done) | (simp; omega) | omega | (simp [*]; done)
  refine wpAnyH_ready (rs := [1, 4]) (by kernel_rfl) (by simp) ?_
  refine AllReadyH.cons rfl (fun K' hK' => ?_) (AllReadyH.cons rfl (fun K' hK' => ?_) AllReadyH.nil)
  all_goals rw [if_pos (by first | kernel_rfl | rfl)]
  · skip
    go_simp
    refine hK'.out _ _ hS0 fun _ => ?_
    clear hK'
    refine wpAnyH_ready (rs := [4]) (by kernel_rfl) (by simp) ?_
    refine AllReadyH.cons rfl (fun K' hK' => ?_) AllReadyH.nil
    rw [if_pos (by first | kernel_rfl | rfl)]
    go_simp
    refine (l09Road_c 0 (n - 1) _ (by omega) (by omega)).mono ?_
    rintro e w' ⟨rfl, rfl⟩
    rw [show min 0 (n - 1) = 0 by omega, show max 0 (n - 1) = n - 1 by omega]
    refine hK'.out _ _ hS0 fun _ => ?_
    clear hK'
    refine wpAnyH_take (i := 5) (v := (.int .i64 ((y : Int)))) rfl (by kernel_rfl) (by kernel_rfl) (by kernel_rfl) (fun _ _ _ h => h) (.inl ⟨by first | kernel_rfl | rfl, ?yr045⟩) hS0 ?_
    case yr045 =>
      intro w' hS
      (clear hS)
      go_simp
      first | done | (simp; done) | (simp; omega) | omega | (simp [*]; done)
    refine wpAnyH_take (i := 6) (v := ?vr056) rfl (by kernel_rfl) (by kernel_rfl) (by kernel_rfl) (fun _ _ _ h => h) (.inl ⟨by first | kernel_rfl | rfl, ?yr056⟩) hS0 ?_
    case yr056 =>
      intro w' hS
      (clear hS)
      go_simp
      try with_reducible rfl
    try simp only [Act.put, List.getElem_toArray, List.getElem_cons_zero, List.getElem_cons_succ, List.setIfInBounds_toArray, List.set_cons_zero, List.set_cons_succ]
    refine wpAnyH_ready (rs := [7]) (by kernel_rfl) (by simp) ?_
    refine AllReadyH.cons rfl (fun K' hK' => ?_) AllReadyH.nil
    rw [if_pos (by first | kernel_rfl | rfl)]
    go_simp
    refine hK'.out _ _ (hS0.setCell (p := ⟨w2.heap.size, 1, none⟩) (by simp; try omega) _) fun hS1 => ?_
    refine wpAnyH_done (by kernel_rfl) ?_ _
    have hBe : Below w.heap.size w (W0.setCell ⟨w2.heap.size, 1, none⟩ (.int .i64 (y : Int))).drew := hS1
    have bR2 : Box2 (W0.setCell ⟨w2.heap.size, 1, none⟩ (.int .i64 (y : Int))).drew w.heap.size 56 (.int .i64 0) (.int .i64 0) := (HR.out.kept (grownBy_setC W0 w2.heap.size 1 (.int .i64 (y : Int))) (by simp; omega) : Box2 (W0.setCell ⟨w2.heap.size, 1, none⟩ (.int .i64 (y : Int))) _ _ _ _)
    have bO2 : Box2 (W0.setCell ⟨w2.heap.size, 1, none⟩ (.int .i64 (y : Int))).drew w2.heap.size 56 (.int .i64 (n : Int)) (.int .i64 (y : Int)) := (HO.out.set1 (.int .i64 (y : Int)) : Box2 (W0.setCell ⟨w2.heap.size, 1, none⟩ (.int .i64 (y : Int))) _ _ _ _)
    obtain ⟨W5, hW5⟩ : ∃ W5, (W0.setCell ⟨w2.heap.size, 1, none⟩ (.int .i64 (y : Int))).drew = W5 := ⟨_, rfl⟩
    rw [hW5] at hBe bR2 bO2
    first | rw [hW5] | (have hW6 : W0.drew.setCell ⟨w2.heap.size, 1, none⟩ (.int .i64 (y : Int)) = W5 := hW5; rw [hW6])
    have e0 := bO2.c0
    have e1 := bO2.c1
    have r0 := bR2.c0
    have r1 := bR2.c1
    have f5 := bR2.frozen 0
    have f6 := bR2.frozen 1
    clear hS1 f1 c1 hor
    go_wp2
    have b2 := (bR2.set0 (.int .i64 (n : Int))).set1 (.int .i64 (y : Int))
    have d0 := b2.c0
    have d1 := b2.c1
    refine bodyPost_ret (v := .tuple #[.agg #[.int .i64 (gdP 3 n), .int .i64 (gdR ringN 3 n)], .int .i64 (gdC 3 n)]) (by rw [Hg.out.1, Hg.out.2.1, Hg.out.2.2]; simp [results, Try.results46, go_sem, d0, d1]) rfl ⟨rfl, ?_⟩
    exact (hBe.setCell (p := ⟨w.heap.size, 0, none⟩) (by simp) _).setCell (p := ⟨w.heap.size, 1, none⟩) (by simp) _
  · skip
    go_simp
    refine (l09Road_c 0 (n - 1) _ (by omega) (by omega)).mono ?_
    rintro e w' ⟨rfl, rfl⟩
    rw [show min 0 (n - 1) = 0 by omega, show max 0 (n - 1) = n - 1 by omega]
    refine hK'.out _ _ hS0 fun _ => ?_
    clear hK'
    refine wpAnyH_ready (rs := [1]) (by kernel_rfl) (by simp) ?_
    refine AllReadyH.cons rfl (fun K' hK' => ?_) AllReadyH.nil
    rw [if_pos (by first | kernel_rfl | rfl)]
    go_simp
    refine hK'.out _ _ hS0 fun _ => ?_
    clear hK'
    refine wpAnyH_take (i := 5) (v := (.int .i64 ((y : Int)))) rfl (by kernel_rfl) (by kernel_rfl) (by kernel_rfl) (fun _ _ _ h => h) (.inl ⟨by first | kernel_rfl | rfl, ?yr145⟩) hS0 ?_
    case yr145 =>
      intro w' hS
      (clear hS)
      go_simp
      first | done | (simp; done) | (simp; omega) | omega | (simp [*]; done)
    refine wpAnyH_take (i := 6) (v := ?vr156) rfl (by kernel_rfl) (by kernel_rfl) (by kernel_rfl) (fun _ _ _ h => h) (.inl ⟨by first | kernel_rfl | rfl, ?yr156⟩) hS0 ?_
    case yr156 =>
      intro w' hS
      (clear hS)
      go_simp
      try with_reducible rfl
    try simp only [Act.put, List.getElem_toArray, List.getElem_cons_zero, List.getElem_cons_succ, List.setIfInBounds_toArray, List.set_cons_zero, List.set_cons_succ]
    refine wpAnyH_ready (rs := [7]) (by kernel_rfl) (by simp) ?_
    refine AllReadyH.cons rfl (fun K' hK' => ?_) AllReadyH.nil
    rw [if_pos (by first | kernel_rfl | rfl)]
    go_simp
    refine hK'.out _ _ (hS0.setCell (p := ⟨w2.heap.size, 1, none⟩) (by simp; try omega) _) fun hS1 => ?_
    refine wpAnyH_done (by kernel_rfl) ?_ _
    have hBe : Below w.heap.size w (W0.setCell ⟨w2.heap.size, 1, none⟩ (.int .i64 (y : Int))).drew := hS1
    have bR2 : Box2 (W0.setCell ⟨w2.heap.size, 1, none⟩ (.int .i64 (y : Int))).drew w.heap.size 56 (.int .i64 0) (.int .i64 0) := (HR.out.kept (grownBy_setC W0 w2.heap.size 1 (.int .i64 (y : Int))) (by simp; omega) : Box2 (W0.setCell ⟨w2.heap.size, 1, none⟩ (.int .i64 (y : Int))) _ _ _ _)
    have bO2 : Box2 (W0.setCell ⟨w2.heap.size, 1, none⟩ (.int .i64 (y : Int))).drew w2.heap.size 56 (.int .i64 (n : Int)) (.int .i64 (y : Int)) := (HO.out.set1 (.int .i64 (y : Int)) : Box2 (W0.setCell ⟨w2.heap.size, 1, none⟩ (.int .i64 (y : Int))) _ _ _ _)
    obtain ⟨W5, hW5⟩ : ∃ W5, (W0.setCell ⟨w2.heap.size, 1, none⟩ (.int .i64 (y : Int))).drew = W5 := ⟨_, rfl⟩
    rw [hW5] at hBe bR2 bO2
    first | rw [hW5] | (have hW6 : W0.drew.setCell ⟨w2.heap.size, 1, none⟩ (.int .i64 (y : Int)) = W5 := hW5; rw [hW6])
    have e0 := bO2.c0
    have e1 := bO2.c1
    have r0 := bR2.c0
    have r1 := bR2.c1
    have f5 := bR2.frozen 0
    have f6 := bR2.frozen 1
    clear hS1 f1 c1 hor
    go_wp2
    have b2 := (bR2.set0 (.int .i64 (n : Int))).set1 (.int .i64 (y : Int))
    have d0 := b2.c0
    have d1 := b2.c1
    refine bodyPost_ret (v := .tuple #[.agg #[.int .i64 (gdP 3 n), .int .i64 (gdR ringN 3 n)], .int .i64 (gdC 3 n)]) (by rw [Hg.out.1, Hg.out.2.1, Hg.out.2.2]; simp [results, Try.results46, go_sem, d0, d1]) rfl ⟨rfl, ?_⟩
    exact (hBe.setCell (p := ⟨w.heap.size, 0, none⟩) (by simp) _).setCell (p := ⟨w.heap.size, 1, none⟩) (by simp) _

end Go.Proofs.Ytieobjoijalijaa
