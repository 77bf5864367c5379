/-
  The contracts of program and model: IsGround, l09Is, isPlaceOf.
  Conditions: none.
-/
import Derived.Test.YtgndbifcncklgaaGnd
namespace Go.Proofs.Ytgndbifcncklgaa
open Go.RowKit Go.Shelf
attribute [local go_sem] Oper.semAt_some

theorem ite_ok {W : World} {x y : Int} : (if x = y then Result.ok (Next.value (Value.bool true)) W else Result.ok (Next.value (Value.bool false)) W) = Result.ok (Next.value (Value.bool (x == y))) W := by
  by_cases h : x = y
  · rw [if_pos h, beq_iff_eq.2 h]
  · rw [if_neg h, beq_eq_false_iff_ne.2 h]

set_option maxRecDepth 100000 in
set_option maxHeartbeats 4000000 in
theorem allRoads_c (p : Nat) (w : World) (h1 : 1 ≤ p) (h2 : p ≤ 6) : Calls Try.prog 126 #[.int .i64 (p : Int)] w fun e w' => e = .returned (.int .i64 (2 ^ gTop p - 1)) ∧ w = w' := by
  have h7 : p = 1 ∨ p = 2 ∨ p = 3 ∨ p = 4 ∨ p = 5 ∨ p = 6 := by omega
  rcases h7 with rfl | rfl | rfl | rfl | rfl | rfl <;>
    (skip
     go_enter Try.func126, Try.ntmps126
     go_wp2_with fail
     refine (roadBetween_c 0 _ _ h2 (by omega)).mono ?_
     rintro e w1 ⟨rfl, rfl⟩
     go_wp2
     go_ret
     exact ⟨ret_int (by kernel_rfl), rfl⟩)

set_option maxRecDepth 100000 in
set_option maxHeartbeats 4000000 in
theorem isGround_c (p r : Int) (w : World) : Calls Try.prog 96 #[.agg #[.int .i64 p, .int .i64 r]] w fun e w' => e = .returned (.bool (gOk p r)) ∧ Below w.heap.size w w' := by
  have hB0 : Below w.heap.size w (w.alloc (.cells #[.int .i64 p, .int .i64 r] 30)) := (Below.refl _ w).alloc (Nat.le_refl _) _
  have b0 := Box2.new w 30 (.int .i64 p) (.int .i64 r)
  have c0 := b0.c0
  have c1 := b0.c1
  clear b0
  by_cases h1 : p < 1
  · have Hf := Lib.hid (gOk_out (r := r) (.inl h1))
    go_enter Try.func96, Try.ntmps96
    go_wp2
    go_ret
    exact ⟨ret_bool (by rw [Hf.out]), hB0⟩
  by_cases h2 : 6 < p
  · have Hf := Lib.hid (gOk_out (r := r) (.inr h2))
    go_enter Try.func96, Try.ntmps96
    go_wp2
    go_ret
    exact ⟨ret_bool (by rw [Hf.out]), hB0⟩
  obtain ⟨n, rfl⟩ : ∃ n : Nat, p = n := ⟨p.toNat, by omega⟩
  have Hf := Lib.hid (gOk_in (p := n) (r := r) (by omega) (by omega))
  have hk : gTop n ≤ 15 := by
    have : ∀ n : Nat, n ≤ 6 → gTop n ≤ 15 := of_decide_eq_true (by kernel_rfl)
    exact this n (by omega)
  have hm := and_mask r hk
  clear hk
  go_enter Try.func96, Try.ntmps96
  go_wp2_with fail
  have hfw : Try.prog.follows Departure.mixedOrders = true := by kernel_rfl
  obtain ⟨W0, hW0⟩ : ∃ W0, (w.alloc (.cells #[.int .i64 (n : Int), .int .i64 r] 30)) = W0 := ⟨_, rfl⟩
  rw [hW0] at c0 c1 hB0 ⊢
  clear hW0
  replace c0 : W0.drew.cell? ⟨w.heap.size, 0, none⟩ = some (.int .i64 (n : Int)) := c0
  replace c1 : W0.drew.cell? ⟨w.heap.size, 1, none⟩ = some (.int .i64 r) := c1
  refine wp_region_held_drew (S := fun w' => w' = W0.drew) hfw rfl ?_
  intro hS0
  refine wpAnyH_take (i := 0) (v := ?vb10) rfl (by kernel_rfl) (by kernel_rfl) (by kernel_rfl) (fun _ _ _ h => h) (.inl ⟨by first | kernel_rfl | rfl, ?yb10⟩) rfl ?_
  case yb10 =>
    intro w' hS
    (subst hS)
    go_simp
    try with_reducible rfl
  refine wpAnyH_take (i := 1) (v := ?vb11) rfl (by kernel_rfl) (by kernel_rfl) (by kernel_rfl) (fun _ _ _ h => h) (.inl ⟨by first | kernel_rfl | rfl, ?yb11⟩) rfl ?_
  case yb11 =>
    intro w' hS
    (subst hS)
    go_simp
    try with_reducible rfl
  refine wpAnyH_take (i := 2) (v := ?vb12) rfl (by kernel_rfl) (by kernel_rfl) (by kernel_rfl) (fun _ _ _ h => h) (.inl ⟨by first | kernel_rfl | rfl, ?yb12⟩) rfl ?_
  case yb12 =>
    intro w' hS
    (subst hS)
    go_simp
    try with_reducible rfl
  refine wpAnyH_take (i := 3) (v := ?vb13) rfl (by kernel_rfl) (by kernel_rfl) (by kernel_rfl) (fun _ _ _ h => h) (.inl ⟨by first | kernel_rfl | rfl, ?yb13⟩) rfl ?_
  case yb13 =>
    intro w' hS
    (subst hS)
    go_simp
    try with_reducible rfl
  refine wpAnyH_take (i := 4) (v := ?vb14) rfl (by kernel_rfl) (by kernel_rfl) (by kernel_rfl) (fun _ _ _ h => h) (.inl ⟨by first | kernel_rfl | rfl, ?yb14⟩) rfl ?_
  case yb14 =>
    intro w' hS
    (subst hS)
    go_simp
    try with_reducible rfl
  refine wpAnyH_take (i := 5) (v := ?vb15) rfl (by kernel_rfl) (by kernel_rfl) (by kernel_rfl) (fun _ _ _ h => h) (.inl ⟨by first | kernel_rfl | rfl, ?yb15⟩) rfl ?_
  case yb15 =>
    intro w' hS
    (subst hS)
    go_simp
    try with_reducible rfl
  refine wpAnyH_take (i := 6) (v := ?vb16) rfl (by kernel_rfl) (by kernel_rfl) (by kernel_rfl) (fun _ _ _ h => h) (.inl ⟨by first | kernel_rfl | rfl, ?yb16⟩) rfl ?_
  case yb16 =>
    intro w' hS
    (subst hS)
    go_simp
    try with_reducible rfl
  try simp only [Act.put, List.getElem_toArray, List.getElem_cons_zero, List.getElem_cons_succ, List.setIfInBounds_toArray, List.set_cons_zero, List.set_cons_succ]
  refine wpAnyH_ready (rs := [7]) (by kernel_rfl) (by simp) ?_
  refine AllReadyH.cons rfl (fun K' hK' => ?_) AllReadyH.nil
  rw [if_pos (by first | kernel_rfl | rfl)]
  go_simp
  refine (allRoads_c n _ (by omega) (by omega)).mono ?_
  rintro e w' ⟨rfl, rfl⟩
  refine hK'.out _ _ rfl fun hS1 => ?_
  refine wpAnyH_take (i := 8) (v := ?vb28) rfl (by kernel_rfl) (by kernel_rfl) (by kernel_rfl) (fun _ _ _ h => h) (.inl ⟨by first | kernel_rfl | rfl, ?yb28⟩) rfl ?_
  case yb28 =>
    intro w' hS
    (subst hS)
    go_simp
    try with_reducible rfl
  refine wpAnyH_take (i := 9) (v := ?vb29) rfl (by kernel_rfl) (by kernel_rfl) (by kernel_rfl) (fun _ _ _ h => h) (.inl ⟨by first | kernel_rfl | rfl, ?yb29⟩) rfl ?_
  case yb29 =>
    intro w' hS
    (subst hS)
    go_simp
    try with_reducible rfl
  try simp only [Act.put, List.getElem_toArray, List.getElem_cons_zero, List.getElem_cons_succ, List.setIfInBounds_toArray, List.set_cons_zero, List.set_cons_succ]
  refine wpAnyH_take (i := 10) (v := (.bool (r == r % 2 ^ gTop n))) rfl (by kernel_rfl) (by kernel_rfl) (by kernel_rfl) (fun _ _ _ h => h) (.inl ⟨by first | kernel_rfl | rfl, ?yb310⟩) rfl ?_
  case yb310 =>
    intro w' hS
    (subst hS)
    go_simp
    exact ite_ok
    first | done | (simp; done) | (simp; omega) | omega | (simp [*]; done)
  refine wpAnyH_take (i := 11) (v := ?vb411) rfl (by kernel_rfl) (by kernel_rfl) (by kernel_rfl) (fun _ _ _ h => h) (.inl ⟨by first | kernel_rfl | rfl, ?yb411⟩) rfl ?_
  case yb411 =>
    intro w' hS
    (subst hS)
    go_simp
    try with_reducible rfl
  try simp only [Act.put, List.getElem_toArray, List.getElem_cons_zero, List.getElem_cons_succ, List.setIfInBounds_toArray, List.set_cons_zero, List.set_cons_succ]
  refine wpAnyH_done (by kernel_rfl) ?_ _
  go_wp2
  go_ret
  exact ⟨ret_bool (by rw [Hf.out]), hB0.drew⟩

theorem wrapu_top : ∀ n : Nat, 1 ≤ n → n ≤ 6 → IntKind.u64.wrap ((gTop n : Nat) : Int) = ((gTop n : Nat) : Int) := by
  intro n h1 h2
  have : ∀ n : Nat, n ≤ 6 → gTop n ≤ 15 := of_decide_eq_true (by kernel_rfl)
  have := this n h2
  rw [IntKind.wrap_u64]
  omega

set_option maxRecDepth 100000 in
set_option maxHeartbeats 4000000 in
theorem l09Is_c (p r : Int) (w : World) : Calls Try.prog 89 #[.agg #[.int .i64 p, .int .i64 r]] w fun e w' => e = .returned (.bool (gOk p r)) ∧ Below w.heap.size w w' := by
  have hB0 : Below w.heap.size w (w.alloc (.cells #[.int .i64 p, .int .i64 r] 30)) := (Below.refl _ w).alloc (Nat.le_refl _) _
  have b0 := Box2.new w 30 (.int .i64 p) (.int .i64 r)
  have c0 := b0.c0
  have c1 := b0.c1
  clear b0
  by_cases h1 : inB p 1 6 = true
  · have h2 := inB_true.1 h1
    have h7 : p = 1 ∨ p = 2 ∨ p = 3 ∨ p = 4 ∨ p = 5 ∨ p = 6 := by omega
    clear h2
    rcases h7 with rfl | rfl | rfl | rfl | rfl | rfl <;>
      (have Hf := Lib.hid (show inB r 0 (2 ^ gTop (Int.toNat _) - 1) = gOk _ r from by unfold gOk; rw [h1, Bool.true_and])
       have H1 := Lib.hid h1
       clear h1
       go_enter Try.func89, Try.ntmps89
       go_wp2_with fail
       refine (l01In_d true _ _ _ _ H1.out).mono ?_
       rintro e w1 ⟨rfl, rfl⟩
       go_wp2_with fail
       refine (l01In_d _ _ _ _ _ Hf.out).mono ?_
       rintro e w1 ⟨rfl, rfl⟩
       go_wp2
       go_ret
       exact ⟨rfl, hB0⟩)
  · have h1 : inB p 1 6 = false := by simpa using h1
    have Hf := Lib.hid (show gOk p r = false by unfold gOk; rw [h1, Bool.false_and])
    go_enter Try.func89, Try.ntmps89
    go_wp2_with fail
    refine (l01In_d false _ _ _ _ h1).mono ?_
    rintro e w1 ⟨rfl, rfl⟩
    go_wp2
    go_ret
    exact ⟨ret_bool (by rw [Hf.out]), hB0⟩

theorem i_IsGround (p r : Int) (w : World) (_hp : I64 p) (_hr : I64 r) : Calls Try.prog 96 #[.agg #[.int .i64 p, .int .i64 r]] w fun e w' => e = .returned (.bool (gOk p r)) ∧ Below w.heap.size w w' := isGround_c p r w

end Go.Proofs.Ytgndbifcncklgaa
