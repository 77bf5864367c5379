/-
  Who meets whom, who is apart: both.
  Conditions: lists of at most 1048576 elements.
-/
import Derived.Test.YtbhpflhopajbfaaClB
import Derived.Test.YtbhpflhopajbfaaDens
namespace Go.Proofs.Ytbhpflhopajbfaa
open Go.RowKit Go.Shelf
attribute [local go_sem] Oper.semAt_some

/-! ### meeting -/
def meet2 (x y x' y' : Int) : Bool := decide ((x - x').tmod ((Nat.gcd y.toNat y'.toNat : Nat) : Int) = 0)
theorem beq_dec (r s : Int) : (r == s) = decide (r = s) := rfl
theorem meet2_at (cs : List (Int × Int)) (i k : Nat) : meet2 (rst cs i) (gp cs i) (rst cs k) (gp cs k) = meets cs i k := rfl

set_option maxRecDepth 100000 in
set_option maxHeartbeats 4000000 in
theorem l05Meet_c (x x' : Int) (y y' : Nat) (w : World) (hx : -1000 ≤ x ∧ x ≤ 1000) (hx' : -1000 ≤ x' ∧ x' ≤ 1000) (hy : 1 ≤ y ∧ y ≤ 1000) (hy' : y' ≤ 1000) :
    Calls Try.prog 177 #[.agg #[.int .i64 x, .int .i64 y], .agg #[.int .i64 x', .int .i64 y']] w fun e w' => e = .returned (.bool (meet2 x y x' y')) ∧ Below w.heap.size w w' := by
  have hg : Nat.gcd y y' ≤ y := Nat.le_of_dvd (by omega) (Nat.gcd_dvd_left _ _)
  have hg0 : 0 < Nat.gcd y y' := Nat.gcd_pos_of_pos_left _ (by omega)
  have Hm := Lib.hid (show meet2 x y x' y' = decide ((x - x').tmod ((Nat.gcd y y' : Nat) : Int) = 0) from rfl)
  have hz : ((Nat.gcd y y' : Nat) : Int) ≠ 0 := by omega
  have ht : -1000 ≤ ((x - x').tmod ((Nat.gcd y y' : Nat) : Int)) ∧ ((x - x').tmod ((Nat.gcd y y' : Nat) : Int)) ≤ 1000 := by
    have h1 := Int.tmod_lt_of_pos (x - x') (show (0 : Int) < ((Nat.gcd y y' : Nat) : Int) by omega)
    have h2 := Int.lt_tmod_of_pos (x - x') (show (0 : Int) < ((Nat.gcd y y' : Nat) : Int) by omega)
    omega
  obtain ⟨r, hr⟩ : ∃ r, (x - x').tmod ((Nat.gcd y y' : Nat) : Int) = r := ⟨_, rfl⟩
  obtain ⟨g, hgg⟩ : ∃ g, Nat.gcd y y' = g := ⟨_, rfl⟩
  have HG := Lib.hid hgg
  rw [hgg] at hg hg0 Hm hz ht hr
  rw [hr] at ht Hm
  clear hgg
  obtain ⟨x1, x2⟩ := hx
  obtain ⟨x3, x4⟩ := hx'
  have hwr : IntKind.i64.wrap (x - x') = x - x' := by rw [IntKind.wrap_i64]; omega
  have hfw : Try.prog.follows Departure.mixedOrders = true := by kernel_rfl
  have hS : Box2 ((w.alloc (.cells #[.int .i64 x, .int .i64 y] 106)).alloc (.cells #[.int .i64 x', .int .i64 y'] 106)).drew w.heap.size 106 (.int .i64 x) (.int .i64 y) ∧
      Box2 ((w.alloc (.cells #[.int .i64 x, .int .i64 y] 106)).alloc (.cells #[.int .i64 x', .int .i64 y'] 106)).drew (w.heap.size + 1) 106 (.int .i64 x') (.int .i64 y') ∧
      Below w.heap.size w ((w.alloc (.cells #[.int .i64 x, .int .i64 y] 106)).alloc (.cells #[.int .i64 x', .int .i64 y'] 106)).drew :=
    ⟨(Box2.new w _ _ _).alloc _, box2_at (W := w.alloc (.cells #[.int .i64 x, .int .i64 y] 106)) (by simp), (((Below.refl _ _).alloc (Nat.le_refl _) _).alloc (by simp) _).drew⟩
  go_enter Try.func177, Try.ntmps177
  go_wp2_with fail
  refine wp_region_held_drew (S := fun w' => Box2 w' w.heap.size 106 (.int .i64 x) (.int .i64 y) ∧ Box2 w' (w.heap.size + 1) 106 (.int .i64 x') (.int .i64 y') ∧ Below w.heap.size w w') hfw hS ?_
  intro hS0
  refine wpAnyH_take (i := 0) (v := ?vm1q0) rfl (by kernel_rfl) (by kernel_rfl) (by kernel_rfl) (fun _ _ _ h => h) (.inl ⟨by first | kernel_rfl | rfl, ?ym1q0⟩) hS0 ?_
  case ym1q0 =>
    intro w' hS
    (have a0 := hS.1.c0; have a1 := hS.1.c1; have b0 := hS.2.1.c0; have b1 := hS.2.1.c1; clear hS)
    go_simp
    try with_reducible rfl
  refine wpAnyH_take (i := 1) (v := ?vm1q1) rfl (by kernel_rfl) (by kernel_rfl) (by kernel_rfl) (fun _ _ _ h => h) (.inl ⟨by first | kernel_rfl | rfl, ?ym1q1⟩) hS0 ?_
  case ym1q1 =>
    intro w' hS
    (have a0 := hS.1.c0; have a1 := hS.1.c1; have b0 := hS.2.1.c0; have b1 := hS.2.1.c1; clear hS)
    go_simp
    try with_reducible rfl
  refine wpAnyH_take (i := 2) (v := ?vm1q2) rfl (by kernel_rfl) (by kernel_rfl) (by kernel_rfl) (fun _ _ _ h => h) (.inl ⟨by first | kernel_rfl | rfl, ?ym1q2⟩) hS0 ?_
  case ym1q2 =>
    intro w' hS
    (have a0 := hS.1.c0; have a1 := hS.1.c1; have b0 := hS.2.1.c0; have b1 := hS.2.1.c1; clear hS)
    go_simp
    try with_reducible rfl
  refine wpAnyH_take (i := 3) (v := ?vm1q3) rfl (by kernel_rfl) (by kernel_rfl) (by kernel_rfl) (fun _ _ _ h => h) (.inl ⟨by first | kernel_rfl | rfl, ?ym1q3⟩) hS0 ?_
  case ym1q3 =>
    intro w' hS
    (have a0 := hS.1.c0; have a1 := hS.1.c1; have b0 := hS.2.1.c0; have b1 := hS.2.1.c1; clear hS)
    go_simp
    try with_reducible rfl
  refine wpAnyH_take (i := 4) (v := ?vm1q4) rfl (by kernel_rfl) (by kernel_rfl) (by kernel_rfl) (fun _ _ _ h => h) (.inl ⟨by first | kernel_rfl | rfl, ?ym1q4⟩) hS0 ?_
  case ym1q4 =>
    intro w' hS
    (have a0 := hS.1.c0; have a1 := hS.1.c1; have b0 := hS.2.1.c0; have b1 := hS.2.1.c1; clear hS)
    go_simp
    try with_reducible rfl
  refine wpAnyH_take (i := 5) (v := ?vm1q5) rfl (by kernel_rfl) (by kernel_rfl) (by kernel_rfl) (fun _ _ _ h => h) (.inl ⟨by first | kernel_rfl | rfl, ?ym1q5⟩) hS0 ?_
  case ym1q5 =>
    intro w' hS
    (have a0 := hS.1.c0; have a1 := hS.1.c1; have b0 := hS.2.1.c0; have b1 := hS.2.1.c1; clear hS)
    go_simp
    try with_reducible rfl
  refine wpAnyH_take (i := 6) (v := ?vm1q6) rfl (by kernel_rfl) (by kernel_rfl) (by kernel_rfl) (fun _ _ _ h => h) (.inl ⟨by first | kernel_rfl | rfl, ?ym1q6⟩) hS0 ?_
  case ym1q6 =>
    intro w' hS
    (have a0 := hS.1.c0; have a1 := hS.1.c1; have b0 := hS.2.1.c0; have b1 := hS.2.1.c1; clear hS)
    go_simp
    try with_reducible rfl
  refine wpAnyH_take (i := 7) (v := ?vm1q7) rfl (by kernel_rfl) (by kernel_rfl) (by kernel_rfl) (fun _ _ _ h => h) (.inl ⟨by first | kernel_rfl | rfl, ?ym1q7⟩) hS0 ?_
  case ym1q7 =>
    intro w' hS
    (have a0 := hS.1.c0; have a1 := hS.1.c1; have b0 := hS.2.1.c0; have b1 := hS.2.1.c1; clear hS)
    go_simp
    try with_reducible rfl
  refine wpAnyH_take (i := 8) (v := ?vm1q8) rfl (by kernel_rfl) (by kernel_rfl) (by kernel_rfl) (fun _ _ _ h => h) (.inl ⟨by first | kernel_rfl | rfl, ?ym1q8⟩) hS0 ?_
  case ym1q8 =>
    intro w' hS
    (have a0 := hS.1.c0; have a1 := hS.1.c1; have b0 := hS.2.1.c0; have b1 := hS.2.1.c1; clear hS)
    go_simp
    try with_reducible rfl
  refine wpAnyH_ready (rs := [9]) (by kernel_rfl) (by simp) ?_
  refine AllReadyH.cons rfl (fun K' hK' => ?_) AllReadyH.nil
  rw [if_pos (by first | kernel_rfl | rfl)]
  go_simp
  refine (l01Gcd_c y y' _ (by omega) (by omega)).mono ?_
  rintro e w1 ⟨he, hb⟩
  rw [HG.out] at he
  subst he
  refine hK'.out _ _ ⟨hS0.1.later hb, hS0.2.1.later hb, hS0.2.2.trans (hb.mono hS0.2.2.size)⟩ fun hS1 => ?_
  refine wpAnyH_take (i := 10) (v := (.int .i64 r)) rfl (by kernel_rfl) (by kernel_rfl) (by kernel_rfl) (fun _ _ _ h => h) (.inl ⟨by first | kernel_rfl | rfl, ?ym2q10⟩) hS1 ?_
  case ym2q10 =>
    intro w' hS
    (clear hS)
    go_simp
    first | done | (simp; done) | (simp; omega) | omega | (simp [*]; done)
  refine wpAnyH_take (i := 11) (v := (.bool (meet2 x y x' y'))) rfl (by kernel_rfl) (by kernel_rfl) (by kernel_rfl) (fun _ _ _ h => h) (.inl ⟨by first | kernel_rfl | rfl, ?ym3q11⟩) hS1 ?_
  case ym3q11 =>
    intro w' hS
    (clear hS; rw [Hm.out, ← beq_dec])
    go_simp
    first | done | (simp; done) | (simp; omega) | omega | (simp [*]; done)
  refine wpAnyH_take (i := 12) (v := ?vm4q12) rfl (by kernel_rfl) (by kernel_rfl) (by kernel_rfl) (fun _ _ _ h => h) (.inl ⟨by first | kernel_rfl | rfl, ?ym4q12⟩) hS1 ?_
  case ym4q12 =>
    intro w' hS
    (clear hS)
    go_simp
    try with_reducible rfl
  refine wpAnyH_done (by kernel_rfl) ?_ _
  go_wp2
  go_ret
  exact ⟨rfl, hS1.2.2⟩

theorem l05Meet_d (d : Bool) (x y x' y' : Int) (w : World) (hx : -1000 ≤ x ∧ x ≤ 1000) (hx' : -1000 ≤ x' ∧ x' ≤ 1000) (hy : 1 ≤ y ∧ y ≤ 1000) (hy' : 0 ≤ y' ∧ y' ≤ 1000) (hd : meet2 x y x' y' = d) :
    Calls Try.prog 177 #[.agg #[.int .i64 x, .int .i64 y], .agg #[.int .i64 x', .int .i64 y']] w fun e w' => e = .returned (.bool d) ∧ Below w.heap.size w w' := by
  have h := l05Meet_c x x' y.toNat y'.toNat w hx hx' (by omega) (by omega)
  rw [show ((y.toNat : Nat) : Int) = y by omega, show ((y'.toNat : Nat) : Int) = y' by omega, hd] at h
  exact h

end Go.Proofs.Ytbhpflhopajbfaa
