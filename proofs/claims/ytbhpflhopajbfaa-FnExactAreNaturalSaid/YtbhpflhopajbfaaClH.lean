/-
  Slots in classes, the least open slot: FirstUncovered, DoCover of both.
  Conditions: lists of at most 1048576 elements.
-/
import Derived.Test.YtbhpflhopajbfaaClF
import Derived.WalkMore
namespace Go.Proofs.Ytbhpflhopajbfaa
open Go.RowKit Go.Shelf
attribute [local go_sem] Oper.semAt_some

theorem hasB_nat {cs : List (Int × Int)} {k g n : Nat} (hg : gp cs k = g) : hasB cs k n = decide (((n % g : Nat) : Int) = rst cs k) := by
  unfold hasB
  rw [hg]
  rfl

/-! ### codes -/
def coC (cs : List (Int × Int)) : Int := if clsOk cs then (if 100000 < spanN cs then 3 else 0) else 1
def opN (cs : List (Int × Int)) : Int := openTo cs (spanN cs)
def fuC (cs : List (Int × Int)) : Int := if coC cs = 0 then (if opN cs < 0 then 4 else 0) else coC cs
def fuV (cs : List (Int × Int)) : Int := if fuC cs = 0 then opN cs else 0
def dcV (cs : List (Int × Int)) : Bool := decide (coC cs = 0 ∧ opN cs < 0)
theorem coC_zero {cs : List (Int × Int)} (h : coC cs = 0) : clsOk cs = true ∧ spanN cs ≤ 100000 := by
  unfold coC at h
  cases hc : clsOk cs
  · rw [hc] at h; simp at h
  · rw [hc] at h
    refine ⟨rfl, ?_⟩
    by_cases hs : 100000 < spanN cs
    · rw [if_pos rfl, if_pos hs] at h; simp at h
    · omega

/-! ### the program -/
set_option maxRecDepth 100000 in
set_option maxHeartbeats 8000000 in
theorem has_c (d : Bool) (x : Int) (g n : Nat) (w : World) (h0 : 0 < g) (hd : decide (((n % g : Nat) : Int) = x) = d) :
    Calls Try.prog 194 #[.agg #[.int .i64 x, .int .i64 g], .int .i64 n] w fun e w' => e = .returned (.bool d) ∧ Below w.heap.size w w' := by
  have hz : ((g : Nat) : Int) ≠ 0 := by omega
  have hmo : ((n : Nat) : Int).tmod ((g : Nat) : Int) = ((n % g : Nat) : Int) := rfl
  have hme : ((n : Nat) : Int) % ((g : Nat) : Int) = ((n % g : Nat) : Int) := by simp
  obtain ⟨r, hr⟩ : ∃ r, n % g = r := ⟨_, rfl⟩
  rw [hr] at hmo hme hd
  have Hd := Lib.hid hd
  clear hr hd
  have hfw : Try.prog.follows Departure.mixedOrders = true := by kernel_rfl
  have hS : Box2 (w.alloc (.cells #[.int .i64 x, .int .i64 g] 106)).drew w.heap.size 106 (.int .i64 x) (.int .i64 g) ∧ Below w.heap.size w (w.alloc (.cells #[.int .i64 x, .int .i64 g] 106)).drew := ⟨Box2.new _ _ _ _, ((Below.refl _ _).alloc (Nat.le_refl _) _).drew⟩
  go_enter Try.func194, Try.ntmps194
  go_wp2_with fail
  refine wp_region_held_drew (S := fun w' => Box2 w' w.heap.size 106 (.int .i64 x) (.int .i64 g) ∧ Below w.heap.size w w') hfw hS ?_
  intro hS0
  refine wpAnyH_take (i := 0) (v := ?vh1q0) rfl (by kernel_rfl) (by kernel_rfl) (by kernel_rfl) (fun _ _ _ h => h) (.inl ⟨by first | kernel_rfl | rfl, ?yh1q0⟩) hS0 ?_
  case yh1q0 =>
    intro w' hS
    (have a0 := hS.1.c0; have a1 := hS.1.c1; clear hS)
    go_simp
    try with_reducible rfl
  refine wpAnyH_take (i := 1) (v := ?vh1q1) rfl (by kernel_rfl) (by kernel_rfl) (by kernel_rfl) (fun _ _ _ h => h) (.inl ⟨by first | kernel_rfl | rfl, ?yh1q1⟩) hS0 ?_
  case yh1q1 =>
    intro w' hS
    (have a0 := hS.1.c0; have a1 := hS.1.c1; clear hS)
    go_simp
    try with_reducible rfl
  refine wpAnyH_take (i := 4) (v := ?vh1q4) rfl (by kernel_rfl) (by kernel_rfl) (by kernel_rfl) (fun _ _ _ h => h) (.inl ⟨by first | kernel_rfl | rfl, ?yh1q4⟩) hS0 ?_
  case yh1q4 =>
    intro w' hS
    (have a0 := hS.1.c0; have a1 := hS.1.c1; clear hS)
    go_simp
    try with_reducible rfl
  refine wpAnyH_ready (rs := [2]) (by kernel_rfl) (by simp) ?_
  refine AllReadyH.cons rfl (fun K' hK' => ?_) AllReadyH.nil
  rw [if_pos (by first | kernel_rfl | rfl)]
  go_simp
  refine (gap_c x g _).mono ?_
  rintro e w1 ⟨rfl, hb1⟩
  refine hK'.out _ _ ⟨hS0.1.later hb1, hS0.2.trans (hb1.mono hS0.2.size)⟩ fun hS1 => ?_
  refine wpAnyH_take (i := 3) (v := (.int .i64 r)) rfl (by kernel_rfl) (by kernel_rfl) (by kernel_rfl) (fun _ _ _ h => h) (.inl ⟨by first | kernel_rfl | rfl, ?yh2q3⟩) hS1 ?_
  case yh2q3 =>
    intro w' hS
    (have hz3 : g ≠ 0 := (by omega); clear hS)
    go_simp
    first | done | (simp; done) | (simp; omega) | omega | (simp [*]; done)
  refine wpAnyH_ready (rs := [5]) (by kernel_rfl) (by simp) ?_
  refine AllReadyH.cons rfl (fun K' hK' => ?_) AllReadyH.nil
  rw [if_pos (by first | kernel_rfl | rfl)]
  go_simp
  refine (rest_c x g _).mono ?_
  rintro e w2 ⟨rfl, hb2⟩
  refine hK'.out _ _ ⟨hS1.1.later hb2, hS1.2.trans (hb2.mono hS1.2.size)⟩ fun hS2 => ?_
  refine wpAnyH_take (i := 6) (v := (.bool d)) rfl (by kernel_rfl) (by kernel_rfl) (by kernel_rfl) (fun _ _ _ h => h) (.inl ⟨by first | kernel_rfl | rfl, ?yh3q6⟩) hS2 ?_
  case yh3q6 =>
    intro w' hS
    (clear hS; rw [← Hd.out, ← beq_dec])
    go_simp
    first | done | (simp; done) | (simp; omega) | omega | (simp [*]; done)
  refine wpAnyH_take (i := 7) (v := ?vh4q7) rfl (by kernel_rfl) (by kernel_rfl) (by kernel_rfl) (fun _ _ _ h => h) (.inl ⟨by first | kernel_rfl | rfl, ?yh4q7⟩) hS2 ?_
  case yh4q7 =>
    intro w' hS
    (clear hS)
    go_simp
    try with_reducible rfl
  refine wpAnyH_done (by kernel_rfl) ?_ _
  go_wp2
  go_ret
  exact ⟨rfl, hS2.2⟩

end Go.Proofs.Ytbhpflhopajbfaa
