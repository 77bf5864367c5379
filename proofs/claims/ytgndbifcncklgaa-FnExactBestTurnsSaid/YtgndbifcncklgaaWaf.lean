/-
  Fractions of the program: shortened, plus, times, isLess.
  Conditions: numbers far within int64.
-/
import Derived.Test.YtgndbifcncklgaaWam
import Derived.Test.YtgndbifcncklgaaBox
namespace Go.Proofs.Ytgndbifcncklgaa
open Go.RowKit Go.Shelf
attribute [local go_sem] Oper.semAt_some

theorem ret_frac {a b a' b' : Int} (h1 : a = a') (h2 : b = b') : Ending.returned (.agg #[.int .i64 a, .int .i64 b]) = .returned (.agg #[.int .i64 a', .int .i64 b']) := by rw [h1, h2]

set_option maxRecDepth 100000 in
set_option maxHeartbeats 4000000 in
theorem shortened_c (a b : Nat) (w : World) (ha : a ≤ 4611686018427387904) (hb : b ≤ 4611686018427387904) (h0 : 0 < b) :
    Calls Try.prog 123 #[.agg #[.int .i64 (a : Int), .int .i64 (b : Int)]] w fun e w' => e = .returned (.agg #[.int .i64 (lowN a b : Nat), .int .i64 (lowD a b : Nat)]) ∧ Below w.heap.size w w' := by
  by_cases hz : a = 0
  · have h1 := Lib.hid (show lowN a b = 0 by subst hz; simp [lowN])
    have h2 := Lib.hid (show lowD a b = 1 by subst hz; simp [lowD, Nat.div_self h0])
    subst hz
    go_enter Try.func123, Try.ntmps123
    go_wp2_with fail
    refine bodyPost_ret (v := .agg #[.int .i64 0, .int .i64 1]) (by simp [results, Try.results123, go_sem]) rfl ⟨ret_frac (by rw [h1.out]; rfl) (by rw [h2.out]; rfl), ?_⟩
    exact ((Below.refl _ w).alloc (Nat.le_refl _) _).alloc (by simp) _
  · have hz' : ((a : Int) == 0) = false := by simp; omega
    have b1 := lowN_le a b
    have b2 := lowD_le a b
    go_enter Try.func123, Try.ntmps123
    go_wp2_with fail
    obtain ⟨W0, hW0⟩ : ∃ W0, (w.alloc (.cells #[.int .i64 (a : Int), .int .i64 (b : Int)] 76)).alloc (.cells #[.int .i64 0, .int .i64 0] 76) = W0 := ⟨_, rfl⟩
    have hB1 : Below w.heap.size w W0 := by rw [← hW0]; exact ((Below.refl _ w).alloc (Nat.le_refl _) _).alloc (by simp) _
    have hs1 : w.heap.size + 2 ≤ W0.heap.size := by rw [← hW0]; simp
    have bR : Box2 W0 (w.heap.size + 1) 76 (.int .i64 0) (.int .i64 0) := by rw [← hW0]; exact box2_at (by simp)
    rw [hW0]
    clear hW0
    refine (lowestTerms_c a b _ ha hb h0).mono ?_
    rintro e w2 ⟨rfl, hb2⟩
    replace bR := bR.later hb2
    have f0 := bR.frozen 0
    have f1 := bR.frozen 1
    have c0 := bR.c0
    have c1 := bR.c1
    have hB2 := hB1.trans (hb2.mono (by omega))
    obtain ⟨p, hp⟩ : ∃ p, lowN a b = p := ⟨_, rfl⟩
    obtain ⟨q, hq⟩ : ∃ q, lowD a b = q := ⟨_, rfl⟩
    rw [hp] at b1
    rw [hq] at b2
    have Hp := Lib.hid hp
    have Hq := Lib.hid hq
    rw [hp, hq]
    clear hp hq hb2 hB1
    go_wp2_with fail
    have b3 := (bR.set0 (.int .i64 (p : Int))).set1 (.int .i64 (q : Int))
    have d0 := b3.c0
    have d1 := b3.c1
    refine bodyPost_ret (v := .agg #[.int .i64 (p : Int), .int .i64 (q : Int)]) (by simp [results, Try.results123, go_sem, d0, d1]) rfl ⟨ret_frac (by rw [Hp.out]) (by rw [Hq.out]), ?_⟩
    exact (hB2.setCell (p := ⟨w.heap.size + 1, 0, none⟩) (by simp) _).setCell (p := ⟨w.heap.size + 1, 1, none⟩) (by simp) _

set_option maxRecDepth 100000 in
set_option maxHeartbeats 4000000 in
theorem times_c (a b n : Nat) (w : World) (ha : a * n ≤ 4611686018427387904) :
    Calls Try.prog 122 #[.agg #[.int .i64 (a : Int), .int .i64 (b : Int)], .int .i64 n] w fun e w' => e = .returned (.agg #[.int .i64 (a * n : Nat), .int .i64 (b : Nat)]) ∧ Below w.heap.size w w' := by
  have hm : (a : Int) * (n : Int) = ((a * n : Nat) : Int) := by simp
  obtain ⟨m, hmm⟩ : ∃ m, a * n = m := ⟨_, rfl⟩
  rw [hmm] at hm ha
  have Hm := Lib.hid hmm
  clear hmm
  go_enter Try.func122, Try.ntmps122
  go_wp2_with fail
  have b3 : Box2 ((w.alloc (.cells #[.int .i64 (a : Int), .int .i64 (b : Int)] 76)).alloc (.cells #[.int .i64 (m : Int), .int .i64 (b : Int)] 76)) (w.heap.size + 1) 76 (.int .i64 (m : Int)) (.int .i64 (b : Int)) := box2_at (by simp)
  have d0 := b3.c0
  have d1 := b3.c1
  refine bodyPost_ret (v := .agg #[.int .i64 (m : Int), .int .i64 (b : Int)]) (by simp [results, Try.results122, go_sem, d0, d1]) rfl ⟨ret_frac (by rw [Hm.out]) rfl, ?_⟩
  exact ((Below.refl _ w).alloc (Nat.le_refl _) _).alloc (by simp) _

set_option maxRecDepth 100000 in
set_option maxHeartbeats 8000000 in
theorem plus_c (a b c d : Nat) (w : World) (hb : 0 < b) (hd : 0 < d) (h1 : a * d + c * b ≤ 4611686018427387904) (h2 : b * d ≤ 4611686018427387904) :
    Calls Try.prog 121 #[.agg #[.int .i64 (a : Int), .int .i64 (b : Int)], .agg #[.int .i64 (c : Int), .int .i64 (d : Int)]] w fun e w' => e = .returned (.agg #[.int .i64 (lowN (a * d + c * b) (b * d) : Nat), .int .i64 (lowD (a * d + c * b) (b * d) : Nat)]) ∧ Below w.heap.size w w' := by
  have m1 : (a : Int) * (d : Int) = ((a * d : Nat) : Int) := by simp
  have m2 : (c : Int) * (b : Int) = ((c * b : Nat) : Int) := by simp
  have m3 : (b : Int) * (d : Int) = ((b * d : Nat) : Int) := by simp
  have hp3 : 0 < b * d := Nat.mul_pos hb hd
  obtain ⟨x, hx⟩ : ∃ x, a * d = x := ⟨_, rfl⟩
  obtain ⟨y, hy⟩ : ∃ y, c * b = y := ⟨_, rfl⟩
  obtain ⟨z, hz⟩ : ∃ z, b * d = z := ⟨_, rfl⟩
  rw [hx] at m1 h1
  rw [hy] at m2 h1
  rw [hz] at m3 h2 hp3
  rw [hx, hy, hz]
  obtain ⟨s, hs⟩ : ∃ s, x + y = s := ⟨_, rfl⟩
  have m4 : (x : Int) + (y : Int) = (s : Int) := by rw [← hs]; simp
  have hxs : x ≤ s := by omega
  have hys : y ≤ s := by omega
  rw [hs] at h1 ⊢
  clear hx hy hz hs
  go_enter Try.func121, Try.ntmps121
  go_wp2_with fail
  obtain ⟨W0, hW0⟩ : ∃ W0, ((w.alloc (.cells #[.int .i64 (a : Int), .int .i64 (b : Int)] 76)).alloc (.cells #[.int .i64 (c : Int), .int .i64 (d : Int)] 76)).alloc (.cells #[.int .i64 0, .int .i64 0] 76) = W0 := ⟨_, rfl⟩
  have hB1 : Below w.heap.size w W0 := by rw [← hW0]; exact (((Below.refl _ w).alloc (Nat.le_refl _) _).alloc (by simp) _).alloc (by simp; omega) _
  have hs1 : w.heap.size + 3 ≤ W0.heap.size := by rw [← hW0]; simp
  have bR : Box2 W0 (w.heap.size + 1 + 1) 76 (.int .i64 0) (.int .i64 0) := by rw [← hW0]; exact box2_at (by simp)
  rw [hW0]
  clear hW0
  refine (shortened_c s z _ h1 h2 hp3).mono ?_
  rintro e w2 ⟨rfl, hb2⟩
  replace bR := bR.later hb2
  have f0 := bR.frozen 0
  have f1 := bR.frozen 1
  have c0 := bR.c0
  have c1 := bR.c1
  have hB2 := hB1.trans (hb2.mono (by omega))
  clear hb2 hB1
  obtain ⟨p, hp⟩ : ∃ p, lowN s z = p := ⟨_, rfl⟩
  obtain ⟨q, hq⟩ : ∃ q, lowD s z = q := ⟨_, rfl⟩
  have Hp := Lib.hid hp
  have Hq := Lib.hid hq
  rw [hp, hq]
  clear hp hq
  go_wp2_with fail
  have b3 := (bR.set0 (.int .i64 (p : Int))).set1 (.int .i64 (q : Int))
  have d0 := b3.c0
  have d1 := b3.c1
  refine bodyPost_ret (v := .agg #[.int .i64 (p : Int), .int .i64 (q : Int)]) (by simp [results, Try.results121, go_sem, d0, d1]) rfl ⟨ret_frac (by rw [Hp.out]) (by rw [Hq.out]), ?_⟩
  exact (hB2.setCell (p := ⟨w.heap.size + 1 + 1, 0, none⟩) (by simp; omega) _).setCell (p := ⟨w.heap.size + 1 + 1, 1, none⟩) (by simp; omega) _

set_option maxRecDepth 100000 in
set_option maxHeartbeats 8000000 in
theorem isLess_c (a b c d : Nat) (w : World) (r : Bool) (hr : decide (a * d < c * b) = r) (h1 : a * d ≤ 4611686018427387904) (h2 : c * b ≤ 4611686018427387904) :
    Calls Try.prog 118 #[.agg #[.int .i64 (a : Int), .int .i64 (b : Int)], .agg #[.int .i64 (c : Int), .int .i64 (d : Int)]] w fun e w' => e = .returned (.bool r) ∧ Below w.heap.size w w' := by
  have m1 : (a : Int) * (d : Int) = ((a * d : Nat) : Int) := by simp
  have m2 : (c : Int) * (b : Int) = ((c * b : Nat) : Int) := by simp
  obtain ⟨x, hx⟩ : ∃ x, a * d = x := ⟨_, rfl⟩
  obtain ⟨y, hy⟩ : ∃ y, c * b = y := ⟨_, rfl⟩
  rw [hx] at m1 h1 hr
  rw [hy] at m2 h2 hr
  have Hr := Lib.hid hr
  clear hx hy hr
  go_enter Try.func118, Try.ntmps118
  go_wp2_with fail
  go_ret
  exact ⟨ret_bool (by rw [← Hr.out]), ((Below.refl _ w).alloc (Nat.le_refl _) _).alloc (by simp) _⟩

end Go.Proofs.Ytgndbifcncklgaa
