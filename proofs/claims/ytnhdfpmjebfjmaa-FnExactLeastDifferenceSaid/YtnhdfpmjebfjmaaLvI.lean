/-
  Level turns of the program, first part: shares, the rules of slots, the first least of a ranking.
  Conditions: lists of at most 1048576 elements.
-/
import Derived.Test.YtnhdfpmjebfjmaaLvD
import Derived.Test.YtnhdfpmjebfjmaaGrI
import Derived.Test.YtnhdfpmjebfjmaaCls
namespace Go.Proofs.Ytnhdfpmjebfjmaa
open Go.RowKit Go.Shelf
attribute [local go_sem] Oper.semAt_some

theorem ret_ib {a a' : Int} {b b' : Bool} (h : a = a') (k : b = b') : Ending.returned (.tuple #[.int .i64 a, .bool b]) = .returned (.tuple #[.int .i64 a', .bool b']) := by rw [h, k]

/-! ### rules -/
/-- a next turn: all units, its share, how many turns it has had, the slot -/
def ntV (u s h sl : Int) : Value := .agg #[.int .i64 u, .int .i64 s, .int .i64 h, .int .i64 sl]
structure NtB (u s h sl : Int) : Prop where
  u : 0 ≤ u ∧ u ≤ 60
  s : 1 ≤ s ∧ s ≤ 60
  h : 0 ≤ h ∧ h ≤ 60
  sl : 0 ≤ sl ∧ sl ≤ 60

/-- a variable of four ints -/
def Boxed4 (W : World) (b : Nat) (t : TypeId) (x y z v : Int) : Prop := W.heap[b]? = some (.cells #[.int .i64 x, .int .i64 y, .int .i64 z, .int .i64 v] t (0, 0))
section
variable {W W' : World} {b : Nat} {t : TypeId} {x y z v : Int}
theorem Boxed4.lt (h : Boxed4 W b t x y z v) : b < W.heap.size := (Array.getElem?_eq_some_iff.1 h).1
theorem Boxed4.new (W : World) (t : TypeId) (x y z v : Int) : Boxed4 (W.alloc (.cells #[.int .i64 x, .int .i64 y, .int .i64 z, .int .i64 v] t)) W.heap.size t x y z v := World.alloc_heap_new W _
theorem Boxed4.later (h : Boxed4 W b t x y z v) (hb : Below W.heap.size W W') : Boxed4 W' b t x y z v := (hb.block b h.lt).trans h
theorem Boxed4.c0 (h : Boxed4 W b t x y z v) : W.cell? ⟨b, 0, none⟩ = some (.int .i64 x) := by simp [World.cell?, show W.heap[b]? = _ from h]
theorem Boxed4.c1 (h : Boxed4 W b t x y z v) : W.cell? ⟨b, 1, none⟩ = some (.int .i64 y) := by simp [World.cell?, show W.heap[b]? = _ from h]
theorem Boxed4.c2 (h : Boxed4 W b t x y z v) : W.cell? ⟨b, 2, none⟩ = some (.int .i64 z) := by simp [World.cell?, show W.heap[b]? = _ from h]
theorem Boxed4.c3 (h : Boxed4 W b t x y z v) : W.cell? ⟨b, 3, none⟩ = some (.int .i64 v) := by simp [World.cell?, show W.heap[b]? = _ from h]
end

set_option maxRecDepth 100000 in
set_option maxHeartbeats 4000000 in
theorem differenceWith_c (u s h sl x : Int) (w : World) (hB : NtB u s h sl) (hx : 0 ≤ x ∧ x ≤ 61) :
    Calls Try.prog 119 #[ntV u s h sl, .int .i64 x] w fun e w' => e = .returned (.int .i64 (u * x - (sl + 1) * s)) ∧ Below w.heap.size w w' := by
  obtain ⟨h1, h2, h3, h4⟩ := hB
  have b1 := mul_bd60 (a := u) (A := 60) (b := x) (B := 61) (by omega) (by omega) (by omega) (by omega)
  have b2 := mul_bd60 (a := sl + 1) (A := 61) (b := s) (B := 60) (by omega) (by omega) (by omega) (by omega)
  obtain ⟨p1, q1⟩ : ∃ p, u * x = p := ⟨_, rfl⟩
  obtain ⟨p2, q2⟩ : ∃ p, (sl + 1) * s = p := ⟨_, rfl⟩
  rw [q1] at b1 ⊢
  rw [q2] at b2 ⊢
  have hB0 : Below w.heap.size w (w.alloc (.cells #[.int .i64 u, .int .i64 s, .int .i64 h, .int .i64 sl] 106)) := (Below.refl _ w).alloc (Nat.le_refl _) _
  unfold ntV
  go_enter Try.func119, Try.ntmps119
  go_wp2
  go_ret
  exact ⟨rfl, hB0⟩

set_option maxRecDepth 100000 in
set_option maxHeartbeats 4000000 in
theorem lastSlot_c (u s h sl b : Int) (w : World) (hB : NtB u s h sl) (hb : 0 ≤ b ∧ b ≤ 3600) :
    Calls Try.prog 120 #[ntV u s h sl, .int .i64 b] w fun e w' => e = .returned (.int .i64 (min ((b + u * h) / s) (u - 1))) ∧ Below w.heap.size w w' := by
  obtain ⟨h1, h2, h3, h4⟩ := hB
  have b1 := mul_bd60 (a := u) (A := 60) (b := h) (B := 60) (by omega) (by omega) (by omega) (by omega)
  obtain ⟨p1, q1⟩ : ∃ p, u * h = p := ⟨_, rfl⟩
  rw [q1] at b1 ⊢
  have d1 : 0 ≤ (b + p1) / s := Int.ediv_nonneg (by omega) (by omega)
  have d2 : (b + p1) / s ≤ b + p1 := Int.ediv_le_self _ (by omega)
  have dq : (b + p1).tdiv s = (b + p1) / s := Int.tdiv_eq_ediv_of_nonneg (by omega)
  have hz : ¬ s = 0 := by omega
  obtain ⟨e, he⟩ : ∃ e, (b + p1) / s = e := ⟨_, rfl⟩
  rw [he] at d1 d2 dq ⊢
  clear he
  have hB0 : Below w.heap.size w (w.alloc (.cells #[.int .i64 u, .int .i64 s, .int .i64 h, .int .i64 sl] 106)) := (Below.refl _ w).alloc (Nat.le_refl _) _
  unfold ntV
  by_cases hm : u - 1 < e
  · have Hv := Lib.hid (show min e (u - 1) = u - 1 by omega)
    go_enter Try.func120, Try.ntmps120
    go_wp2
    go_quiet (fail)
    go_wp2
    go_ret
    exact ⟨ret_int Hv.out.symm, below_drewN hB0 _⟩
  · have Hv := Lib.hid (show min e (u - 1) = e by omega)
    go_enter Try.func120, Try.ntmps120
    go_wp2
    go_quiet (fail)
    go_wp2
    go_ret
    exact ⟨ret_int Hv.out.symm, below_drewN hB0 _⟩

set_option maxRecDepth 100000 in
set_option maxHeartbeats 4000000 in
theorem rankByGreed_c (u s h sl b : Int) (w : World) (hB : NtB u s h sl) :
    Calls Try.prog 99 #[ntV u s h sl, .int .i64 b] w fun e w' => e = .returned (.tuple #[.int .i64 (u * h - (sl + 1) * s), .bool true]) ∧ Below w.heap.size w w' := by
  have hB0 : Below w.heap.size w (w.alloc (.cells #[.int .i64 u, .int .i64 s, .int .i64 h, .int .i64 sl] 106)) := (Below.refl _ w).alloc (Nat.le_refl _) _
  have hh := hB.h
  unfold ntV
  go_enter Try.func99, Try.ntmps99
  go_wp2_with fail
  refine (differenceWith_c u s h sl h _ hB (by omega)).mono ?_
  rintro e w1 ⟨rfl, hb⟩
  go_wp2
  go_ret2
  exact ⟨rfl, hB0.trans (hb.mono (by simp))⟩

set_option maxRecDepth 100000 in
set_option maxHeartbeats 4000000 in
theorem rankByDeadlines_c (u s h sl b : Int) (w : World) (hB : NtB u s h sl) (hb : 0 ≤ b ∧ b ≤ 3600) :
    Calls Try.prog 100 #[ntV u s h sl, .int .i64 b] w fun e w' => e = .returned (.tuple #[.int .i64 (min ((b + u * h) / s) (u - 1)), .bool (decide (sl ≤ min ((b + u * h) / s) (u - 1)) && decide (u * (h + 1) - (sl + 1) * s ≤ b))]) ∧ Below w.heap.size w w' := by
  have hB0 : Below w.heap.size w (w.alloc (.cells #[.int .i64 u, .int .i64 s, .int .i64 h, .int .i64 sl] 106)) := (Below.refl _ w).alloc (Nat.le_refl _) _
  have hh := hB.h
  have hsl := hB.sl
  obtain ⟨m, hm⟩ : ∃ m, min ((b + u * h) / s) (u - 1) = m := ⟨_, rfl⟩
  obtain ⟨d, hd⟩ : ∃ d, u * (h + 1) - (sl + 1) * s = d := ⟨_, rfl⟩
  rw [hm, hd]
  have Hm := Lib.hid hm
  have Hd := Lib.hid hd
  have HB := Lib.hid hB
  clear hm hd hB
  unfold ntV
  have four : Boxed4 (w.alloc (.cells #[.int .i64 u, .int .i64 s, .int .i64 h, .int .i64 sl] 106)) w.heap.size 106 u s h sl := Boxed4.new _ _ _ _ _ _
  by_cases hc : sl ≤ m
  · by_cases hc2 : d ≤ b
    · have Hv := Lib.hid (show (decide (sl ≤ m) && decide (d ≤ b)) = true by rw [decide_eq_true hc, decide_eq_true hc2]; rfl)
      go_enter Try.func100, Try.ntmps100
      go_wp2_with fail
      refine (lastSlot_c u s h sl b _ HB.out hb).mono ?_
      rintro e w1 ⟨he, hb1⟩
      rw [Hm.out] at he
      subst he
      have four1 := four.later hb1
      have k0 := four1.c0
      have k1 := four1.c1
      have k2 := four1.c2
      have k3 := four1.c3
      go_wp2_with fail
      refine (differenceWith_c u s h sl (h + 1) _ HB.out (by omega)).mono ?_
      rintro e w2 ⟨he, hb2⟩
      rw [Hd.out] at he
      subst he
      have hB2 := (hB0.trans (hb1.mono (by simp))).trans (hb2.mono (by have := hb1.size; simp at this; omega))
      go_wp2
      go_ret2
      exact ⟨ret_ib rfl Hv.out.symm, hB2⟩
    · go_enter Try.func100, Try.ntmps100
      go_wp2_with fail
      refine (lastSlot_c u s h sl b _ HB.out hb).mono ?_
      rintro e w1 ⟨he, hb1⟩
      rw [Hm.out] at he
      subst he
      have four1 := four.later hb1
      have k0 := four1.c0
      have k1 := four1.c1
      have k2 := four1.c2
      have k3 := four1.c3
      go_wp2_with fail
      refine (differenceWith_c u s h sl (h + 1) _ HB.out (by omega)).mono ?_
      rintro e w2 ⟨he, hb2⟩
      rw [Hd.out] at he
      subst he
      have hB2 := (hB0.trans (hb1.mono (by simp))).trans (hb2.mono (by have := hb1.size; simp at this; omega))
      go_wp2
      go_ret2
      exact ⟨ret_ib rfl (by rw [decide_eq_true hc]; rfl), hB2⟩
  · have Hv := Lib.hid (show (decide (sl ≤ m) && decide (d ≤ b)) = false by rw [decide_eq_false hc]; simp)
    go_enter Try.func100, Try.ntmps100
    go_wp2_with fail
    refine (lastSlot_c u s h sl b _ HB.out hb).mono ?_
    rintro e w1 ⟨he, hb1⟩
    rw [Hm.out] at he
    subst he
    have four1 := four.later hb1
    have k0 := four1.c0
    have k1 := four1.c1
    have k2 := four1.c2
    have k3 := four1.c3
    have hB2 := hB0.trans (hb1.mono (by simp))
    go_wp2
    go_ret2
    exact ⟨ret_ib rfl Hv.out.symm, hB2⟩

/-! ### the first least of a ranking -/
theorem isNaNL_c (x : Int) (w : World) : Calls Try.prog 128 #[.int .i64 x] w fun e w' => e = .returned (.bool false) ∧ w = w' := by
  go_enter Try.func128, Try.ntmps128
  go_wp2
  go_ret
  exact ⟨ret_bool (by simp), rfl⟩
def cmpL (x y : Int) : Int := if x < y then -1 else if y < x then 1 else 0
theorem compareL_c (x y : Int) (w : World) : Calls Try.prog 118 #[.int .i64 x, .int .i64 y] w fun e w' => e = .returned (.int .i64 (cmpL x y)) ∧ w = w' := by
  by_cases h1 : x < y
  · have Hc := Lib.hid (show cmpL x y = -1 by unfold cmpL; rw [if_pos h1])
    go_enter Try.func118, Try.ntmps118
    go_wp2_with (go_at_call 128; refine (isNaNL_c _ _).mono ?_; rintro e w' ⟨rfl, rfl⟩)
    go_ret
    exact ⟨ret_int Hc.out.symm, rfl⟩
  · by_cases h2 : y < x
    · have Hc := Lib.hid (show cmpL x y = 1 by unfold cmpL; rw [if_neg h1, if_pos h2])
      go_enter Try.func118, Try.ntmps118
      go_wp2_with (go_at_call 128; refine (isNaNL_c _ _).mono ?_; rintro e w' ⟨rfl, rfl⟩)
      go_ret
      exact ⟨ret_int Hc.out.symm, rfl⟩
    · have Hc := Lib.hid (show cmpL x y = 0 by unfold cmpL; rw [if_neg h1, if_neg h2])
      go_enter Try.func118, Try.ntmps118
      go_wp2_with (go_at_call 128; refine (isNaNL_c _ _).mono ?_; rintro e w' ⟨rfl, rfl⟩)
      go_ret
      exact ⟨ret_int Hc.out.symm, rfl⟩

theorem leastBy_c (x r y q : Int) (w : World) : Calls Try.prog 117 #[.agg #[.int .i64 x, .int .i64 r], .agg #[.int .i64 y, .int .i64 q]] w fun e w' => e = .returned (.int .i64 (cmpL r q)) ∧ Below w.heap.size w w' := by
  have hB0 : Below w.heap.size w ((w.alloc (.cells #[.int .i64 x, .int .i64 r] 108)).alloc (.cells #[.int .i64 y, .int .i64 q] 108)) := ((Below.refl _ w).alloc (Nat.le_refl _) _).alloc (by simp) _
  go_enter Try.func117, Try.ntmps117
  go_wp2_with fail
  refine (compareL_c _ _ _).mono ?_
  rintro e w' ⟨rfl, rfl⟩
  go_wp2
  go_ret
  exact ⟨rfl, hB0⟩

/-- the place j of a list of pairs is the first one of those with the least second number -/
def FstLeast (cs : List (Int × Int)) (k j : Nat) : Prop := j < k ∧ ∀ i, i < k → gp cs j ≤ gp cs i ∧ (i < j → gp cs j < gp cs i)
theorem FstLeast.one (cs : List (Int × Int)) : FstLeast cs 1 0 := ⟨by omega, fun i hi => by
  obtain rfl : i = 0 := by omega
  exact ⟨Int.le_refl _, fun h => by omega⟩⟩
theorem FstLeast.new {cs : List (Int × Int)} {k j : Nat} (h : FstLeast cs k j) (hlt : gp cs k < gp cs j) : FstLeast cs (k + 1) k := ⟨by omega, fun i hi => by
  by_cases e : i = k
  · subst e; exact ⟨Int.le_refl _, fun h => by omega⟩
  · have := h.2 i (by omega); omega⟩
theorem FstLeast.old {cs : List (Int × Int)} {k j : Nat} (h : FstLeast cs k j) (hlt : ¬ gp cs k < gp cs j) : FstLeast cs (k + 1) j := ⟨by have := h.1; omega, fun i hi => by
  by_cases e : i = k
  · subst e; have := h.1; exact ⟨by omega, fun h => by omega⟩
  · exact h.2 i (by omega)⟩

set_option maxRecDepth 100000 in
set_option maxHeartbeats 8000000 in
theorem minFunc_c (sv : Value) (cs : List (Int × Int)) (w : World) (hI : Cls w.heap.size w sv cs) (h0 : 0 < cs.length) (hl : cs.length ≤ 8) :
    Calls Try.prog 116 #[sv, .func (.func 117) #[] #[]] w fun e w' => ∃ j, FstLeast cs cs.length j ∧ e = .returned (.agg #[.int .i64 (rst cs j), .int .i64 (gp cs j)]) ∧ Below w.heap.size w w' := by
  obtain ⟨a, cap, rfl⟩ := hI.shape
  obtain ⟨b, off, rfl, hbb, hc⟩ := hI.at_ h0
  obtain ⟨e1, e2⟩ := hc 0 h0
  rw [Nat.zero_mul, Nat.add_zero] at e1 e2
  have hfw : Try.prog.follows Departure.mixedOrders = true := by kernel_rfl
  have Hc := Lib.hid hc
  obtain ⟨W0, hW0⟩ : ∃ W0, (w.alloc (.cells #[.int .i64 0, .int .i64 0] 108)).alloc (.cells #[.int .i64 (rst cs 0), .int .i64 (gp cs 0)] 108) = W0 := ⟨_, rfl⟩
  have hB0 : Below w.heap.size w W0 := by rw [← hW0]; exact ((Below.refl _ w).alloc (Nat.le_refl _) _).alloc (by simp) _
  have hs0 : w.heap.size + 2 ≤ W0.heap.size := by rw [← hW0]; simp
  have bR : Box2 W0 w.heap.size 108 (.int .i64 0) (.int .i64 0) := by rw [← hW0]; exact (Box2.new w _ _ _).alloc _
  have bM : Box2 W0 (w.heap.size + 1) 108 (.int .i64 (rst cs 0)) (.int .i64 (gp cs 0)) := by rw [← hW0]; refine box2_at ?_; simp
  clear hc
  go_enter Try.func116, Try.ntmps116
  go_wp2
  try rw [hW0]
  clear hW0 e1 e2
  go_loopw [6] (fun i wr => ∃ (k j : Nat), (1 ≤ k ∧ k ≤ cs.length ∧ i = .int .i64 k ∧ FstLeast cs k j) ∧ Box2 wr w.heap.size 108 (.int .i64 0) (.int .i64 0) ∧ Box2 wr (w.heap.size + 1) 108 (.int .i64 (rst cs j)) (.int .i64 (gp cs j)) ∧ Below w.heap.size w wr) (fun i _ => cs.length - (intOf i).toNat)
  case atStart => exact ⟨1, 0, ⟨Nat.le_refl _, h0, rfl, FstLeast.one cs⟩, bR, bM, hB0⟩
  case round =>
    obtain ⟨k, j, ⟨hk1, hk, rfl, hfl⟩, bR1, bM1, hB⟩ := hrel
    clear bR bM hB0 hs0
    have Hfl := Lib.hid hfl
    clear hfl
    by_cases hlt : k < cs.length
    · have hki : (k : Int) < (cs.length : Int) := by omega
      obtain ⟨x1, x2⟩ := Hc.out k hlt
      have hsw := hB.size
      by_cases hcmp : gp cs k < gp cs j
      · have Hq := Lib.hid (show cmpL (gp cs k) (gp cs j) = -1 by unfold cmpL; rw [if_pos hcmp])
        have Hf2 := Lib.hid (Hfl.out.new hcmp)
        clear hcmp
        go_wp2_with fail
        refine wp_region_held_drew (S := fun w' => Box2 w' w.heap.size 108 (.int .i64 0) (.int .i64 0) ∧ Box2 w' (w.heap.size + 1) 108 (.int .i64 (rst cs j)) (.int .i64 (gp cs j)) ∧ Below w.heap.size w w') hfw ⟨bR1.later (Below.refl _ _).drew, bM1.later (Below.refl _ _).drew, hB.drew⟩ ?_
        intro hS0
        refine wpAnyH_take (i := 0) (v := ?v0) rfl (by kernel_rfl) (by kernel_rfl) (by kernel_rfl) (fun _ _ _ h => h) (.inl ⟨by rfl, ?y0⟩) hS0 ?_
        case y0 =>
          intro w' hS
          (have z1 := (hS.2.2.cell (p := ⟨b, off + k * 2, none⟩) hbb).trans x1; have z2 := (hS.2.2.cell (p := ⟨b, off + k * 2 + 1, none⟩) hbb).trans x2; have m0 := hS.2.1.c0; have m1 := hS.2.1.c1; clear hS)
          go_simp
          try with_reducible rfl
        refine wpAnyH_take (i := 1) (v := ?v1) rfl (by kernel_rfl) (by kernel_rfl) (by kernel_rfl) (fun _ _ _ h => h) (.inl ⟨by rfl, ?y1⟩) hS0 ?_
        case y1 =>
          intro w' hS
          (have z1 := (hS.2.2.cell (p := ⟨b, off + k * 2, none⟩) hbb).trans x1; have z2 := (hS.2.2.cell (p := ⟨b, off + k * 2 + 1, none⟩) hbb).trans x2; have m0 := hS.2.1.c0; have m1 := hS.2.1.c1; clear hS)
          go_simp
          try with_reducible rfl
        refine wpAnyH_take (i := 2) (v := ?v2) rfl (by kernel_rfl) (by kernel_rfl) (by kernel_rfl) (fun _ _ _ h => h) (.inl ⟨by rfl, ?y2⟩) hS0 ?_
        case y2 =>
          intro w' hS
          (have z1 := (hS.2.2.cell (p := ⟨b, off + k * 2, none⟩) hbb).trans x1; have z2 := (hS.2.2.cell (p := ⟨b, off + k * 2 + 1, none⟩) hbb).trans x2; have m0 := hS.2.1.c0; have m1 := hS.2.1.c1; clear hS)
          go_simp
          try with_reducible rfl
        refine wpAnyH_take (i := 3) (v := ?v3) rfl (by kernel_rfl) (by kernel_rfl) (by kernel_rfl) (fun _ _ _ h => h) (.inl ⟨by rfl, ?y3⟩) hS0 ?_
        case y3 =>
          intro w' hS
          (have z1 := (hS.2.2.cell (p := ⟨b, off + k * 2, none⟩) hbb).trans x1; have z2 := (hS.2.2.cell (p := ⟨b, off + k * 2 + 1, none⟩) hbb).trans x2; have m0 := hS.2.1.c0; have m1 := hS.2.1.c1; clear hS)
          go_simp
          try with_reducible rfl
        refine wpAnyH_take (i := 4) (v := ?v4) rfl (by kernel_rfl) (by kernel_rfl) (by kernel_rfl) (fun _ _ _ h => h) (.inl ⟨by rfl, ?y4⟩) hS0 ?_
        case y4 =>
          intro w' hS
          (have z1 := (hS.2.2.cell (p := ⟨b, off + k * 2, none⟩) hbb).trans x1; have z2 := (hS.2.2.cell (p := ⟨b, off + k * 2 + 1, none⟩) hbb).trans x2; have m0 := hS.2.1.c0; have m1 := hS.2.1.c1; clear hS)
          go_simp
          try with_reducible rfl
        refine wpAnyH_take (i := 5) (v := ?v5) rfl (by kernel_rfl) (by kernel_rfl) (by kernel_rfl) (fun _ _ _ h => h) (.inl ⟨by rfl, ?y5⟩) hS0 ?_
        case y5 =>
          intro w' hS
          (have z1 := (hS.2.2.cell (p := ⟨b, off + k * 2, none⟩) hbb).trans x1; have z2 := (hS.2.2.cell (p := ⟨b, off + k * 2 + 1, none⟩) hbb).trans x2; have m0 := hS.2.1.c0; have m1 := hS.2.1.c1; clear hS)
          go_simp
          try with_reducible rfl
        refine wpAnyH_ready (rs := [6]) (by kernel_rfl) (by simp) ?_
        refine AllReadyH.cons rfl (fun K' hK' => ?_) AllReadyH.nil
        rw [if_pos (by rfl)]
        go_simp
        refine (leastBy_c _ _ _ _ _).mono ?_
        rintro e w3 ⟨he, hb⟩
        rw [Hq.out] at he
        subst he
        refine hK'.out _ _ ⟨hS0.1.later hb, hS0.2.1.later hb, hS0.2.2.trans (hb.mono hS0.2.2.size)⟩ fun hS1 => ?_
        clear hb
        refine wpAnyH_take (i := 7) (v := (.bool true)) rfl (by kernel_rfl) (by kernel_rfl) (by kernel_rfl) (fun _ _ _ h => h) (.inl ⟨by first | kernel_rfl | rfl, ?ys7q7⟩) hS1 ?_
        case ys7q7 =>
          intro w' hS
          (clear hS)
          go_simp
          first | done | (simp; done) | (simp; omega) | omega | (simp [*]; done)
        refine wpAnyH_done (by kernel_rfl) ?_ _
        have x1' := (hS1.2.2.cell (p := ⟨b, off + k * 2, none⟩) hbb).trans x1
        have x2' := (hS1.2.2.cell (p := ⟨b, off + k * 2 + 1, none⟩) hbb).trans x2
        have f0 := hS1.2.1.frozen 0
        have f1 := (hS1.2.1.set0 (.int .i64 (rst cs k))).frozen 1
        have m0 := hS1.2.1.c0
        have g1 := (hS1.2.1.set0 (.int .i64 (rst cs k))).c1
        have bM2 := (hS1.2.1.set0 (.int .i64 (rst cs k))).set1 (.int .i64 (gp cs k))
        have hlt1 := hS1.1.lt
        have hlt2 := hS1.2.1.lt
        have bR2 := (hS1.1.other (i := 0) (b' := w.heap.size + 1) (by omega) (.int .i64 (rst cs k))).other (i := 1) (b' := w.heap.size + 1) (by omega) (.int .i64 (gp cs k))
        have hB2 := (hS1.2.2.setCell (p := ⟨w.heap.size + 1, 0, none⟩) (by simp) (.int .i64 (rst cs k))).setCell (p := ⟨w.heap.size + 1, 1, none⟩) (by simp) (.int .i64 (gp cs k))
        clear hS0 hS1 hB bR1 bM1 x1 x2
        go_wp2
        go_roundw
        case rel => exact ⟨k + 1, k, ⟨by omega, by omega, by simp, Hf2.out⟩, bR2, bM2, hB2⟩
        case measure => simp [intOf]; omega
      · obtain ⟨q, hq⟩ : ∃ q, cmpL (gp cs k) (gp cs j) = q := ⟨_, rfl⟩
        have hq0 : 0 ≤ q := by rw [← hq]; unfold cmpL; rw [if_neg hcmp]; split <;> omega
        have Hq := Lib.hid hq
        have Hf2 := Lib.hid (Hfl.out.old hcmp)
        clear hcmp hq
        go_wp2_with fail
        refine wp_region_held_drew (S := fun w' => Box2 w' w.heap.size 108 (.int .i64 0) (.int .i64 0) ∧ Box2 w' (w.heap.size + 1) 108 (.int .i64 (rst cs j)) (.int .i64 (gp cs j)) ∧ Below w.heap.size w w') hfw ⟨bR1.later (Below.refl _ _).drew, bM1.later (Below.refl _ _).drew, hB.drew⟩ ?_
        intro hS0
        refine wpAnyH_take (i := 0) (v := ?v0) rfl (by kernel_rfl) (by kernel_rfl) (by kernel_rfl) (fun _ _ _ h => h) (.inl ⟨by rfl, ?y0⟩) hS0 ?_
        case y0 =>
          intro w' hS
          (have z1 := (hS.2.2.cell (p := ⟨b, off + k * 2, none⟩) hbb).trans x1; have z2 := (hS.2.2.cell (p := ⟨b, off + k * 2 + 1, none⟩) hbb).trans x2; have m0 := hS.2.1.c0; have m1 := hS.2.1.c1; clear hS)
          go_simp
          try with_reducible rfl
        refine wpAnyH_take (i := 1) (v := ?v1) rfl (by kernel_rfl) (by kernel_rfl) (by kernel_rfl) (fun _ _ _ h => h) (.inl ⟨by rfl, ?y1⟩) hS0 ?_
        case y1 =>
          intro w' hS
          (have z1 := (hS.2.2.cell (p := ⟨b, off + k * 2, none⟩) hbb).trans x1; have z2 := (hS.2.2.cell (p := ⟨b, off + k * 2 + 1, none⟩) hbb).trans x2; have m0 := hS.2.1.c0; have m1 := hS.2.1.c1; clear hS)
          go_simp
          try with_reducible rfl
        refine wpAnyH_take (i := 2) (v := ?v2) rfl (by kernel_rfl) (by kernel_rfl) (by kernel_rfl) (fun _ _ _ h => h) (.inl ⟨by rfl, ?y2⟩) hS0 ?_
        case y2 =>
          intro w' hS
          (have z1 := (hS.2.2.cell (p := ⟨b, off + k * 2, none⟩) hbb).trans x1; have z2 := (hS.2.2.cell (p := ⟨b, off + k * 2 + 1, none⟩) hbb).trans x2; have m0 := hS.2.1.c0; have m1 := hS.2.1.c1; clear hS)
          go_simp
          try with_reducible rfl
        refine wpAnyH_take (i := 3) (v := ?v3) rfl (by kernel_rfl) (by kernel_rfl) (by kernel_rfl) (fun _ _ _ h => h) (.inl ⟨by rfl, ?y3⟩) hS0 ?_
        case y3 =>
          intro w' hS
          (have z1 := (hS.2.2.cell (p := ⟨b, off + k * 2, none⟩) hbb).trans x1; have z2 := (hS.2.2.cell (p := ⟨b, off + k * 2 + 1, none⟩) hbb).trans x2; have m0 := hS.2.1.c0; have m1 := hS.2.1.c1; clear hS)
          go_simp
          try with_reducible rfl
        refine wpAnyH_take (i := 4) (v := ?v4) rfl (by kernel_rfl) (by kernel_rfl) (by kernel_rfl) (fun _ _ _ h => h) (.inl ⟨by rfl, ?y4⟩) hS0 ?_
        case y4 =>
          intro w' hS
          (have z1 := (hS.2.2.cell (p := ⟨b, off + k * 2, none⟩) hbb).trans x1; have z2 := (hS.2.2.cell (p := ⟨b, off + k * 2 + 1, none⟩) hbb).trans x2; have m0 := hS.2.1.c0; have m1 := hS.2.1.c1; clear hS)
          go_simp
          try with_reducible rfl
        refine wpAnyH_take (i := 5) (v := ?v5) rfl (by kernel_rfl) (by kernel_rfl) (by kernel_rfl) (fun _ _ _ h => h) (.inl ⟨by rfl, ?y5⟩) hS0 ?_
        case y5 =>
          intro w' hS
          (have z1 := (hS.2.2.cell (p := ⟨b, off + k * 2, none⟩) hbb).trans x1; have z2 := (hS.2.2.cell (p := ⟨b, off + k * 2 + 1, none⟩) hbb).trans x2; have m0 := hS.2.1.c0; have m1 := hS.2.1.c1; clear hS)
          go_simp
          try with_reducible rfl
        refine wpAnyH_ready (rs := [6]) (by kernel_rfl) (by simp) ?_
        refine AllReadyH.cons rfl (fun K' hK' => ?_) AllReadyH.nil
        rw [if_pos (by rfl)]
        go_simp
        refine (leastBy_c _ _ _ _ _).mono ?_
        rintro e w3 ⟨he, hb⟩
        rw [Hq.out] at he
        subst he
        refine hK'.out _ _ ⟨hS0.1.later hb, hS0.2.1.later hb, hS0.2.2.trans (hb.mono hS0.2.2.size)⟩ fun hS1 => ?_
        clear hb
        refine wpAnyH_take (i := 7) (v := (.bool false)) rfl (by kernel_rfl) (by kernel_rfl) (by kernel_rfl) (fun _ _ _ h => h) (.inl ⟨by first | kernel_rfl | rfl, ?ys7q7⟩) hS1 ?_
        case ys7q7 =>
          intro w' hS
          (clear hS)
          go_simp
          first | done | (simp; done) | (simp; omega) | omega | (simp [*]; done)
        refine wpAnyH_done (by kernel_rfl) ?_ _
        clear hS0 hB bR1 bM1 x1 x2
        go_wp2
        go_roundw
        case rel => exact ⟨k + 1, j, ⟨by omega, by omega, by simp, Hf2.out⟩, hS1.1, hS1.2.1, hS1.2.2⟩
        case measure => simp [intOf]; omega
    · obtain rfl : k = cs.length := by omega
      have m0 := bM1.c0
      have m1 := bM1.c1
      have f0 := bR1.frozen 0
      have f1 := (bR1.set0 (.int .i64 (rst cs j))).frozen 1
      have q0 := bR1.c0
      have g1 := (bR1.set0 (.int .i64 (rst cs j))).c1
      have bR2 := (bR1.set0 (.int .i64 (rst cs j))).set1 (.int .i64 (gp cs j))
      have r0 := bR2.c0
      have r1 := bR2.c1
      have hB2 := (hB.setCell (p := ⟨w.heap.size, 0, none⟩) (by simp) (.int .i64 (rst cs j))).setCell (p := ⟨w.heap.size, 1, none⟩) (by simp) (.int .i64 (gp cs j))
      go_wp2
      refine bodyPost_ret (v := .agg #[.int .i64 (rst cs j), .int .i64 (gp cs j)]) (by simp [results, Try.results116, go_sem, r0, r1]) rfl ?_
      exact ⟨j, Hfl.out, rfl, hB2⟩

end Go.Proofs.Ytnhdfpmjebfjmaa
