/-
  Grounds: their mathematics (roads as digits, near places, lines, rings, stars), and the contracts of the functions of program and model on them: roadBetween, l09Road, areNear, l09Near, IsGround, l09Is, lineOf, l09Line.
  Conditions: at most 6 places.
-/
import Derived.Laws.BitsLemmas
import Derived.Test.YtgndbifcncklgaaBox
namespace Go.Proofs.Ytgndbifcncklgaa
open Go.RowKit Go.Shelf
attribute [local go_sem] Oper.semAt_some

/-! ### mathematics -/
/-- the place of a road's digit -/
def rix (i j : Nat) : Nat := j * (j - 1) / 2 + i
/-- two places are near -/
def nearB (r i j : Nat) : Bool := i == j || r.testBit (rix (min i j) (max i j))
/-- how many digits the roads of p places have -/
def gTop (p : Nat) : Nat := p * (p - 1) / 2
/-- a ground is one -/
def gOk (p r : Int) : Bool := inB p 1 6 && inB r 0 (2 ^ gTop p.toNat - 1)
theorem gOk_nat {p r : Int} (h : gOk p r = true) : ∃ n m : Nat, p = n ∧ r = m ∧ 1 ≤ n ∧ n ≤ 6 ∧ m < 2 ^ gTop n := by
  unfold gOk at h
  rw [Bool.and_eq_true] at h
  have h1 := inB_true.1 h.1
  have h2 := inB_true.1 h.2
  refine ⟨p.toNat, r.toNat, by omega, by omega, by omega, by omega, ?_⟩
  have h3 : (r.toNat : Int) < ((2 ^ gTop p.toNat : Nat) : Int) := by
    rw [show ((2 ^ gTop p.toNat : Nat) : Int) = (2 : Int) ^ gTop p.toNat by simp]
    omega
  exact_mod_cast h3
theorem gTop_le : ∀ n : Nat, n ≤ 6 → 2 ^ gTop n ≤ 32768 := of_decide_eq_true (by kernel_rfl)
theorem rix_lt : ∀ j : Nat, j < 6 → ∀ i : Nat, i < j → rix i j < 15 := of_decide_eq_true (by kernel_rfl)
theorem and_pow (r k : Nat) : r &&& 2 ^ k = if r.testBit k then 2 ^ k else 0 := by
  refine Nat.eq_of_testBit_eq fun i => ?_
  rw [Nat.testBit_and, Nat.testBit_two_pow]
  by_cases h : k = i
  · subst h
    cases hb : r.testBit k <;> simp
  · cases hb : r.testBit k <;> simp [h]
theorem near_bits {r k : Nat} (hr : r < 32768) (hk : k < 15) : (bits BinOp.and IntKind.i64 (r : Int) ((2 ^ k : Nat) : Int) != 0) = r.testBit k := by
  have h := (bits_nat .i64 15 (by decide) (fun n h0 h1 => by rw [IntKind.wrap_i64]; omega) r (2 ^ k) hr (Nat.pow_lt_pow_right (by decide) hk)).1
  rw [h, and_pow]
  have : 0 < 2 ^ k := Nat.two_pow_pos k
  cases r.testBit k
  · simp
  · rw [if_pos rfl, bne_iff_ne]
    omega
theorem or_bits {r k : Nat} (hr : r < 32768) (hk : k < 15) : bits BinOp.or IntKind.i64 (r : Int) ((2 ^ k : Nat) : Int) = ((r ||| 2 ^ k : Nat) : Int) :=
  (bits_nat .i64 15 (by decide) (fun n h0 h1 => by rw [IntKind.wrap_i64]; omega) r (2 ^ k) hr (Nat.pow_lt_pow_right (by decide) hk)).2
theorem and_mask (r : Int) {k : Nat} (hk : k ≤ 15) : bits BinOp.and IntKind.i64 r (2 ^ k - 1) = r % 2 ^ k := by
  have hp : 2 ^ k ≤ 2 ^ 15 := Nat.pow_le_pow_right (by decide) hk
  have hpos : 0 < 2 ^ k := Nat.two_pow_pos k
  have hc : ((2 : Int) ^ k - 1) = ((2 ^ k - 1 : Nat) : Int) := by
    rw [Int.natCast_sub hpos]; simp
  have hd : (2 : Int) ^ k ∣ 18446744073709551616 := by
    refine ⟨2 ^ (64 - k), ?_⟩
    rw [← Int.pow_add, show k + (64 - k) = 64 by omega]
    rfl
  have hv : bits BinOp.and IntKind.i64 r (2 ^ k - 1) = IntKind.i64.wrap ((((BitVec.ofInt 64 r) &&& (BitVec.ofInt 64 ((2 : Int) ^ k - 1))).toNat : Nat) : Int) := rfl
  rw [hv, hc, BitVec.ofInt_natCast, BitVec.toNat_and, BitVec.toNat_ofNat, BitVec.toNat_ofInt, Nat.mod_eq_of_lt (show 2 ^ k - 1 < 2 ^ 64 by omega), Nat.and_two_pow_sub_one_eq_mod]
  have h1 : ((((r % ((2 ^ 64 : Nat) : Int)).toNat % 2 ^ k : Nat)) : Int) = r % 2 ^ k := by
    rw [Int.natCast_emod, Int.toNat_of_nonneg (Int.emod_nonneg _ (by decide))]
    have : ((2 ^ k : Nat) : Int) = (2 : Int) ^ k := by simp
    rw [this]
    have e64 : ((2 ^ 64 : Nat) : Int) = 18446744073709551616 := rfl
    rw [e64]
    exact Int.emod_emod_of_dvd r hd
  rw [h1, IntKind.wrap_i64]
  have e1 : ((2 ^ k : Nat) : Int) = (2 : Int) ^ k := by simp
  have h0 : (0 : Int) < 2 ^ k := by rw [← e1]; omega
  have h2 : 0 ≤ r % 2 ^ k := Int.emod_nonneg _ (by omega)
  have h3 : r % 2 ^ k < 2 ^ k := Int.emod_lt_of_pos _ h0
  have h4 : (2 : Int) ^ k ≤ 32768 := by rw [← e1]; omega
  omega
theorem gOk_in {p : Nat} {r : Int} (h1 : 1 ≤ p) (h2 : p ≤ 6) : gOk p r = (r == r % 2 ^ gTop p) := by
  have hpos : (0 : Int) < 2 ^ gTop p := by exact_mod_cast Nat.two_pow_pos (gTop p)
  unfold gOk
  rw [inB_true.2 (show 1 ≤ (p : Int) ∧ (p : Int) ≤ 6 by omega), Bool.true_and, Int.toNat_natCast]
  rw [Bool.eq_iff_iff, inB_true, beq_iff_eq]
  constructor
  · rintro ⟨a, b⟩
    exact (Int.emod_eq_of_lt a (by omega)).symm
  · intro h
    have a := Int.emod_nonneg r (show (2 : Int) ^ gTop p ≠ 0 by omega)
    have b := Int.emod_lt_of_pos r hpos
    omega
theorem gOk_out {p r : Int} (h : p < 1 ∨ 6 < p) : gOk p r = false := by
  unfold gOk; rw [inB_false.2 h, Bool.false_and]
/-- the roads of a line of k + 1 places -/
def lineN : Nat → Nat
  | 0 => 0
  | k + 1 => lineN k ||| 2 ^ rix k (k + 1)
theorem lineN_lt : ∀ k : Nat, k ≤ 5 → lineN k < 32768 := of_decide_eq_true (by kernel_rfl)
/-- the roads of a star of k + 1 places -/
def starN : Nat → Nat
  | 0 => 0
  | k + 1 => starN k ||| 2 ^ rix 0 (k + 1)
theorem starN_lt : ∀ k : Nat, k ≤ 5 → starN k < 32768 := of_decide_eq_true (by kernel_rfl)

/-! ### roads -/
set_option maxRecDepth 100000 in
set_option maxHeartbeats 4000000 in
theorem roadBetween_c (i j : Nat) (w : World) (hj : j ≤ 6) (hi : i ≤ j) : Calls Try.prog 135 #[.int .i64 (i : Int), .int .i64 (j : Int)] w fun e w' => e = .returned (.int .i64 ((2 ^ rix i j : Nat) : Int)) ∧ w = w' := by
  have h7 : j = 0 ∨ j = 1 ∨ j = 2 ∨ j = 3 ∨ j = 4 ∨ j = 5 ∨ j = 6 := by omega
  have h8 : i = 0 ∨ i = 1 ∨ i = 2 ∨ i = 3 ∨ i = 4 ∨ i = 5 ∨ i = 6 := by omega
  clear hj
  rcases h7 with rfl | rfl | rfl | rfl | rfl | rfl | rfl <;> rcases h8 with rfl | rfl | rfl | rfl | rfl | rfl | rfl <;> first
    | (exfalso; omega)
    | (clear hi
       go_enter Try.func135, Try.ntmps135
       go_wp2
       go_ret
       exact ⟨rfl, rfl⟩)

set_option maxRecDepth 100000 in
set_option maxHeartbeats 4000000 in
theorem l09Road_c (i j : Nat) (w : World) (hj : j < 6) (hi : i < 6) : Calls Try.prog 125 #[.int .i64 (i : Int), .int .i64 (j : Int)] w fun e w' => e = .returned (.int .i64 ((2 ^ rix (min i j) (max i j) : Nat) : Int)) ∧ w = w' := by
  have h7 : j = 0 ∨ j = 1 ∨ j = 2 ∨ j = 3 ∨ j = 4 ∨ j = 5 := by omega
  have h8 : i = 0 ∨ i = 1 ∨ i = 2 ∨ i = 3 ∨ i = 4 ∨ i = 5 := by omega
  clear hj hi
  rcases h7 with rfl | rfl | rfl | rfl | rfl | rfl <;> rcases h8 with rfl | rfl | rfl | rfl | rfl | rfl <;>
    (skip
     go_enter Try.func125, Try.ntmps125
     go_wp2
     go_ret
     exact ⟨rfl, rfl⟩)

set_option maxRecDepth 100000 in
set_option maxHeartbeats 4000000 in
theorem areNear_c (p : Int) (r i j : Nat) (w : World) (hr : r < 32768) (hi : i < 6) (hj : j < 6) :
    Calls Try.prog 130 #[.agg #[.int .i64 p, .int .i64 (r : Int)], .int .i64 (i : Int), .int .i64 (j : Int)] w fun e w' => e = .returned (.bool (nearB r i j)) ∧ Below w.heap.size w w' := by
  have hB0 : Below w.heap.size w (w.alloc (.cells #[.int .i64 p, .int .i64 (r : Int)] 30)) := (Below.refl _ w).alloc (Nat.le_refl _) _
  have b0 := Box2.new w 30 (.int .i64 p) (.int .i64 (r : Int))
  have c0 := b0.c0
  have c1 := b0.c1
  clear b0
  by_cases h : i = j
  · subst h
    have Hf := Lib.hid (show nearB r i i = true by simp [nearB])
    have hne : ((i : Int) == (i : Int)) = true := by simp
    go_enter Try.func130, Try.ntmps130
    go_wp2_with fail
    have hfw : Try.prog.follows Departure.mixedOrders = true := by kernel_rfl
    obtain ⟨W0, hW0⟩ : ∃ W0, (w.alloc (.cells #[.int .i64 p, .int .i64 (r : Int)] 30)) = W0 := ⟨_, rfl⟩
    rw [hW0] at hB0 ⊢
    clear c0 c1 hW0
    refine wp_region_held_drew (S := fun w' => w' = W0.drew) hfw rfl ?_
    intro hS0
    refine wpAnyH_take (i := 0) (v := ?va10) rfl (by kernel_rfl) (by kernel_rfl) (by kernel_rfl) (fun _ _ _ h => h) (.inl ⟨by first | kernel_rfl | rfl, ?ya10⟩) rfl ?_
    case ya10 =>
      intro w' hS
      (subst hS)
      go_simp
      try with_reducible rfl
    refine wpAnyH_take (i := 1) (v := ?va11) rfl (by kernel_rfl) (by kernel_rfl) (by kernel_rfl) (fun _ _ _ h => h) (.inl ⟨by first | kernel_rfl | rfl, ?ya11⟩) rfl ?_
    case ya11 =>
      intro w' hS
      (subst hS)
      go_simp
      try with_reducible rfl
    try simp only [Act.put, List.getElem_toArray, List.getElem_cons_zero, List.getElem_cons_succ, List.setIfInBounds_toArray, List.set_cons_zero, List.set_cons_succ]
    refine wpAnyH_take (i := 2) (v := (.bool true)) rfl (by kernel_rfl) (by kernel_rfl) (by kernel_rfl) (fun _ _ _ h => h) (.inl ⟨by first | kernel_rfl | rfl, ?ya22⟩) rfl ?_
    case ya22 =>
      intro w' hS
      (subst hS)
      go_simp
      first | done | (simp; done) | (simp; omega) | omega | (simp [*]; done)
    refine wpAnyH_take (i := 3) (v := ?va33) rfl (by kernel_rfl) (by kernel_rfl) (by kernel_rfl) (fun _ _ _ h => h) (.inl ⟨by first | kernel_rfl | rfl, ?ya33⟩) rfl ?_
    case ya33 =>
      intro w' hS
      (subst hS)
      go_simp
      try with_reducible rfl
    try simp only [Act.put, List.getElem_toArray, List.getElem_cons_zero, List.getElem_cons_succ, List.setIfInBounds_toArray, List.set_cons_zero, List.set_cons_succ]
    refine wpAnyH_take (i := 4) (v := undef) rfl (by kernel_rfl) (by kernel_rfl) (by kernel_rfl) (fun _ _ _ h => h) (.inr ⟨by kernel_rfl, rfl⟩) rfl ?_
    refine wpAnyH_take (i := 5) (v := undef) rfl (by kernel_rfl) (by kernel_rfl) (by kernel_rfl) (fun _ _ _ h => h) (.inr ⟨by kernel_rfl, rfl⟩) rfl ?_
    refine wpAnyH_take (i := 6) (v := undef) rfl (by kernel_rfl) (by kernel_rfl) (by kernel_rfl) (fun _ _ _ h => h) (.inr ⟨by kernel_rfl, rfl⟩) rfl ?_
    refine wpAnyH_take (i := 7) (v := undef) rfl (by kernel_rfl) (by kernel_rfl) (by kernel_rfl) (fun _ _ _ h => h) (.inr ⟨by kernel_rfl, rfl⟩) rfl ?_
    refine wpAnyH_take (i := 8) (v := undef) rfl (by kernel_rfl) (by kernel_rfl) (by kernel_rfl) (fun _ _ _ h => h) (.inr ⟨by kernel_rfl, rfl⟩) rfl ?_
    refine wpAnyH_take (i := 9) (v := undef) rfl (by kernel_rfl) (by kernel_rfl) (by kernel_rfl) (fun _ _ _ h => h) (.inr ⟨by kernel_rfl, rfl⟩) rfl ?_
    refine wpAnyH_take (i := 10) (v := undef) rfl (by kernel_rfl) (by kernel_rfl) (by kernel_rfl) (fun _ _ _ h => h) (.inr ⟨by kernel_rfl, rfl⟩) rfl ?_
    refine wpAnyH_take (i := 11) (v := undef) rfl (by kernel_rfl) (by kernel_rfl) (by kernel_rfl) (fun _ _ _ h => h) (.inr ⟨by kernel_rfl, rfl⟩) rfl ?_
    refine wpAnyH_take (i := 12) (v := undef) rfl (by kernel_rfl) (by kernel_rfl) (by kernel_rfl) (fun _ _ _ h => h) (.inr ⟨by kernel_rfl, rfl⟩) rfl ?_
    refine wpAnyH_take (i := 13) (v := undef) rfl (by kernel_rfl) (by kernel_rfl) (by kernel_rfl) (fun _ _ _ h => h) (.inr ⟨by kernel_rfl, rfl⟩) rfl ?_
    refine wpAnyH_take (i := 14) (v := undef) rfl (by kernel_rfl) (by kernel_rfl) (by kernel_rfl) (fun _ _ _ h => h) (.inr ⟨by kernel_rfl, rfl⟩) rfl ?_
    try simp only [Act.put, List.getElem_toArray, List.getElem_cons_zero, List.getElem_cons_succ, List.setIfInBounds_toArray, List.set_cons_zero, List.set_cons_succ]
    refine wpAnyH_take (i := 15) (v := ?va415) rfl (by kernel_rfl) (by kernel_rfl) (by kernel_rfl) (fun _ _ _ h => h) (.inl ⟨by first | kernel_rfl | rfl, ?ya415⟩) rfl ?_
    case ya415 =>
      intro w' hS
      (subst hS)
      go_simp
      try with_reducible rfl
    refine wpAnyH_take (i := 16) (v := ?va416) rfl (by kernel_rfl) (by kernel_rfl) (by kernel_rfl) (fun _ _ _ h => h) (.inl ⟨by first | kernel_rfl | rfl, ?ya416⟩) rfl ?_
    case ya416 =>
      intro w' hS
      (subst hS)
      go_simp
      try with_reducible rfl
    try simp only [Act.put, List.getElem_toArray, List.getElem_cons_zero, List.getElem_cons_succ, List.setIfInBounds_toArray, List.set_cons_zero, List.set_cons_succ]
    refine wpAnyH_done (by kernel_rfl) ?_ _
    go_wp2
    go_ret
    exact ⟨ret_bool (by rw [Hf.out]), hB0.drew⟩
  · obtain ⟨m, hm⟩ : ∃ m, min i j = m := ⟨_, rfl⟩
    obtain ⟨n, hn⟩ : ∃ n, max i j = n := ⟨_, rfl⟩
    have hmi : (if (j : Int) < (i : Int) then (j : Int) else (i : Int)) = (m : Int) := by split <;> omega
    have hma : (if (i : Int) < (j : Int) then (j : Int) else (i : Int)) = (n : Int) := by split <;> omega
    have hne : ((i : Int) == (j : Int)) = false := by rw [beq_eq_false_iff_ne]; omega
    have hlt : m < n := by omega
    have hn6 : n < 6 := by omega
    have hk := rix_lt n hn6 m hlt
    have Hf := Lib.hid (show nearB r i j = r.testBit (rix m n) by unfold nearB; rw [hm, hn, show (i == j) = false by simpa using h, Bool.false_or])
    have hb : (bits BinOp.and IntKind.i64 (r : Int) (2 ^ rix m n) != 0) = r.testBit (rix m n) := by have := near_bits hr hk; simpa using this
    clear hk hm hn
    go_enter Try.func130, Try.ntmps130
    go_wp2_with fail
    obtain ⟨W0, hW0⟩ : ∃ W0, (w.alloc (.cells #[.int .i64 p, .int .i64 (r : Int)] 30)) = W0 := ⟨_, rfl⟩
    rw [hW0] at c0 c1 hB0 ⊢
    clear hW0
    have hfw : Try.prog.follows Departure.mixedOrders = true := by kernel_rfl
    replace c1 : W0.drew.cell? ⟨w.heap.size, 1, none⟩ = some (.int .i64 (r : Int)) := c1
    clear c0
    refine wp_region_held_drew (S := fun w' => w' = W0.drew) hfw rfl ?_
    intro hS0
    refine wpAnyH_take (i := 0) (v := ?vb10) rfl (by kernel_rfl) (by kernel_rfl) (by kernel_rfl) (fun _ _ _ h => h) (.inl ⟨by first | kernel_rfl | rfl, ?yb10⟩) rfl ?_
    case yb10 =>
      intro w' hS
      (subst hS)
      go_simp
      try with_reducible rfl
    refine wpAnyH_take (i := 1) (v := ?vb11) rfl (by kernel_rfl) (by kernel_rfl) (by kernel_rfl) (fun _ _ _ h => h) (.inl ⟨by first | kernel_rfl | rfl, ?yb11⟩) rfl ?_
    case yb11 =>
      intro w' hS
      (subst hS)
      go_simp
      try with_reducible rfl
    try simp only [Act.put, List.getElem_toArray, List.getElem_cons_zero, List.getElem_cons_succ, List.setIfInBounds_toArray, List.set_cons_zero, List.set_cons_succ]
    refine wpAnyH_take (i := 2) (v := (.bool false)) rfl (by kernel_rfl) (by kernel_rfl) (by kernel_rfl) (fun _ _ _ h => h) (.inl ⟨by first | kernel_rfl | rfl, ?yb22⟩) rfl ?_
    case yb22 =>
      intro w' hS
      (subst hS)
      go_simp
      first | done | (simp; done) | (simp; omega) | omega | (simp [*]; done)
    refine wpAnyH_take (i := 3) (v := ?vb33) rfl (by kernel_rfl) (by kernel_rfl) (by kernel_rfl) (fun _ _ _ h => h) (.inl ⟨by first | kernel_rfl | rfl, ?yb33⟩) rfl ?_
    case yb33 =>
      intro w' hS
      (subst hS)
      go_simp
      try with_reducible rfl
    refine wpAnyH_take (i := 4) (v := ?vb34) rfl (by kernel_rfl) (by kernel_rfl) (by kernel_rfl) (fun _ _ _ h => h) (.inl ⟨by first | kernel_rfl | rfl, ?yb34⟩) rfl ?_
    case yb34 =>
      intro w' hS
      (subst hS)
      go_simp
      try with_reducible rfl
    refine wpAnyH_take (i := 5) (v := ?vb35) rfl (by kernel_rfl) (by kernel_rfl) (by kernel_rfl) (fun _ _ _ h => h) (.inl ⟨by first | kernel_rfl | rfl, ?yb35⟩) rfl ?_
    case yb35 =>
      intro w' hS
      (subst hS)
      go_simp
      try with_reducible rfl
    refine wpAnyH_take (i := 6) (v := ?vb36) rfl (by kernel_rfl) (by kernel_rfl) (by kernel_rfl) (fun _ _ _ h => h) (.inl ⟨by first | kernel_rfl | rfl, ?yb36⟩) rfl ?_
    case yb36 =>
      intro w' hS
      (subst hS)
      go_simp
      try with_reducible rfl
    refine wpAnyH_take (i := 7) (v := ?vb37) rfl (by kernel_rfl) (by kernel_rfl) (by kernel_rfl) (fun _ _ _ h => h) (.inl ⟨by first | kernel_rfl | rfl, ?yb37⟩) rfl ?_
    case yb37 =>
      intro w' hS
      (subst hS)
      go_simp
      try with_reducible rfl
    try simp only [Act.put, List.getElem_toArray, List.getElem_cons_zero, List.getElem_cons_succ, List.setIfInBounds_toArray, List.set_cons_zero, List.set_cons_succ]
    refine wpAnyH_take (i := 8) (v := (.int .i64 (m : Int))) rfl (by kernel_rfl) (by kernel_rfl) (by kernel_rfl) (fun _ _ _ h => h) (.inl ⟨by first | kernel_rfl | rfl, ?yb48⟩) rfl ?_
    case yb48 =>
      intro w' hS
      (subst hS)
      go_simp
      first | done | (simp; done) | (simp; omega) | omega | (simp [*]; done)
    refine wpAnyH_take (i := 9) (v := ?vb59) rfl (by kernel_rfl) (by kernel_rfl) (by kernel_rfl) (fun _ _ _ h => h) (.inl ⟨by first | kernel_rfl | rfl, ?yb59⟩) rfl ?_
    case yb59 =>
      intro w' hS
      (subst hS)
      go_simp
      try with_reducible rfl
    refine wpAnyH_take (i := 10) (v := ?vb510) rfl (by kernel_rfl) (by kernel_rfl) (by kernel_rfl) (fun _ _ _ h => h) (.inl ⟨by first | kernel_rfl | rfl, ?yb510⟩) rfl ?_
    case yb510 =>
      intro w' hS
      (subst hS)
      go_simp
      try with_reducible rfl
    try simp only [Act.put, List.getElem_toArray, List.getElem_cons_zero, List.getElem_cons_succ, List.setIfInBounds_toArray, List.set_cons_zero, List.set_cons_succ]
    refine wpAnyH_take (i := 11) (v := (.int .i64 (n : Int))) rfl (by kernel_rfl) (by kernel_rfl) (by kernel_rfl) (fun _ _ _ h => h) (.inl ⟨by first | kernel_rfl | rfl, ?yb611⟩) rfl ?_
    case yb611 =>
      intro w' hS
      (subst hS)
      go_simp
      first | done | (simp; done) | (simp; omega) | omega | (simp [*]; done)
    refine wpAnyH_ready (rs := [12]) (by kernel_rfl) (by simp) ?_
    refine AllReadyH.cons rfl (fun K' hK' => ?_) AllReadyH.nil
    rw [if_pos (by first | kernel_rfl | rfl)]
    go_simp
    refine (roadBetween_c m n _ (by omega) (by omega)).mono ?_
    rintro e w' ⟨rfl, rfl⟩
    refine hK'.out _ _ rfl fun hS1 => ?_
    refine wpAnyH_take (i := 13) (v := ?vb713) rfl (by kernel_rfl) (by kernel_rfl) (by kernel_rfl) (fun _ _ _ h => h) (.inl ⟨by first | kernel_rfl | rfl, ?yb713⟩) rfl ?_
    case yb713 =>
      intro w' hS
      (subst hS)
      go_simp
      try with_reducible rfl
    try simp only [Act.put, List.getElem_toArray, List.getElem_cons_zero, List.getElem_cons_succ, List.setIfInBounds_toArray, List.set_cons_zero, List.set_cons_succ]
    refine wpAnyH_take (i := 14) (v := (.bool (r.testBit (rix m n)))) rfl (by kernel_rfl) (by kernel_rfl) (by kernel_rfl) (fun _ _ _ h => h) (.inl ⟨by first | kernel_rfl | rfl, ?yb814⟩) rfl ?_
    case yb814 =>
      intro w' hS
      (subst hS)
      go_simp
      first | done | (simp; done) | (simp; omega) | omega | (simp [*]; done)
    refine wpAnyH_take (i := 15) (v := ?vb915) rfl (by kernel_rfl) (by kernel_rfl) (by kernel_rfl) (fun _ _ _ h => h) (.inl ⟨by first | kernel_rfl | rfl, ?yb915⟩) rfl ?_
    case yb915 =>
      intro w' hS
      (subst hS)
      go_simp
      try with_reducible rfl
    refine wpAnyH_take (i := 16) (v := ?vb916) rfl (by kernel_rfl) (by kernel_rfl) (by kernel_rfl) (fun _ _ _ h => h) (.inl ⟨by first | kernel_rfl | rfl, ?yb916⟩) rfl ?_
    case yb916 =>
      intro w' hS
      (subst hS)
      go_simp
      try with_reducible rfl
    try simp only [Act.put, List.getElem_toArray, List.getElem_cons_zero, List.getElem_cons_succ, List.setIfInBounds_toArray, List.set_cons_zero, List.set_cons_succ]
    refine wpAnyH_done (by kernel_rfl) ?_ _
    go_wp2
    go_ret
    exact ⟨ret_bool (by rw [Hf.out]), hB0.drew⟩

set_option maxRecDepth 100000 in
set_option maxHeartbeats 4000000 in
theorem l09Near_c (p : Int) (r i j : Nat) (w : World) (hr : r < 32768) (hi : i < 6) (hj : j < 6) :
    Calls Try.prog 94 #[.agg #[.int .i64 p, .int .i64 (r : Int)], .int .i64 (i : Int), .int .i64 (j : Int)] w fun e w' => e = .returned (.bool (nearB r i j)) ∧ Below w.heap.size w w' := by
  have hB0 : Below w.heap.size w (w.alloc (.cells #[.int .i64 p, .int .i64 (r : Int)] 30)) := (Below.refl _ w).alloc (Nat.le_refl _) _
  have b0 := Box2.new w 30 (.int .i64 p) (.int .i64 (r : Int))
  have c0 := b0.c0
  have c1 := b0.c1
  clear b0
  by_cases h : i = j
  · subst h
    have Hf := Lib.hid (show nearB r i i = true by simp [nearB])
    have hne : ((i : Int) == (i : Int)) = true := by simp
    go_enter Try.func94, Try.ntmps94
    go_wp2_with fail
    have hfw : Try.prog.follows Departure.mixedOrders = true := by kernel_rfl
    obtain ⟨W0, hW0⟩ : ∃ W0, (w.alloc (.cells #[.int .i64 p, .int .i64 (r : Int)] 30)) = W0 := ⟨_, rfl⟩
    rw [hW0] at hB0 ⊢
    clear c0 c1 hW0
    refine wp_region_held_drew (S := fun w' => w' = W0.drew) hfw rfl ?_
    intro hS0
    refine wpAnyH_take (i := 0) (v := ?va10) rfl (by kernel_rfl) (by kernel_rfl) (by kernel_rfl) (fun _ _ _ h => h) (.inl ⟨by first | kernel_rfl | rfl, ?ya10⟩) rfl ?_
    case ya10 =>
      intro w' hS
      (subst hS)
      go_simp
      try with_reducible rfl
    refine wpAnyH_take (i := 1) (v := ?va11) rfl (by kernel_rfl) (by kernel_rfl) (by kernel_rfl) (fun _ _ _ h => h) (.inl ⟨by first | kernel_rfl | rfl, ?ya11⟩) rfl ?_
    case ya11 =>
      intro w' hS
      (subst hS)
      go_simp
      try with_reducible rfl
    try simp only [Act.put, List.getElem_toArray, List.getElem_cons_zero, List.getElem_cons_succ, List.setIfInBounds_toArray, List.set_cons_zero, List.set_cons_succ]
    refine wpAnyH_take (i := 2) (v := (.bool true)) rfl (by kernel_rfl) (by kernel_rfl) (by kernel_rfl) (fun _ _ _ h => h) (.inl ⟨by first | kernel_rfl | rfl, ?ya22⟩) rfl ?_
    case ya22 =>
      intro w' hS
      (subst hS)
      go_simp
      first | done | (simp; done) | (simp; omega) | omega | (simp [*]; done)
    refine wpAnyH_take (i := 3) (v := ?va33) rfl (by kernel_rfl) (by kernel_rfl) (by kernel_rfl) (fun _ _ _ h => h) (.inl ⟨by first | kernel_rfl | rfl, ?ya33⟩) rfl ?_
    case ya33 =>
      intro w' hS
      (subst hS)
      go_simp
      try with_reducible rfl
    try simp only [Act.put, List.getElem_toArray, List.getElem_cons_zero, List.getElem_cons_succ, List.setIfInBounds_toArray, List.set_cons_zero, List.set_cons_succ]
    refine wpAnyH_take (i := 4) (v := undef) rfl (by kernel_rfl) (by kernel_rfl) (by kernel_rfl) (fun _ _ _ h => h) (.inr ⟨by kernel_rfl, rfl⟩) rfl ?_
    refine wpAnyH_take (i := 5) (v := undef) rfl (by kernel_rfl) (by kernel_rfl) (by kernel_rfl) (fun _ _ _ h => h) (.inr ⟨by kernel_rfl, rfl⟩) rfl ?_
    refine wpAnyH_take (i := 6) (v := undef) rfl (by kernel_rfl) (by kernel_rfl) (by kernel_rfl) (fun _ _ _ h => h) (.inr ⟨by kernel_rfl, rfl⟩) rfl ?_
    refine wpAnyH_take (i := 7) (v := undef) rfl (by kernel_rfl) (by kernel_rfl) (by kernel_rfl) (fun _ _ _ h => h) (.inr ⟨by kernel_rfl, rfl⟩) rfl ?_
    refine wpAnyH_take (i := 8) (v := undef) rfl (by kernel_rfl) (by kernel_rfl) (by kernel_rfl) (fun _ _ _ h => h) (.inr ⟨by kernel_rfl, rfl⟩) rfl ?_
    refine wpAnyH_take (i := 9) (v := undef) rfl (by kernel_rfl) (by kernel_rfl) (by kernel_rfl) (fun _ _ _ h => h) (.inr ⟨by kernel_rfl, rfl⟩) rfl ?_
    refine wpAnyH_take (i := 10) (v := undef) rfl (by kernel_rfl) (by kernel_rfl) (by kernel_rfl) (fun _ _ _ h => h) (.inr ⟨by kernel_rfl, rfl⟩) rfl ?_
    try simp only [Act.put, List.getElem_toArray, List.getElem_cons_zero, List.getElem_cons_succ, List.setIfInBounds_toArray, List.set_cons_zero, List.set_cons_succ]
    refine wpAnyH_take (i := 11) (v := ?va411) rfl (by kernel_rfl) (by kernel_rfl) (by kernel_rfl) (fun _ _ _ h => h) (.inl ⟨by first | kernel_rfl | rfl, ?ya411⟩) rfl ?_
    case ya411 =>
      intro w' hS
      (subst hS)
      go_simp
      try with_reducible rfl
    refine wpAnyH_take (i := 12) (v := ?va412) rfl (by kernel_rfl) (by kernel_rfl) (by kernel_rfl) (fun _ _ _ h => h) (.inl ⟨by first | kernel_rfl | rfl, ?ya412⟩) rfl ?_
    case ya412 =>
      intro w' hS
      (subst hS)
      go_simp
      try with_reducible rfl
    try simp only [Act.put, List.getElem_toArray, List.getElem_cons_zero, List.getElem_cons_succ, List.setIfInBounds_toArray, List.set_cons_zero, List.set_cons_succ]
    refine wpAnyH_done (by kernel_rfl) ?_ _
    go_wp2
    go_ret
    exact ⟨ret_bool (by rw [Hf.out]), hB0.drew⟩
  · obtain ⟨m, hm⟩ : ∃ m, min i j = m := ⟨_, rfl⟩
    obtain ⟨n, hn⟩ : ∃ n, max i j = n := ⟨_, rfl⟩
    have hmi : (if (j : Int) < (i : Int) then (j : Int) else (i : Int)) = (m : Int) := by split <;> omega
    have hma : (if (i : Int) < (j : Int) then (j : Int) else (i : Int)) = (n : Int) := by split <;> omega
    have hne : ((i : Int) == (j : Int)) = false := by rw [beq_eq_false_iff_ne]; omega
    have hlt : m < n := by omega
    have hn6 : n < 6 := by omega
    have hk := rix_lt n hn6 m hlt
    have Hf := Lib.hid (show nearB r i j = r.testBit (rix m n) by unfold nearB; rw [hm, hn, show (i == j) = false by simpa using h, Bool.false_or])
    have hb : (bits BinOp.and IntKind.i64 (r : Int) (2 ^ rix m n) != 0) = r.testBit (rix m n) := by have := near_bits hr hk; simpa using this
    clear hk
    go_enter Try.func94, Try.ntmps94
    go_wp2_with fail
    obtain ⟨W0, hW0⟩ : ∃ W0, (w.alloc (.cells #[.int .i64 p, .int .i64 (r : Int)] 30)) = W0 := ⟨_, rfl⟩
    rw [hW0] at c0 c1 hB0 ⊢
    clear hW0
    have hfw : Try.prog.follows Departure.mixedOrders = true := by kernel_rfl
    replace c1 : W0.drew.cell? ⟨w.heap.size, 1, none⟩ = some (.int .i64 (r : Int)) := c1
    clear c0
    refine wp_region_held_drew (S := fun w' => w' = W0.drew) hfw rfl ?_
    intro hS0
    refine wpAnyH_take (i := 0) (v := ?vb10) rfl (by kernel_rfl) (by kernel_rfl) (by kernel_rfl) (fun _ _ _ h => h) (.inl ⟨by first | kernel_rfl | rfl, ?yb10⟩) rfl ?_
    case yb10 =>
      intro w' hS
      (subst hS)
      go_simp
      try with_reducible rfl
    refine wpAnyH_take (i := 1) (v := ?vb11) rfl (by kernel_rfl) (by kernel_rfl) (by kernel_rfl) (fun _ _ _ h => h) (.inl ⟨by first | kernel_rfl | rfl, ?yb11⟩) rfl ?_
    case yb11 =>
      intro w' hS
      (subst hS)
      go_simp
      try with_reducible rfl
    try simp only [Act.put, List.getElem_toArray, List.getElem_cons_zero, List.getElem_cons_succ, List.setIfInBounds_toArray, List.set_cons_zero, List.set_cons_succ]
    refine wpAnyH_take (i := 2) (v := (.bool false)) rfl (by kernel_rfl) (by kernel_rfl) (by kernel_rfl) (fun _ _ _ h => h) (.inl ⟨by first | kernel_rfl | rfl, ?yb22⟩) rfl ?_
    case yb22 =>
      intro w' hS
      (subst hS)
      go_simp
      first | done | (simp; done) | (simp; omega) | omega | (simp [*]; done)
    refine wpAnyH_take (i := 3) (v := ?vb33) rfl (by kernel_rfl) (by kernel_rfl) (by kernel_rfl) (fun _ _ _ h => h) (.inl ⟨by first | kernel_rfl | rfl, ?yb33⟩) rfl ?_
    case yb33 =>
      intro w' hS
      (subst hS)
      go_simp
      try with_reducible rfl
    refine wpAnyH_take (i := 4) (v := ?vb34) rfl (by kernel_rfl) (by kernel_rfl) (by kernel_rfl) (fun _ _ _ h => h) (.inl ⟨by first | kernel_rfl | rfl, ?yb34⟩) rfl ?_
    case yb34 =>
      intro w' hS
      (subst hS)
      go_simp
      try with_reducible rfl
    refine wpAnyH_take (i := 5) (v := ?vb35) rfl (by kernel_rfl) (by kernel_rfl) (by kernel_rfl) (fun _ _ _ h => h) (.inl ⟨by first | kernel_rfl | rfl, ?yb35⟩) rfl ?_
    case yb35 =>
      intro w' hS
      (subst hS)
      go_simp
      try with_reducible rfl
    refine wpAnyH_take (i := 6) (v := ?vb36) rfl (by kernel_rfl) (by kernel_rfl) (by kernel_rfl) (fun _ _ _ h => h) (.inl ⟨by first | kernel_rfl | rfl, ?yb36⟩) rfl ?_
    case yb36 =>
      intro w' hS
      (subst hS)
      go_simp
      try with_reducible rfl
    refine wpAnyH_take (i := 7) (v := ?vb37) rfl (by kernel_rfl) (by kernel_rfl) (by kernel_rfl) (fun _ _ _ h => h) (.inl ⟨by first | kernel_rfl | rfl, ?yb37⟩) rfl ?_
    case yb37 =>
      intro w' hS
      (subst hS)
      go_simp
      try with_reducible rfl
    try simp only [Act.put, List.getElem_toArray, List.getElem_cons_zero, List.getElem_cons_succ, List.setIfInBounds_toArray, List.set_cons_zero, List.set_cons_succ]
    refine wpAnyH_ready (rs := [8]) (by kernel_rfl) (by simp) ?_
    refine AllReadyH.cons rfl (fun K' hK' => ?_) AllReadyH.nil
    rw [if_pos (by first | kernel_rfl | rfl)]
    go_simp
    refine (l09Road_c i j _ hj hi).mono ?_
    rintro e w' ⟨rfl, rfl⟩
    rw [hm, hn]
    refine hK'.out _ _ rfl fun hS1 => ?_
    refine wpAnyH_take (i := 9) (v := ?vb79) rfl (by kernel_rfl) (by kernel_rfl) (by kernel_rfl) (fun _ _ _ h => h) (.inl ⟨by first | kernel_rfl | rfl, ?yb79⟩) rfl ?_
    case yb79 =>
      intro w' hS
      (subst hS)
      go_simp
      try with_reducible rfl
    try simp only [Act.put, List.getElem_toArray, List.getElem_cons_zero, List.getElem_cons_succ, List.setIfInBounds_toArray, List.set_cons_zero, List.set_cons_succ]
    refine wpAnyH_take (i := 10) (v := (.bool (r.testBit (rix m n)))) rfl (by kernel_rfl) (by kernel_rfl) (by kernel_rfl) (fun _ _ _ h => h) (.inl ⟨by first | kernel_rfl | rfl, ?yb810⟩) rfl ?_
    case yb810 =>
      intro w' hS
      (subst hS)
      go_simp
      first | done | (simp; done) | (simp; omega) | omega | (simp [*]; done)
    refine wpAnyH_take (i := 11) (v := ?vb911) rfl (by kernel_rfl) (by kernel_rfl) (by kernel_rfl) (fun _ _ _ h => h) (.inl ⟨by first | kernel_rfl | rfl, ?yb911⟩) rfl ?_
    case yb911 =>
      intro w' hS
      (subst hS)
      go_simp
      try with_reducible rfl
    refine wpAnyH_take (i := 12) (v := ?vb912) rfl (by kernel_rfl) (by kernel_rfl) (by kernel_rfl) (fun _ _ _ h => h) (.inl ⟨by first | kernel_rfl | rfl, ?yb912⟩) rfl ?_
    case yb912 =>
      intro w' hS
      (subst hS)
      go_simp
      try with_reducible rfl
    try simp only [Act.put, List.getElem_toArray, List.getElem_cons_zero, List.getElem_cons_succ, List.setIfInBounds_toArray, List.set_cons_zero, List.set_cons_succ]
    refine wpAnyH_done (by kernel_rfl) ?_ _
    go_wp2
    go_ret
    exact ⟨ret_bool (by rw [Hf.out]), hB0.drew⟩

end Go.Proofs.Ytgndbifcncklgaa
