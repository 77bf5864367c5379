/-
  Sets of tasks as numbers: digits, how many there are; hasTask, bits.OnesCount64, isSet, setsOf, tasksDue; the model's l08Size, l08Sets.
  Conditions: at most 8 tasks.
-/
import Derived.Laws.BitsLemmas
import Derived.Test.YtieobjoijalijaaArr
namespace Go.Proofs.Ytieobjoijalijaa
open Go.RowKit Go.Shelf
attribute [local go_sem] Oper.semAt_some

/-! ### mathematics -/
/-- how many digits 1 a number below 256 has -/
def pop (s : Nat) : Nat := ((List.range 8).filter fun i => s.testBit i).length
/-- .. without the last digit 1 -/
def clr (s : Nat) : Nat := s &&& (s - 1)
theorem has_all : ∀ i : Nat, i < 8 → ∀ s : Nat, s < 256 → ((bits BinOp.and IntKind.i64 ((s : Int) / 2 ^ i) 1 == 1) = s.testBit i) := of_decide_eq_true (by kernel_rfl)
theorem hasnt_all : ∀ i : Nat, i < 8 → ∀ s : Nat, s < 256 → ((bits BinOp.and IntKind.i64 ((s : Int) / 2 ^ i) 1 == 0) = !s.testBit i) := of_decide_eq_true (by kernel_rfl)
theorem clr_all : ∀ s : Nat, s < 256 → bits BinOp.and IntKind.i64 (s : Int) ((s : Int) - 1) = ((clr s : Nat) : Int) ∨ s = 0 := of_decide_eq_true (by kernel_rfl)
theorem clr_pop : ∀ s : Nat, s < 256 → s = 0 ∨ (pop (clr s) + 1 = pop s ∧ clr s < s) := of_decide_eq_true (by kernel_rfl)
theorem pop_le (s : Nat) : pop s ≤ 8 := by
  have := List.length_filter_le (fun i => s.testBit i) (List.range 8)
  simpa [pop] using this
theorem pow_all : ∀ k : Nat, k ≤ 8 → 1 ≤ 2 ^ k ∧ 2 ^ k ≤ 256 := of_decide_eq_true (by kernel_rfl)
theorem wrap_pow : ∀ k : Nat, k ≤ 8 → IntKind.i64.wrap ((2 : Int) ^ k) = (2 : Int) ^ k := of_decide_eq_true (by kernel_rfl)
def isSetB (s : Int) (k : Nat) (m : Int) : Bool := decide (0 ≤ s ∧ s < ((2 ^ k : Nat) : Int)) && decide (((pop s.toNat : Nat) : Int) ≤ m)
/-- the sets below n of at most m tasks -/
def setsTo (m : Int) (n : Nat) : List Int := ((List.range n).filter fun s => decide (((pop s : Nat) : Int) ≤ m)).map fun (s : Nat) => (s : Int)
theorem setsTo_zero (m : Int) : setsTo m 0 = [] := rfl
theorem setsTo_yes {m : Int} {n : Nat} (h : ((pop n : Nat) : Int) ≤ m) : setsTo m (n + 1) = setsTo m n ++ [(n : Int)] := by simp [setsTo, List.range_succ, h]
theorem setsTo_no {m : Int} {n : Nat} (h : ¬ ((pop n : Nat) : Int) ≤ m) : setsTo m (n + 1) = setsTo m n := by simp [setsTo, List.range_succ, h]
theorem setsTo_len (m : Int) (n : Nat) : (setsTo m n).length ≤ n := by
  have := List.length_filter_le (fun s => decide (((pop s : Nat) : Int) ≤ m)) (List.range n)
  simpa [setsTo] using this
theorem mem_setsTo {m : Int} {n : Nat} {x : Int} (h : x ∈ setsTo m n) : ∃ s : Nat, x = s ∧ s < n ∧ ((pop s : Nat) : Int) ≤ m := by
  unfold setsTo at h
  obtain ⟨s, hs, rfl⟩ := List.mem_map.1 h
  simp at hs
  exact ⟨s, rfl, hs.1, hs.2⟩
theorem setsTo_mem {m : Int} {n s : Nat} (h : s < n) (hp : ((pop s : Nat) : Int) ≤ m) : (s : Int) ∈ setsTo m n := by
  unfold setsTo
  exact List.mem_map.2 ⟨s, by simp [h, hp], rfl⟩
/-- the set of the tasks that have the number 1, of the first k -/
def dueTo (st : List Int) : Nat → Nat
  | 0 => 0
  | k + 1 => if nth st k = 1 then dueTo st k ||| 2 ^ k else dueTo st k
theorem dueTo_lt (st : List Int) : ∀ k, k ≤ 8 → dueTo st k < 2 ^ 8
  | 0, _ => (by decide : (0 : Nat) < 2 ^ 8)
  | k + 1, h => by
    have ih := dueTo_lt st k (by omega)
    simp only [dueTo]
    split
    · exact Nat.or_lt_two_pow ih (Nat.pow_lt_pow_right (by decide) (by omega))
    · exact ih
theorem dueTo_bit (st : List Int) (i : Nat) : ∀ k, (dueTo st k).testBit i = decide (i < k ∧ nth st i = 1)
  | 0 => by simp [dueTo]
  | k + 1 => by
    have ih := dueTo_bit st i k
    simp only [dueTo]
    split
    · rename_i h
      rw [Nat.testBit_or, ih, Nat.testBit_two_pow]
      by_cases e : i = k
      · subst e; simp [h]
      · have : ¬ k = i := fun h => e h.symm
        simp [this, show (i < k + 1) = (i < k) by simp; omega]
    · rename_i h
      rw [ih]
      by_cases e : i = k
      · subst e; simp [h]
      · simp [show (i < k + 1) = (i < k) by simp; omega]
theorem or_due (st : List Int) {k : Nat} (hk : k < 8) : bits BinOp.or IntKind.i64 ((dueTo st k : Nat) : Int) (2 ^ k) = ((dueTo st k ||| 2 ^ k : Nat) : Int) := by
  have := (bits_nat .i64 8 (by decide) (fun n h0 h1 => by rw [IntKind.wrap_i64]; omega) (dueTo st k) (2 ^ k) (dueTo_lt st k (by omega)) (Nat.pow_lt_pow_right (by decide) hk)).2
  rw [← this]
  simp
/-- a set is open: it has all that are due -/
def opnB (d s : Nat) : Bool := (List.range 8).all fun i => !d.testBit i || s.testBit i
theorem testBit_hi {d i : Nat} (hd : d < 256) (hi : 8 ≤ i) : d.testBit i = false := Nat.testBit_lt_two_pow (Nat.lt_of_lt_of_le hd (show 2 ^ 8 ≤ 2 ^ i from Nat.pow_le_pow_right (by decide) hi))
theorem andNot_opn {d : Nat} (s : Nat) (hd : d < 256) : (bits BinOp.andNot IntKind.i64 (d : Int) (s : Int) != 0) = !opnB d s := by
  have hv : bits BinOp.andNot IntKind.i64 (d : Int) (s : Int) = (((BitVec.ofNat 64 d &&& ~~~BitVec.ofNat 64 s).toNat : Nat) : Int) := by
    show IntKind.i64.wrap _ = _
    have hle : (BitVec.ofNat 64 d &&& ~~~BitVec.ofNat 64 s).toNat ≤ d := by
      rw [BitVec.toNat_and]
      refine Nat.le_trans Nat.and_le_left ?_
      rw [BitVec.toNat_ofNat, Nat.mod_eq_of_lt (by omega)]
      exact Nat.le_refl _
    show IntKind.i64.wrap ((((BitVec.ofInt 64 (d : Int)) &&& ~~~(BitVec.ofInt 64 (s : Int))).toNat : Nat) : Int) = _
    rw [BitVec.ofInt_natCast, BitVec.ofInt_natCast, IntKind.wrap_i64]
    omega
  rw [hv]
  have hbit : ∀ i, i < 64 → (BitVec.ofNat 64 d &&& ~~~BitVec.ofNat 64 s).getLsbD i = (d.testBit i && !s.testBit i) := fun i hi => by
    rw [BitVec.getLsbD_and, BitVec.getLsbD_not, BitVec.getLsbD_ofNat, BitVec.getLsbD_ofNat]
    simp [hi]
  cases ho : opnB d s
  · unfold opnB at ho
    rw [List.all_eq_false] at ho
    obtain ⟨i, hi, hb⟩ := ho
    have hi8 : i < 8 := List.mem_range.1 hi
    have hne : (BitVec.ofNat 64 d &&& ~~~BitVec.ofNat 64 s).toNat ≠ 0 := fun h0 => by
      have h1 : (BitVec.ofNat 64 d &&& ~~~BitVec.ofNat 64 s) = 0#64 := BitVec.eq_of_toNat_eq (by rw [h0]; rfl)
      have h2 := hbit i (by omega)
      rw [h1] at h2
      simp at h2
      simp at hb
      rw [h2 hb.1] at hb
      simp at hb
    rw [Bool.not_false, bne_iff_ne]
    omega
  · unfold opnB at ho
    rw [List.all_eq_true] at ho
    have h0 : (BitVec.ofNat 64 d &&& ~~~BitVec.ofNat 64 s) = 0#64 := by
      refine BitVec.eq_of_getLsbD_eq fun i hi => ?_
      rw [hbit i hi]
      by_cases h8 : i < 8
      · have := ho i (List.mem_range.2 h8)
        cases h1 : d.testBit i <;> cases h2 : s.testBit i <;> simp_all
      · rw [testBit_hi hd (by omega)]; simp
    rw [h0]
    simp

/-! ### the program -/
set_option maxRecDepth 100000 in
theorem hasTask_c (s i : Nat) (w : World) (hs : s < 256) (hi : i < 8) : Calls Try.prog 151 #[.int .i64 (s : Int), .int .i64 (i : Int)] w fun e w' => e = .returned (.bool (s.testBit i)) ∧ w = w' := by
  go_enter Try.func151, Try.ntmps151
  go_wp2
  go_ret
  exact ⟨ret_bool (has_all i hi s hs), rfl⟩

set_option maxRecDepth 100000 in
set_option maxHeartbeats 4000000 in
theorem ones_c (s : Nat) (w : World) (hs : s < 256) : Calls Try.prog 171 #[.int .u64 (s : Int)] w fun e w' => e = .returned (.int .i64 ((pop s : Nat) : Int)) ∧ w = w' := by
  go_enter Try.func171, Try.ntmps171
  go_wp2
  go_ret
  refine ⟨ret_int ?_, rfl⟩
  clear w
  revert hs
  revert s
  exact of_decide_eq_true (by kernel_rfl)

set_option maxRecDepth 100000 in
set_option maxHeartbeats 4000000 in
theorem isSet_c (s : Int) (k : Nat) (m : Int) (w : World) (hk : k ≤ 8) : Calls Try.prog 148 #[.int .i64 s, .int .i64 (k : Int), .int .i64 m] w fun e w' => e = .returned (.bool (isSetB s k m)) ∧ w = w' := by
  have hpw := pow_all k hk
  by_cases h0 : 0 ≤ s
  · by_cases h1 : s < ((2 ^ k : Nat) : Int)
    · obtain ⟨t, rfl⟩ : ∃ t : Nat, s = t := ⟨s.toNat, by omega⟩
      have ht : t < 256 := by omega
      have Hf := Lib.hid (show isSetB (t : Int) k m = decide (((pop t : Nat) : Int) ≤ m) by unfold isSetB; rw [decide_eq_true ⟨h0, h1⟩, Int.toNat_natCast]; rfl)
      have h2 : (t : Int) < 2 ^ k := by simpa using h1
      have hw : IntKind.u64.wrap (t : Int) = (t : Int) := by rw [IntKind.wrap_u64]; omega
      have hsh := wrap_pow k hk
      clear h1 hpw
      go_enter Try.func148, Try.ntmps148
      go_wp2_with fail
      refine (ones_c t _ ht).mono ?_
      rintro e w1 ⟨rfl, rfl⟩
      go_wp2
      go_ret
      exact ⟨ret_bool (by rw [Hf.out]), rfl⟩
    · have Hf := Lib.hid (show isSetB s k m = false by unfold isSetB; rw [decide_eq_false (fun h => h1 h.2)]; rfl)
      have h2 : ¬ s < 2 ^ k := by simpa using h1
      have hsh := wrap_pow k hk
      clear h1 hpw
      go_enter Try.func148, Try.ntmps148
      go_wp2
      go_ret
      exact ⟨ret_bool (by rw [Hf.out]; first | done | rfl | simp), rfl⟩
  · have Hf := Lib.hid (show isSetB s k m = false by unfold isSetB; rw [decide_eq_false (fun h => h0 h.1)]; rfl)
    clear hpw
    go_enter Try.func148, Try.ntmps148
    go_wp2
    go_ret
    exact ⟨ret_bool (by rw [Hf.out]; first | done | rfl | simp), rfl⟩

set_option maxRecDepth 100000 in
set_option maxHeartbeats 4000000 in
theorem setsOf_c (k : Nat) (m : Int) (w : World) (hk : k ≤ 8) : Calls Try.prog 146 #[.int .i64 (k : Int), .int .i64 m] w (GivesI w (setsTo m (2 ^ k)) id) := by
  obtain ⟨i0, hi, hz0, hz1, hz2⟩ := info_parts Try.infoI
  have hpw := pow_all k hk
  obtain ⟨N, hN⟩ : ∃ N : Nat, 2 ^ k = N := ⟨_, rfl⟩
  have hNi : (2 : Int) ^ k = (N : Int) := by rw [← hN]; simp
  have hsh := wrap_pow k hk
  rw [hN] at hpw
  rw [hNi] at hsh
  have HN := Lib.hid hN
  clear hN
  go_enter Try.func146, Try.ntmps146
  go_wp2
  go_loopw [5, 9] (fun v q wr => ∃ n : Nat, n ≤ N ∧ q = .int .i64 n ∧ OwnI w.heap.size wr v (setsTo m n) ∧ Below w.heap.size w wr) (fun _ q _ => N - (intOf q).toNat)
  case atStart => exact ⟨0, Nat.zero_le _, rfl, ownI_nil _ _, Below.refl _ _⟩
  case round =>
    obtain ⟨n, hn, rfl, ho, hB⟩ := hrel
    have hsw := hB.size
    by_cases hlt : n < N
    · have hni : (n : Int) < (N : Int) := by omega
      have hsl := setsTo_len m n
      have hb : isSetB (n : Int) k m = decide (((pop n : Nat) : Int) ≤ m) := by
        unfold isSetB
        rw [HN.out, decide_eq_true (show 0 ≤ (n : Int) ∧ (n : Int) < (N : Int) by omega), Int.toNat_natCast]; rfl
      have Hb := Lib.hid hb
      clear hb
      go_wp2_with fail
      refine (isSet_c (n : Int) k m wr hk).mono ?_
      rintro e w1 ⟨rfl, rfl⟩
      by_cases hp : ((pop n : Nat) : Int) ≤ m
      · have Hy := Lib.hid (setsTo_yes hp)
        rw [Hb.out, decide_eq_true hp]
        obtain ⟨xs, hxs⟩ : ∃ xs, setsTo m n = xs := ⟨_, rfl⟩
        rw [hxs] at ho hsl Hy
        clear hp hxs
        go_wp2_with (at_builtin; refine wpList_append_own _ rfl _ _ 22 rfl w.heap.size 2 i0 (.int .i64 0) 1 8 Try.underlying22 hi hz0 hz1 hz2 rfl (by decide) _ _ _ rfl (World.ownsRow.alloc ho _) ⟨wr.heap.size, 0, none⟩ 1 1 [.int .i64 ((n : Int))] rfl rfl (Go.cell_one_new _ _ _) (by simp [Value.oneCell']) (by unfold maxLen; omega) (by omega) (by simp; omega) ?_)
        intro v' w1 hown' hgrow _
        have ho2 := ownI_snoc hown'
        have hB2 : Below w.heap.size w w1 := (hB.alloc hsw _).grown hgrow (by simp; omega) (fun j e => by have := (ho.blk j e).1; omega)
        have hgr : wr.grownBy w1 _ := (World.grownBy_alloc _ _ _).trans hgrow
        clear hown' hgrow
        clear hgr
        go_wp2
        go_roundw
        case rel => exact ⟨n + 1, by omega, by simp, by rw [Hy.out]; exact ho2, hB2⟩
        case measure => simp [intOf]; omega
      · have Hy := Lib.hid (setsTo_no hp)
        rw [Hb.out, decide_eq_false hp]
        clear hp
        go_wp2
        go_roundw
        case rel => exact ⟨n + 1, by omega, by simp, by rw [Hy.out]; exact ho, hB⟩
        case measure => simp [intOf]; omega
    · obtain rfl : n = N := by omega
      go_wp2
      go_ret
      exact ⟨_, rfl, by rw [HN.out]; exact ho, hB⟩

theorem u8_size : ∀ h, (Try.prog.types[5]'h).size = 1 := fun _ => by kernel_rfl
theorem index8 (xs : List Int) (k : Nat) (hk : k < 8) (W : World) : (Instr.index 126 (.agg #[.int .u8 (nth xs 0), .int .u8 (nth xs 1), .int .u8 (nth xs 2), .int .u8 (nth xs 3), .int .u8 (nth xs 4), .int .u8 (nth xs 5), .int .u8 (nth xs 6), .int .u8 (nth xs 7)]) (.int .i64 (k : Int))).run Try.prog W = .ok (.int .u8 (nth xs k)) W := by
  have h9 : k = 0 ∨ k = 1 ∨ k = 2 ∨ k = 3 ∨ k = 4 ∨ k = 5 ∨ k = 6 ∨ k = 7 := by omega
  rcases h9 with rfl | rfl | rfl | rfl | rfl | rfl | rfl | rfl <;> (show (_ : Result Value) = _; kernel_rfl)
attribute [local go_sem high] index8

set_option maxRecDepth 100000 in
set_option maxHeartbeats 8000000 in
theorem tasksDue_c (st : List Int) (w : World) : Calls Try.prog 169 #[arrV st] w fun e w' => e = .returned (.int .i64 ((dueTo st 8 : Nat) : Int)) ∧ Below w.heap.size w w' := by
  have hB0 : Below w.heap.size w (w.alloc (.cells #[.int .u8 (nth st 0), .int .u8 (nth st 1), .int .u8 (nth st 2), .int .u8 (nth st 3), .int .u8 (nth st 4), .int .u8 (nth st 5), .int .u8 (nth st 6), .int .u8 (nth st 7)] 126)) := (Below.refl _ w).alloc (Nat.le_refl _) _
  have hA0 : Arr (w.alloc (.cells #[.int .u8 (nth st 0), .int .u8 (nth st 1), .int .u8 (nth st 2), .int .u8 (nth st 3), .int .u8 (nth st 4), .int .u8 (nth st 5), .int .u8 (nth st 6), .int .u8 (nth st 7)] 126)) w.heap.size st := Arr.new w st
  unfold arrV cells8
  have k0 := hA0.cell (i := 0) (by omega)
  have k1 := hA0.cell (i := 1) (by omega)
  have k2 := hA0.cell (i := 2) (by omega)
  have k3 := hA0.cell (i := 3) (by omega)
  have k4 := hA0.cell (i := 4) (by omega)
  have k5 := hA0.cell (i := 5) (by omega)
  have k6 := hA0.cell (i := 6) (by omega)
  have k7 := hA0.cell (i := 7) (by omega)
  have HB := Lib.hid hB0
  clear hA0 hB0
  go_enter Try.func169, Try.ntmps169
  go_wp2
  clear k0 k1 k2 k3 k4 k5 k6 k7
  obtain ⟨W0, hW0⟩ : ∃ W0, w.alloc (.cells #[.int .u8 (nth st 0), .int .u8 (nth st 1), .int .u8 (nth st 2), .int .u8 (nth st 3), .int .u8 (nth st 4), .int .u8 (nth st 5), .int .u8 (nth st 6), .int .u8 (nth st 7)] 126) = W0 := ⟨_, rfl⟩
  rw [hW0] at HB ⊢
  clear hW0
  go_loopw [3, 7] (fun d q wr => ∃ k : Nat, k ≤ 8 ∧ q = .int .i64 k ∧ d = .int .i64 ((dueTo st k : Nat) : Int) ∧ wr = W0) (fun _ q _ => 8 - (intOf q).toNat)
  case atStart => exact ⟨0, by omega, rfl, rfl, rfl⟩
  case round =>
    obtain ⟨k, hk, rfl, rfl, rfl⟩ := hrel
    by_cases hlt : k < 8
    · have hor := or_due st hlt
      have hst : dueTo st (k + 1) = if nth st k = 1 then dueTo st k ||| 2 ^ k else dueTo st k := rfl
      obtain ⟨d, hd⟩ : ∃ d, dueTo st k = d := ⟨_, rfl⟩
      obtain ⟨d', hd'⟩ : ∃ d', d ||| 2 ^ k = d' := ⟨_, rfl⟩
      rw [hd, hd'] at hor hst
      rw [hd]
      have Hst := Lib.hid hst
      have hk8 : (k : Int) < 8 := by omega
      have hsh := wrap_pow k (by omega)
      clear hst hd hd'
      by_cases he : nth st k = 1
      · have Hn := Lib.hid (show dueTo st (k + 1) = d' by rw [Hst.out, if_pos he])
        have hq : (nth st k == 1) = true := by rw [he]; rfl
        clear he
        go_wp2
        go_roundw
        case rel => exact ⟨k + 1, by omega, by simp, by rw [Hn.out], trivial⟩
        case measure => simp [intOf]; omega
      · have Hn := Lib.hid (show dueTo st (k + 1) = d by rw [Hst.out, if_neg he])
        have hq : (nth st k == 1) = false := by simpa using he
        clear he hor
        go_wp2
        go_roundw
        case rel => exact ⟨k + 1, by omega, by simp, by rw [Hn.out], trivial⟩
        case measure => simp [intOf]; omega
    · obtain rfl : k = 8 := by omega
      go_wp2
      go_ret
      exact ⟨rfl, HB.out⟩

/-! ### the model -/
set_option maxRecDepth 100000 in
set_option maxHeartbeats 4000000 in
theorem l08Size_c (s : Nat) (w : World) (hs : s < 256) : Calls Try.prog 89 #[.int .i64 (s : Int)] w fun e w' => e = .returned (.int .i64 ((pop s : Nat) : Int)) ∧ w = w' := by
  go_enter Try.func89, Try.ntmps89
  go_wp2
  go_loop [0, 3] (fun x q => ∃ t c : Nat, t < 256 ∧ x = .int .i64 (t : Int) ∧ q = .int .i64 (c : Int) ∧ c + pop t = pop s) (fun x _ => (intOf x).toNat)
  case atStart => exact ⟨s, 0, hs, rfl, rfl, by omega⟩
  case round =>
    obtain ⟨t, c, ht, rfl, rfl, hc⟩ := hrel
    have hps := pop_le s
    by_cases h0 : t = 0
    · subst h0
      have Hc := Lib.hid (show c = pop s by rw [← hc]; rfl)
      go_wp2
      go_ret
      exact ⟨ret_int (by rw [Hc.out]), rfl⟩
    · have h1 := (clr_all t ht).resolve_right h0
      have h2 := (clr_pop t ht).resolve_left h0
      have hti : (0 : Int) < (t : Int) := by omega
      have hcb : c ≤ 8 := by omega
      obtain ⟨u, hu⟩ : ∃ u, clr t = u := ⟨_, rfl⟩
      rw [hu] at h1 h2
      have H2 := Lib.hid h2
      have Hc := Lib.hid hc
      clear h2 hc hu hps
      go_wp2
      exact ⟨⟨u, c + 1, by have := H2.out.2; omega, rfl, by simp, by have := H2.out.1; have := Hc.out; omega⟩, by simp [intOf]; have := H2.out.2; omega⟩

set_option maxRecDepth 100000 in
set_option maxHeartbeats 4000000 in
theorem l08Sets_c (c0 : Value) (zs : List Int) (m : Int) (w : World) (hI : Ints w.heap.size w c0 zs) (hk : zs.length ≤ 8) : Calls Try.prog 81 #[.agg #[c0], .int .i64 m] w (GivesI w (setsTo m (2 ^ zs.length)) id) := by
  obtain ⟨i0, hi, hz0, hz1, hz2⟩ := info_parts Try.infoI
  obtain ⟨a, cap, rfl⟩ := hI.shape
  obtain ⟨k, hkk⟩ : ∃ k, zs.length = k := ⟨_, rfl⟩
  rw [hkk] at hk ⊢
  have hpw := pow_all k hk
  obtain ⟨N, hN⟩ : ∃ N : Nat, 2 ^ k = N := ⟨_, rfl⟩
  have hNi : (2 : Int) ^ k = (N : Int) := by rw [← hN]; simp
  have hsh := wrap_pow k hk
  rw [hN] at hpw
  rw [hNi] at hsh
  have hwu : IntKind.u64.wrap (k : Int) = (k : Int) := by rw [IntKind.wrap_u64]; omega
  have HN := Lib.hid hN
  have bT0 : Boxed ((w.alloc (.cells #[.slice a k cap] 28)).alloc (.cells #[] 2)) w.heap.size 28 (.slice a k cap) := (Boxed.new _ _ _).alloc _
  have hB0 : Below w.heap.size w ((w.alloc (.cells #[.slice a k cap] 28)).alloc (.cells #[] 2)) := ((Below.refl _ w).alloc (Nat.le_refl _) _).alloc (by simp) _
  have ho0 : OwnI (w.heap.size + 1) ((w.alloc (.cells #[.slice a k cap] 28)).alloc (.cells #[] 2)) (.slice (some ⟨w.heap.size + 1, 0, none⟩) 0 0) (setsTo m 0) := by
    have := World.ownsRow_made (w.alloc (.cells #[.slice a k cap] 28)) (base := w.heap.size + 1) (e := 2) (size := 1) #[] 0 (by simp) (by unfold maxLen; omega) rfl
    rw [World.size_alloc] at this
    exact this
  clear hN hkk hI
  go_enter Try.func81, Try.ntmps81
  go_wp2
  obtain ⟨W0, hW0⟩ : ∃ W0, (w.alloc (.cells #[.slice a k cap] 28)).alloc (.cells #[] 2) = W0 := ⟨_, rfl⟩
  rw [hW0] at bT0 hB0 ho0 ⊢
  clear hW0
  go_loopw [5, 6] (fun v q wr => ∃ n : Nat, n ≤ N ∧ q = .int .i64 n ∧ OwnI (w.heap.size + 1) wr v (setsTo m n) ∧ Boxed wr w.heap.size 28 (.slice a k cap) ∧ Below w.heap.size w wr) (fun _ q _ => N - (intOf q).toNat)
  case atStart => exact ⟨0, Nat.zero_le _, rfl, ho0, bT0, hB0⟩
  case round =>
    obtain ⟨n, hn, rfl, ho, bT, hB⟩ := hrel
    have hsw := hB.size
    have kT := bT.cell
    have hbl := bT.lt
    clear ho0 bT0 hB0
    by_cases hlt : n < N
    · have hni : (n : Int) < (N : Int) := by omega
      have hsl := setsTo_len m n
      go_wp2_with fail
      refine (l08Size_c n wr (by omega)).mono ?_
      rintro e w1 ⟨rfl, rfl⟩
      by_cases hp : ((pop n : Nat) : Int) ≤ m
      · have Hy := Lib.hid (setsTo_yes hp)
        obtain ⟨xs, hxs⟩ : ∃ xs, setsTo m n = xs := ⟨_, rfl⟩
        rw [hxs] at ho hsl Hy
        have Hne := Lib.hid (fun e => (ho.blk w.heap.size e).1)
        clear hxs
        go_wp2_with (at_builtin; refine wpList_append_own _ rfl _ _ 22 rfl (w.heap.size+1) 2 i0 (.int .i64 0) 1 8 Try.underlying22 hi hz0 hz1 hz2 rfl (by decide) _ _ _ rfl (World.ownsRow.alloc ho _) ⟨wr.heap.size, 0, none⟩ 1 1 [.int .i64 ((n : Int))] rfl rfl (Go.cell_one_new _ _ _) (by simp [Value.oneCell']) (by unfold maxLen; omega) (by omega) (by simp; omega) ?_)
        intro v' w1 hown' hgrow _
        have ho2 := ownI_snoc hown'
        have hB2 : Below w.heap.size w w1 := (hB.alloc hsw _).grown hgrow (by simp; omega) (fun j e => by have := (ho.blk j e).1; omega)
        have hgr : wr.grownBy w1 _ := (World.grownBy_alloc _ _ _).trans hgrow
        clear hown' hgrow
        have bT2 : Boxed w1 w.heap.size 28 (.slice a k cap) := bT.kept hgr (fun e => by have := Hne.out e.symm; omega)
        clear hgr bT
        go_wp2
        go_roundw
        case rel => exact ⟨n + 1, by omega, by simp, by rw [Hy.out]; exact ho2, bT2, hB2⟩
        case measure => simp [intOf]; omega
      · have Hy := Lib.hid (setsTo_no hp)
        go_wp2
        go_roundw
        case rel => exact ⟨n + 1, by omega, by simp, by rw [Hy.out]; exact ho, bT, hB⟩
        case measure => simp [intOf]; omega
    · obtain rfl : n = N := by omega
      go_wp2
      go_ret
      exact ⟨_, rfl, by rw [HN.out]; exact ho.base (by omega), hB⟩

end Go.Proofs.Ytieobjoijalijaa
