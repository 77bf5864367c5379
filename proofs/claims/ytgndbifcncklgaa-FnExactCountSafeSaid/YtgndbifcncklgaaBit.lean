/-
  Sets of tasks as numbers: digits, how many there are; hasTask, bits.OnesCount64, isSet, setsOf, tasksDue; the model's l08Size, l08Sets.
  Conditions: at most 8 tasks.
-/
import Derived.Laws.BitsLemmas
import Derived.Test.YtgndbifcncklgaaArr
namespace Go.Proofs.Ytgndbifcncklgaa
open Go.RowKit Go.Shelf
attribute [local go_sem] Oper.semAt_some

/-! ### mathematics -/
/-- how many digits 1 a number below 256 has -/
def pop (s : Nat) : Nat := ((List.range 8).filter fun i => s.testBit i).length
/-- .. without the last digit 1 -/
def clr (s : Nat) : Nat := s &&& (s - 1)
theorem has_all : ∀ i : Nat, i < 8 → ∀ s : Nat, s < 256 → ((bits BinOp.and IntKind.i64 ((s : Int) / 2 ^ i) 1 == 1) = s.testBit i) := of_decide_eq_true (by kernel_rfl)
theorem hasnt_all : ∀ i : Nat, i < 8 → ∀ s : Nat, s < 256 → ((bits BinOp.and IntKind.i64 ((s : Int) / 2 ^ i) 1 == 0) = !s.testBit i) := of_decide_eq_true (by kernel_rfl)
theorem clr_all : ∀ s : Nat, s < 256 → bits BinOp.and IntKind.i64 (s : Int) ((s : Int) - 1) = ((clr s : Nat) : Int) ∨ s = 0 := of_decide_eq_true (by kernel_rfl)
theorem clr_pop : ∀ s : Nat, s < 256 → s = 0 ∨ (pop (clr s) + 1 = pop s ∧ clr s < s) := of_decide_eq_true (by kernel_rfl)
theorem pop_le (s : Nat) : pop s ≤ 8 := by
  have := List.length_filter_le (fun i => s.testBit i) (List.range 8)
  simpa [pop] using this
theorem pow_all : ∀ k : Nat, k ≤ 8 → 1 ≤ 2 ^ k ∧ 2 ^ k ≤ 256 := of_decide_eq_true (by kernel_rfl)
theorem wrap_pow : ∀ k : Nat, k ≤ 8 → IntKind.i64.wrap ((2 : Int) ^ k) = (2 : Int) ^ k := of_decide_eq_true (by kernel_rfl)
def isSetB (s : Int) (k : Nat) (m : Int) : Bool := decide (0 ≤ s ∧ s < ((2 ^ k : Nat) : Int)) && decide (((pop s.toNat : Nat) : Int) ≤ m)
/-- the sets below n of at most m tasks -/
def setsTo (m : Int) (n : Nat) : List Int := ((List.range n).filter fun s => decide (((pop s : Nat) : Int) ≤ m)).map fun (s : Nat) => (s : Int)
theorem setsTo_zero (m : Int) : setsTo m 0 = [] := rfl
theorem setsTo_yes {m : Int} {n : Nat} (h : ((pop n : Nat) : Int) ≤ m) : setsTo m (n + 1) = setsTo m n ++ [(n : Int)] := by simp [setsTo, List.range_succ, h]
theorem setsTo_no {m : Int} {n : Nat} (h : ¬ ((pop n : Nat) : Int) ≤ m) : setsTo m (n + 1) = setsTo m n := by simp [setsTo, List.range_succ, h]
theorem setsTo_len (m : Int) (n : Nat) : (setsTo m n).length ≤ n := by
  have := List.length_filter_le (fun s => decide (((pop s : Nat) : Int) ≤ m)) (List.range n)
  simpa [setsTo] using this
theorem mem_setsTo {m : Int} {n : Nat} {x : Int} (h : x ∈ setsTo m n) : ∃ s : Nat, x = s ∧ s < n ∧ ((pop s : Nat) : Int) ≤ m := by
  unfold setsTo at h
  obtain ⟨s, hs, rfl⟩ := List.mem_map.1 h
  simp at hs
  exact ⟨s, rfl, hs.1, hs.2⟩
theorem setsTo_mem {m : Int} {n s : Nat} (h : s < n) (hp : ((pop s : Nat) : Int) ≤ m) : (s : Int) ∈ setsTo m n := by
  unfold setsTo
  exact List.mem_map.2 ⟨s, by simp [h, hp], rfl⟩
/-- the set of the tasks that have the number 1, of the first k -/
def dueTo (st : List Int) : Nat → Nat
  | 0 => 0
  | k + 1 => if nth st k = 1 then dueTo st k ||| 2 ^ k else dueTo st k
theorem dueTo_lt (st : List Int) : ∀ k, k ≤ 8 → dueTo st k < 2 ^ 8
  | 0, _ => (by decide : (0 : Nat) < 2 ^ 8)
  | k + 1, h => by
    have ih := dueTo_lt st k (by omega)
    simp only [dueTo]
    split
    · exact Nat.or_lt_two_pow ih (Nat.pow_lt_pow_right (by decide) (by omega))
    · exact ih
theorem dueTo_bit (st : List Int) (i : Nat) : ∀ k, (dueTo st k).testBit i = decide (i < k ∧ nth st i = 1)
  | 0 => by simp [dueTo]
  | k + 1 => by
    have ih := dueTo_bit st i k
    simp only [dueTo]
    split
    · rename_i h
      rw [Nat.testBit_or, ih, Nat.testBit_two_pow]
      by_cases e : i = k
      · subst e; simp [h]
      · have : ¬ k = i := fun h => e h.symm
        simp [this, show (i < k + 1) = (i < k) by simp; omega]
    · rename_i h
      rw [ih]
      by_cases e : i = k
      · subst e; simp [h]
      · simp [show (i < k + 1) = (i < k) by simp; omega]
theorem or_due (st : List Int) {k : Nat} (hk : k < 8) : bits BinOp.or IntKind.i64 ((dueTo st k : Nat) : Int) (2 ^ k) = ((dueTo st k ||| 2 ^ k : Nat) : Int) := by
  have := (bits_nat .i64 8 (by decide) (fun n h0 h1 => by rw [IntKind.wrap_i64]; omega) (dueTo st k) (2 ^ k) (dueTo_lt st k (by omega)) (Nat.pow_lt_pow_right (by decide) hk)).2
  rw [← this]
  simp
/-- a set is open: it has all that are due -/
def opnB (d s : Nat) : Bool := (List.range 8).all fun i => !d.testBit i || s.testBit i
theorem testBit_hi {d i : Nat} (hd : d < 256) (hi : 8 ≤ i) : d.testBit i = false := Nat.testBit_lt_two_pow (Nat.lt_of_lt_of_le hd (show 2 ^ 8 ≤ 2 ^ i from Nat.pow_le_pow_right (by decide) hi))
theorem andNot_opn {d : Nat} (s : Nat) (hd : d < 256) : (bits BinOp.andNot IntKind.i64 (d : Int) (s : Int) != 0) = !opnB d s := by
  have hv : bits BinOp.andNot IntKind.i64 (d : Int) (s : Int) = (((BitVec.ofNat 64 d &&& ~~~BitVec.ofNat 64 s).toNat : Nat) : Int) := by
    show IntKind.i64.wrap _ = _
    have hle : (BitVec.ofNat 64 d &&& ~~~BitVec.ofNat 64 s).toNat ≤ d := by
      rw [BitVec.toNat_and]
      refine Nat.le_trans Nat.and_le_left ?_
      rw [BitVec.toNat_ofNat, Nat.mod_eq_of_lt (by omega)]
      exact Nat.le_refl _
    show IntKind.i64.wrap ((((BitVec.ofInt 64 (d : Int)) &&& ~~~(BitVec.ofInt 64 (s : Int))).toNat : Nat) : Int) = _
    rw [BitVec.ofInt_natCast, BitVec.ofInt_natCast, IntKind.wrap_i64]
    omega
  rw [hv]
  have hbit : ∀ i, i < 64 → (BitVec.ofNat 64 d &&& ~~~BitVec.ofNat 64 s).getLsbD i = (d.testBit i && !s.testBit i) := fun i hi => by
    rw [BitVec.getLsbD_and, BitVec.getLsbD_not, BitVec.getLsbD_ofNat, BitVec.getLsbD_ofNat]
    simp [hi]
  cases ho : opnB d s
  · unfold opnB at ho
    rw [List.all_eq_false] at ho
    obtain ⟨i, hi, hb⟩ := ho
    have hi8 : i < 8 := List.mem_range.1 hi
    have hne : (BitVec.ofNat 64 d &&& ~~~BitVec.ofNat 64 s).toNat ≠ 0 := fun h0 => by
      have h1 : (BitVec.ofNat 64 d &&& ~~~BitVec.ofNat 64 s) = 0#64 := BitVec.eq_of_toNat_eq (by rw [h0]; rfl)
      have h2 := hbit i (by omega)
      rw [h1] at h2
      simp at h2
      simp at hb
      rw [h2 hb.1] at hb
      simp at hb
    rw [Bool.not_false, bne_iff_ne]
    omega
  · unfold opnB at ho
    rw [List.all_eq_true] at ho
    have h0 : (BitVec.ofNat 64 d &&& ~~~BitVec.ofNat 64 s) = 0#64 := by
      refine BitVec.eq_of_getLsbD_eq fun i hi => ?_
      rw [hbit i hi]
      by_cases h8 : i < 8
      · have := ho i (List.mem_range.2 h8)
        cases h1 : d.testBit i <;> cases h2 : s.testBit i <;> simp_all
      · rw [testBit_hi hd (by omega)]; simp
    rw [h0]
    simp

theorem u8_size : ∀ h, (Try.prog.types[5]'h).size = 1 := fun _ => by kernel_rfl
theorem index8 (xs : List Int) (k : Nat) (hk : k < 8) (W : World) : (Instr.index 64 (.agg #[.int .u8 (nth xs 0), .int .u8 (nth xs 1), .int .u8 (nth xs 2), .int .u8 (nth xs 3), .int .u8 (nth xs 4), .int .u8 (nth xs 5), .int .u8 (nth xs 6), .int .u8 (nth xs 7)]) (.int .i64 (k : Int))).run Try.prog W = .ok (.int .u8 (nth xs k)) W := by
  have h9 : k = 0 ∨ k = 1 ∨ k = 2 ∨ k = 3 ∨ k = 4 ∨ k = 5 ∨ k = 6 ∨ k = 7 := by omega
  rcases h9 with rfl | rfl | rfl | rfl | rfl | rfl | rfl | rfl <;> (show (_ : Result Value) = _; kernel_rfl)
attribute [local go_sem high] index8

end Go.Proofs.Ytgndbifcncklgaa
