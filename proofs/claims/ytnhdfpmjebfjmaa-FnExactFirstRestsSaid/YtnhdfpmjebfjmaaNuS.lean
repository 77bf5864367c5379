/-
  CountRests of the model.
  Conditions: lists of at most 1048576 elements.
-/
import Derived.Test.YtnhdfpmjebfjmaaNum
import Derived.Test.YtnhdfpmjebfjmaaLasting
import Derived.Test.YtnhdfpmjebfjmaaChk
namespace Go.Proofs.Ytnhdfpmjebfjmaa
open Go.RowKit Go.Shelf

theorem pos_of_r {zs : List Int} (h : tasksOk zs = true) : Pos zs := fun _ hi => (tasksOk_nth h hi).1
theorem cntP_bd_r {zs : List Int} (h : tasksOk zs = true) {k : Nat} (hk : k ≤ zs.length) : 1 ≤ cntP zs k ∧ cntP zs k ≤ 40 ^ k := by
  refine ⟨cntP_pos (pos_of_r h) hk, ?_⟩
  induction k with
  | zero => simp [cntP]
  | succ k ih =>
    have h1 := ih (by omega)
    have h2 := (tasksOk_nth h (k := k) (by omega))
    have h3 := cntP_pos (pos_of_r h) (k := k) (by omega)
    have := Int.mul_le_mul h1 h2.2 (by omega) (Int.pow_nonneg (by omega))
    simpa [cntP, Int.pow_succ] using this
theorem cntP_top_r {zs : List Int} (h : tasksOk zs = true) {k : Nat} (hk : k ≤ zs.length) : 1 ≤ cntP zs k ∧ cntP zs k ≤ 6553600000000 := by
  obtain ⟨h1, h2⟩ := cntP_bd_r h hk
  refine ⟨h1, Int.le_trans h2 ?_⟩
  have h8 := (tasksOk_len h).2
  have hk8 : k ≤ 8 := by omega
  have : k = 0 ∨ k = 1 ∨ k = 2 ∨ k = 3 ∨ k = 4 ∨ k = 5 ∨ k = 6 ∨ k = 7 ∨ k = 8 := by omega
  rcases this with h | h | h | h | h | h | h | h | h <;> subst h <;> decide
theorem cntP_wrap_r {zs : List Int} (h : tasksOk zs = true) {k : Nat} (hk : k < zs.length) : IntKind.i64.wrap (cntP zs k * nth zs k) = cntP zs (k + 1) := by
  have h1 := cntP_top_r h (k := k + 1) (by omega)
  show IntKind.i64.wrap (cntP zs (k + 1)) = _
  rw [IntKind.wrap_i64]; omega

/-- the number of lists of rests, and the code -/
def crC (zs : List Int) : Int := if tasksOk zs then (if 20000 < cntL zs then 3 else 0) else 1
def crR (zs : List Int) : Int := if crC zs = 0 then (Rst.cnt [] zs : Nat) else 0
theorem cr_one {zs : List Int} (h : tasksOk zs = false) : crC zs = 1 ∧ crR zs = 0 := by
  have : crC zs = 1 := by unfold crC; rw [h]; rfl
  exact ⟨this, by unfold crR; rw [if_neg (by omega)]⟩
theorem cr_three {zs : List Int} (h : tasksOk zs = true) (h2 : 20000 < cntL zs) : crC zs = 3 ∧ crR zs = 0 := by
  have : crC zs = 3 := by unfold crC; rw [h, if_pos rfl, if_pos h2]
  exact ⟨this, by unfold crR; rw [if_neg (by omega)]⟩
theorem cr_none {zs : List Int} (h : tasksOk zs = true) (h2 : ¬ 20000 < cntL zs) : crC zs = 0 ∧ crR zs = (Rst.cnt [] zs : Nat) := by
  have : crC zs = 0 := by unfold crC; rw [h, if_pos rfl, if_neg h2]
  exact ⟨this, by unfold crR; rw [if_pos this]⟩

set_option maxRecDepth 100000 in
set_option maxHeartbeats 8000000 in
theorem s_CountRests (c0 : Value) (zs : List Int) (w : World) (hI : Ints w.heap.size w c0 zs) (_hN : I64s zs) (hm : zs.length ≤ 1048576) (_hcp : CapOk c0 zs.length) :
    Calls Try.prog 22 #[.agg #[c0]] w fun e w' => e = .returned (.tuple #[.int .i64 (crR zs), .int .i64 (crC zs)]) ∧ Below w.heap.size w w' := by
  obtain ⟨a, cap, rfl⟩ := hI.shape
  have hB0 : Below w.heap.size w (w.alloc (.cells #[.slice a zs.length cap] 29)) := (Below.refl _ w).alloc (Nat.le_refl _) _
  cases ht : tasksOk zs
  · have H := Lib.hid (cr_one ht)
    have Ht := Lib.hid ht
    clear ht
    go_enter Try.func22, Try.ntmps22
    go_wp2_with fail
    refine (l01Is_c _ zs _ (hI.later hB0) (by omega)).mono ?_
    rintro e w1 ⟨he, hb⟩
    rw [Ht.out] at he
    subst he
    go_wp2
    go_ret2
    exact ⟨ret_i2d H.out.2.symm H.out.1.symm, hB0.trans (hb.mono (by simp))⟩
  · have hl := tasksOk_len ht
    have hw : ∀ k, k < zs.length → IntKind.i64.wrap (cntP zs k * nth zs k) = cntP zs (k + 1) := fun k hk => cntP_wrap_r ht hk
    have Hw := Lib.hid hw
    have Ht := Lib.hid ht
    have hzb : ∀ k, k < zs.length → 1 ≤ nth zs k ∧ nth zs k ≤ 40 := fun k hk => tasksOk_nth ht hk
    have Hzb := Lib.hid hzb
    have hfw : Try.prog.follows Departure.mixedOrders = true := by kernel_rfl
    clear hw ht hzb
    go_enter Try.func22, Try.ntmps22
    go_wp2_with fail
    refine (l01Is_c _ zs _ (hI.later hB0) (by omega)).mono ?_
    rintro e w1 ⟨he, hb⟩
    rw [Ht.out] at he
    subst he
    have b1 : Boxed w1 w.heap.size 29 (.slice a zs.length cap) := boxed_later (Boxed.new _ _ _) hb
    have k1 := b1.cell
    have hB1 := hB0.trans (hb.mono (by simp))
    clear hb hB0
    go_wp2
    go_loop [4, 5] (fun c i => ∃ k : Nat, k ≤ zs.length ∧ i = .int .i64 k ∧ c = .int .i64 (cntP zs k)) (fun _ i => zs.length - (intOf i).toNat)
    case atStart => exact ⟨0, Nat.zero_le _, rfl, rfl⟩
    case round =>
      obtain ⟨k, hk, rfl, rfl⟩ := hrel
      by_cases hlt : k < zs.length
      · obtain ⟨b, off, rfl, hb, hc⟩ := (hI.below hB1).at_ hlt
        have hcx := hc k hlt
        have he := Hw.out k hlt
        clear hc
        go_wp2
        go_round
        case rel => exact ⟨k + 1, by omega, by simp, by first | rw [he] | simp⟩
        case measure => simp [intOf]; omega
      · obtain rfl : k = zs.length := by omega
        obtain ⟨pr, hpr⟩ : ∃ pr, cntL zs = pr := ⟨_, rfl⟩
        have hpr2 : cntP zs zs.length = pr := hpr
        rw [hpr2]
        by_cases hbig : 20000 < pr
        · have H := Lib.hid (cr_three Ht.out (by rw [hpr]; exact hbig))
          clear hpr hpr2
          go_wp2
          go_ret2
          exact ⟨ret_i2d H.out.2.symm H.out.1.symm, hB1⟩
        · have H := Lib.hid (cr_none Ht.out (by rw [hpr]; exact hbig))
          clear hpr hpr2
          go_wp2_with fail
          have hb2 : Below w1.heap.size w1 (w1.alloc (.cells #[] 73)) := (Below.refl _ _).alloc (Nat.le_refl _) _
          have hB2 := hB1.trans (hb2.mono hB1.size)
          have hC : Cls (w1.alloc (.cells #[] 73)).heap.size (w1.alloc (.cells #[] 73)) (.slice (some ⟨w1.heap.size, 0, none⟩) 0 0) [] := ⟨_, _, rfl, rfl, .inl rfl⟩
          refine (l05Number_c zs hl.2 Hzb.out zs.length (.slice a zs.length cap) _ [] _ ((hI.below hB2).mono hB2.size) hC ⟨_, _, _, rfl⟩ (by simp) (fun j hj => absurd hj (by simp))).mono ?_
          rintro e w3 ⟨rfl, hb3⟩
          rw [List.length_nil, List.drop_zero]
          go_wp2
          go_ret2
          exact ⟨ret_i2d H.out.2.symm H.out.1.symm, hB2.trans (hb3.mono hB2.size)⟩

end Go.Proofs.Ytnhdfpmjebfjmaa
