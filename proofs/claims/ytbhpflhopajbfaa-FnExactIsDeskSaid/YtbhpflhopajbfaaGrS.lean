/-
  The model's functions for gardens: l06Is, l06Heights, l06Turns, l06Grow, l06Highest, l06Fastest, l06Same.
  Conditions: each slice takes at most 140737488351232 bytes; heights from 0 to 100000.
-/
import Derived.Test.YtbhpflhopajbfaaWaits
import Derived.Test.YtbhpflhopajbfaaGrd
namespace Go.Proofs.Ytbhpflhopajbfaa
open Go.RowKit Go.Shelf
attribute [local go_sem] Oper.semAt_some

set_option maxRecDepth 100000 in
set_option maxHeartbeats 1000000 in
theorem l06Is_c (sv : Value) (zs : List Int) (w : World) (hI : Ints w.heap.size w sv zs) (hl : zs.length * 8 ≤ 140737488351232) :
    Calls Try.prog 119 #[.agg #[sv]] w fun e w' => e = .returned (.bool (gardenOk zs)) ∧ Below w.heap.size w w' := by
  obtain ⟨a, cap, rfl⟩ := hI.shape
  have hB0 : Below w.heap.size w (w.alloc (.cells #[.slice a zs.length cap] 74)) := (Below.refl _ w).alloc (Nat.le_refl _) _
  go_enter Try.func119, Try.ntmps119
  go_wp2
  go_loop [3] (fun i => ∃ k : Nat, k ≤ zs.length ∧ i = .int .i64 k ∧ (∀ j, j < k → inB (nth zs j) 1 20 = true)) (fun i => zs.length - (intOf i).toNat)
  case atStart => exact ⟨0, Nat.zero_le _, rfl, by simp⟩
  case round =>
    obtain ⟨k, hk, rfl, hall⟩ := hrel
    by_cases hlt : k < zs.length
    · obtain ⟨b, off, rfl, hb, hc⟩ := (hI.below hB0).at_ hlt
      have hcx := hc k hlt
      clear hc
      by_cases he : inB (nth zs k) 1 20 = true
      · have He := Lib.hid he
        clear he
        go_wp2_with (go_at_call 87; refine (l01In_d true _ _ _ _ He.out).mono ?_; rintro e w' ⟨rfl, rfl⟩)
        go_round
        case rel => exact ⟨k + 1, by omega, by simp, fun j hj => by by_cases e : j = k; exact e ▸ He.out; exact hall j (by omega)⟩
        case measure => simp [intOf]; omega
      · have he' : inB (nth zs k) 1 20 = false := by simpa using he
        have He := Lib.hid he'
        clear he he'
        go_wp2_with (go_at_call 87; refine (l01In_d false _ _ _ _ He.out).mono ?_; rintro e w' ⟨rfl, rfl⟩)
        go_ret
        exact ⟨ret_bool (by unfold gardenOk; rw [all_false_of hlt He.out]; rfl), hB0⟩
    · obtain rfl : k = zs.length := by omega
      have ha := all_true_of (p := fun z => inB z 1 20) hall
      by_cases h1 : 0 < zs.length
      · by_cases h2 : zs.length ≤ 8
        · have Hf := Lib.hid (show gardenOk zs = true by unfold gardenOk; rw [ha, inB_true.2 (by omega)]; rfl)
          clear hall ha
          go_wp2
          go_ret
          exact ⟨ret_bool (by rw [Hf.out]; first | done | (simp; done) | (simp; omega)), hB0⟩
        · have Hf := Lib.hid (show gardenOk zs = false by unfold gardenOk; rw [inB_false.2 (by omega), Bool.and_false])
          clear hall ha
          go_wp2
          go_ret
          exact ⟨ret_bool (by rw [Hf.out]; first | done | (simp; done) | (simp; omega)), hB0⟩
      · have Hf := Lib.hid (show gardenOk zs = false by unfold gardenOk; rw [inB_false.2 (by omega), Bool.and_false])
        clear hall ha
        go_wp2
        go_ret
        exact ⟨ret_bool (by rw [Hf.out]; first | done | (simp; done) | (simp; omega)), hB0⟩

theorem l06Is_d (d : Bool) (sv : Value) (zs : List Int) (w : World) (hI : Ints w.heap.size w sv zs) (hl : zs.length * 8 ≤ 140737488351232) (hd : gardenOk zs = d) :
    Calls Try.prog 119 #[.agg #[sv]] w fun e w' => e = .returned (.bool d) ∧ Below w.heap.size w w' := by
  subst hd; exact l06Is_c sv zs w hI hl

theorem ownI_emptyG {B : Nat} (w : World) (h : B ≤ w.heap.size) : OwnI B (w.alloc (.cells #[] 2)) (.slice (some ⟨w.heap.size, 0, none⟩) 0 0) [] := World.ownsRow_made w #[] 0 h (by unfold maxLen; omega) rfl
theorem boxed_drewN {W : World} {b : Nat} {t : TypeId} {v : Value} (h : Boxed W b t v) (n : Nat) : Boxed (W.drewN n) b t v := boxed_later h (below_drewN (Below.refl _ _) n)
theorem growL_take {rs hs : List Int} {d : Int} {k : Nat} (h : k < hs.length) : (growL rs hs d).take (k + 1) = (growL rs hs d).take k ++ [nth hs k + d * nth rs k] := by
  rw [take_snoc (by rw [growL_length]; exact h), nth_growL h]
theorem mul_bd {d r D R : Int} (h0 : 0 ≤ d) (h1 : d ≤ D) (h2 : 0 ≤ r) (h3 : r ≤ R) : 0 ≤ d * r ∧ d * r ≤ D * R :=
  ⟨Int.mul_nonneg h0 h2, Int.mul_le_mul h1 h3 h2 (by omega)⟩

theorem rkG_zero (rs hs : List Int) (i : Nat) : rkG rs 0 hs i = nth hs i := if_pos rfl
theorem rkG_low {rs hs : List Int} {x : Int} {i : Nat} (hx : 1 ≤ x) (h : nth hs i < x) : rkG rs x hs i = -1 := by unfold rkG; rw [if_neg (by omega), if_pos h]
theorem rkG_high {rs hs : List Int} {x : Int} {i : Nat} (hx : 1 ≤ x) (h : ¬ nth hs i < x) : rkG rs x hs i = nth rs i := by unfold rkG; rw [if_neg (by omega), if_neg h]

end Go.Proofs.Ytbhpflhopajbfaa
