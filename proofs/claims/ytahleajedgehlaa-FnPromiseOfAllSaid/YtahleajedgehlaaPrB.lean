/-
  likeInts of the laws.
-/
import Derived.Test.YtahleajedgehlaaLaw
namespace Go.Proofs.Ytahleajedgehlaa
open Go.RowKit Go.Shelf

set_option maxRecDepth 100000 in
set_option maxHeartbeats 1000000 in
theorem likeInts_c (sv tv : Value) (xs ys : List Int) (w : World) (hX : Ints w.heap.size w sv xs) (hY : Ints w.heap.size w tv ys) (hl : xs.length * 8 ≤ 140737488351232) :
    Calls Try.prog 6 #[sv, tv] w fun e w' => e = .returned (.bool (decide (xs = ys))) ∧ Below w.heap.size w w' := by
  obtain ⟨a, cap, rfl⟩ := hX.shape
  obtain ⟨a2, cap2, rfl⟩ := hY.shape
  by_cases hlen : xs.length = ys.length
  · have hq : ((xs.length : Int) != (ys.length : Int)) = false := by rw [hlen]; simp
    have Hl := Lib.hid hlen
    clear hlen
    go_enter Try.func6, Try.ntmps6
    go_wp2
    go_loopw [5] (fun i wr => ∃ k : Nat, k ≤ xs.length ∧ i = .int .i64 k ∧ (∀ j, j < k → nth xs j = nth ys j) ∧ Below w.heap.size w wr)
      (fun i _ => xs.length - (intOf i).toNat)
    case atStart => exact ⟨0, Nat.zero_le _, rfl, by simp, Below.refl _ _⟩
    case round =>
      obtain ⟨k, hk, rfl, hall, hB⟩ := hrel
      by_cases hlt : k < xs.length
      · obtain ⟨b, off, rfl, hb, hc⟩ := (hX.below hB).at_ hlt
        have hlt2 : k < ys.length := by have := Hl.out; omega
        obtain ⟨b2, off2, rfl, hb2, hc2⟩ := (hY.below hB).at_ hlt2
        have hcx := hc k hlt
        have hcy := hc2 k hlt2
        have hi1 : (k : Int) < (xs.length : Int) := by omega
        have hi2 : (k : Int) < (ys.length : Int) := by omega
        clear hc hc2
        by_cases he : nth xs k = nth ys k
        · have hq2 : (nth xs k != nth ys k) = false := by simp [he]
          have He := Lib.hid he
          clear he
          go_wp2
          go_quiet (fail)
          go_wp2
          go_roundw
          case rel => exact ⟨k + 1, by omega, by simp, fun j hj => by by_cases e : j = k; exact e ▸ He.out; exact hall j (by omega), below_drewN hB _⟩
          case measure => simp [intOf]; omega
        · have hq2 : (nth xs k != nth ys k) = true := by simpa using he
          go_wp2
          go_quiet (fail)
          go_wp2
          go_ret
          exact ⟨ret_bool (decide_eq_false (fun e => he (by rw [e]))).symm, below_drewN hB _⟩
      · obtain rfl : k = xs.length := by omega
        go_wp2
        go_ret
        exact ⟨ret_bool (decide_eq_true (ext_nth Hl.out hall)).symm, hB⟩
  · have hq : ((xs.length : Int) != (ys.length : Int)) = true := by rw [bne_iff_ne]; omega
    go_enter Try.func6, Try.ntmps6
    go_wp2
    go_ret
    exact ⟨ret_bool (decide_eq_false (fun e => hlen (by rw [e]))).symm, Below.refl _ _⟩
theorem likeInts_t (sv tv : Value) (xs : List Int) (w : World) (hX : Ints w.heap.size w sv xs) (hY : Ints w.heap.size w tv xs) (hl : xs.length * 8 ≤ 140737488351232) :
    Calls Try.prog 6 #[sv, tv] w fun e w' => e = .returned (.bool true) ∧ Below w.heap.size w w' := by
  have h := likeInts_c sv tv xs xs w hX hY hl
  rwa [decide_eq_true rfl] at h

end Go.Proofs.Ytahleajedgehlaa
