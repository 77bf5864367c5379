/-
  CountLasting of the model.
  Conditions: lists of at most 1048576 elements.
-/
import Derived.Test.YthggpmgjgibcoaaTopS
import Derived.Test.YthggpmgjgibcoaaCntI
namespace Go.Proofs.Ythggpmgjgibcoaa
open Go.RowKit Go.Shelf
attribute [local go_sem] Oper.semAt_some

/-- how many of the first n are true -/
def trT (bs : List Bool) (n : Nat) : Nat := (bs.take n).countP id
theorem trT_succ {bs : List Bool} {n : Nat} (h : n < bs.length) : trT bs (n + 1) = trT bs n + (if bAt bs (n : Int) then 1 else 0) := by
  unfold trT
  rw [List.take_add_one, bAt_nat bs h, Option.toList_some, List.countP_append]
  cases bAt bs (n : Int) <;> rfl
theorem trT_le (bs : List Bool) (n : Nat) : trT bs n ≤ n := by
  unfold trT
  exact Nat.le_trans List.countP_le_length (by simp; omega)
theorem trT_all {zs : List Int} (hp : Pos zs) : trT (lastB zs) (cntN zs) = lastTo zs (cntN zs) := by
  unfold trT
  rw [List.take_of_length_le (by rw [lastB_length]; exact Nat.le_refl _)]
  unfold lastTo lastB
  rw [lastC_R hp, List.countP_map]
  rfl

set_option maxRecDepth 100000 in
set_option maxHeartbeats 8000000 in
open Classical in
theorem s_CountLasting (c0 : Value) (zs : List Int) (w : World) (hI : Ints w.heap.size w c0 zs) (_hN : I64s zs) (hm : zs.length ≤ 1048576) :
    Calls Try.prog 57 #[.agg #[c0]] w fun e w' => e = .returned (.tuple #[.int .i64 (cntLR zs), .int .i64 (fewC zs)]) ∧ Below w.heap.size w w' := by
  obtain ⟨a, cap, rfl⟩ := hI.shape
  have hB0 : Below w.heap.size w (w.alloc (.cells #[.slice a zs.length cap] 26)) := (Below.refl _ w).alloc (Nat.le_refl _) _
  by_cases hc : fewC zs = 0
  · obtain ⟨ht, h4⟩ := fewC_ok hc
    have hp := pos_of ht
    have hcn := cntL_cntN hp
    have Hc := Lib.hid hc
    have hr : cntLR zs = (trT (lastB zs) (cntN zs) : Int) := by unfold cntLR; rw [if_pos hc, trT_all hp]
    obtain ⟨N, hN⟩ : ∃ N, cntN zs = N := ⟨_, rfl⟩
    have HN := Lib.hid hN
    have hlb : (lastB zs).length = N := by rw [lastB_length, hN]
    have Hlb := Lib.hid hlb
    have hN4 : N ≤ 4000 := by omega
    rw [hN] at hr
    have Hr := Lib.hid hr
    clear hc hcn hr hN hlb
    go_enter Try.func57, Try.ntmps57
    go_wp2_with fail
    refine (l02Few_c _ zs _ (hI.later hB0) hm).mono ?_
    rintro e w1 ⟨he, hb⟩
    rw [Hc.out] at he
    subst he
    have b1 : Boxed w1 w.heap.size 26 (.slice a zs.length cap) := boxed_later (Boxed.new _ _ _) hb
    have k1 := b1.cell
    have hB1 := hB0.trans (hb.mono (by simp))
    clear hb
    go_wp2_with fail
    refine (l02Lasting_c _ zs _ (hI.later hB1) ht h4).mono ?_
    rintro e w2 ⟨g, rfl, ho, hb⟩
    have hB2 := hB1.trans (hb.mono hB1.size)
    have ho2 := ho.base (Nat.zero_le _)
    rw [HN.out] at ho2 ⊢
    clear hb b1 k1 ho
    go_wp2_with fail
    go_loopw [6, 17] (fun c i wr => ∃ n : Nat, n ≤ N ∧ i = .int .i64 (n : Int) ∧ c = .int .i64 (trT (lastB zs) n : Int) ∧ OwnB 0 wr (.slice (some ⟨g, 0, none⟩) N N) (lastB zs) ∧ Below w.heap.size w wr) (fun _ i _ => N - (intOf i).toNat)
    case atStart => exact ⟨0, Nat.zero_le _, rfl, by simp [trT], ho2, hB2⟩
    case round =>
      obtain ⟨n, hn, rfl, rfl, hoW, hBW⟩ := hrel
      by_cases hlt : n < N
      · have hcm := ho_cell hoW Hlb.out hlt
        have hsu := trT_succ (bs := lastB zs) (n := n) (by rw [Hlb.out]; exact hlt)
        have hle := trT_le (lastB zs) n
        have hwr : IntKind.i64.wrap ((trT (lastB zs) n : Int) + 1) = (trT (lastB zs) n : Int) + 1 := by rw [IntKind.wrap_i64]; omega
        cases hv : bAt (lastB zs) (n : Int)
        · rw [hv] at hcm hsu
          have Hsu := Lib.hid hsu
          clear hsu
          go_wp2_with fail
          go_roundw
          case rel => exact ⟨n + 1, by omega, by simp, by rw [Hsu.out]; simp, hoW, hBW⟩
          case measure => simp [intOf]; omega
        · rw [hv] at hcm hsu
          have Hsu := Lib.hid hsu
          clear hsu
          go_wp2_with fail
          go_roundw
          case rel => exact ⟨n + 1, by omega, by simp, by rw [Hsu.out]; simp, hoW, hBW⟩
          case measure => simp [intOf]; omega
      · obtain rfl : n = N := by omega
        go_wp2_with fail
        go_ret2
        exact ⟨by rw [Hr.out, Hc.out]; rfl, hBW⟩
  · have Hr := Lib.hid (show cntLR zs = 0 by unfold cntLR; rw [if_neg hc])
    have hq : (fewC zs != 0) = true := by simpa using hc
    have hp := fewC_bd zs
    clear hc
    go_enter Try.func57, Try.ntmps57
    go_wp2_with fail
    refine (l02Few_c _ zs _ (hI.later hB0) hm).mono ?_
    rintro e w1 ⟨rfl, hb⟩
    go_wp2
    go_ret2
    exact ⟨by rw [Hr.out]; rfl, hB0.trans (hb.mono (by simp))⟩

end Go.Proofs.Ythggpmgjgibcoaa
