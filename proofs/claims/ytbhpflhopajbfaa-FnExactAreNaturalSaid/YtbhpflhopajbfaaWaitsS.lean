/-
  The model's waits: l01Waits, l01Greatest; WaitsOf of both.
  Conditions: lists of at most 1048576 elements.
-/
import Derived.Test.YtbhpflhopajbfaaWaits
namespace Go.Proofs.Ytbhpflhopajbfaa
open Go.RowKit Go.Shelf

theorem stF_bd {zs : List Int} {i : Int} {c : Nat} (hc : c ≤ (slotsL zs i).length) : -1 ≤ stF zs i c ∧ stF zs i c < (zs.length : Int) + 1 := by
  unfold stF; split
  · omega
  · have := slotN_lt (zs := zs) (i := i) (c := 0) (by omega); omega
theorem stL_bd {zs : List Int} {i : Int} {c : Nat} (hc : c ≤ (slotsL zs i).length) : -1 ≤ stL zs i c ∧ stL zs i c < (zs.length : Int) + 1 := by
  unfold stL; split
  · omega
  · have := slotN_lt (zs := zs) (i := i) (c := c - 1) (by omega); omega
theorem slotsTo_len (zs : List Int) (i : Int) {k : Nat} (hk : k ≤ zs.length) : (slotsTo zs i k).length ≤ (slotsL zs i).length := (slotsTo_prefix zs i hk).length_le

theorem ownI_empty (w : World) : OwnI w.heap.size (w.alloc (.cells #[] 2)) (.slice (some ⟨w.heap.size, 0, none⟩) 0 0) [] :=
  World.ownsRow_made w #[] 0 (Nat.le_refl _) (by unfold maxLen; omega) rfl

set_option maxRecDepth 100000 in
set_option maxHeartbeats 8000000 in
theorem l01Waits_c (sv : Value) (zs : List Int) (i : Int) (w : World) (hI : Ints w.heap.size w sv zs) (hl : zs.length ≤ 1048576) :
    Calls Try.prog 141 #[sv, .int .i64 i] w (GivesI w (waitsL zs i) id) := by
  obtain ⟨i0, hi, hz0, hz1, hz2⟩ := info_parts Try.infoI2
  obtain ⟨a, cap, rfl⟩ := hI.shape
  go_enter Try.func141, Try.ntmps141
  go_wp2
  go_loopw [5, 6, 7, 8] (fun v f l k' wr => ∃ k : Nat, k ≤ zs.length ∧ k' = .int .i64 k ∧ f = .int .i64 (stF zs i (slotsTo zs i k).length) ∧ l = .int .i64 (stL zs i (slotsTo zs i k).length) ∧ OwnI w.heap.size wr v (diffs zs i (slotsTo zs i k).length) ∧ Below w.heap.size w wr)
    (fun _ _ _ k' _ => zs.length - (intOf k').toNat)
  case atStart =>
    exact ⟨0, Nat.zero_le _, rfl, rfl, rfl, ownI_empty w, (Below.refl _ _).alloc (Nat.le_refl _) _⟩
  case round =>
    obtain ⟨k, hk, rfl, rfl, rfl, ho, hB⟩ := hrel
    have hlen := slotsTo_len zs i hk
    have hsl := slotsL_length zs i
    have hF := stF_bd hlen
    have hL := stL_bd hlen
    have hd := diffs_length zs i (slotsTo zs i k).length
    have hdb : (diffs zs i (slotsTo zs i k).length).length ≤ 1048576 := by omega
    have hsw := hB.size
    clear hd
    by_cases hlt : k < zs.length
    · obtain ⟨b, off, rfl, hb, hc⟩ := (hI.below hB).at_ hlt
      have hcx := hc k hlt
      clear hc
      by_cases he : nth zs k = i
      · have hq : (nth zs k != i) = false := by simp [he]
        have hy := slotsTo_yes he
        have hn := slotN_eq hlt he
        have Hy := Lib.hid hy
        have Hn := Lib.hid hn
        have hlen1 : (slotsTo zs i (k + 1)).length = (slotsTo zs i k).length + 1 := by rw [hy]; simp
        have Hlen := Lib.hid hlen1
        clear hy hn he hlen1
        by_cases h0 : (slotsTo zs i k).length = 0
        · have e1 : stF zs i (slotsTo zs i k).length = -1 := if_pos h0
          have e3 : stF zs i (slotsTo zs i (k + 1)).length = k := by rw [Hlen.out, h0]; unfold stF; simp; rw [← h0, Hn.out]
          have e4 : stL zs i (slotsTo zs i (k + 1)).length = k := by rw [Hlen.out, h0]; unfold stL; simp; rw [← h0, Hn.out]
          have e5 : diffs zs i (slotsTo zs i (k + 1)).length = diffs zs i (slotsTo zs i k).length := by rw [Hlen.out, h0]; rfl
          have E3 := Lib.hid e3
          have E4 := Lib.hid e4
          have E5 := Lib.hid e5
          rw [e1]
          clear e1 e3 e4 e5 h0
          go_wp2
          go_roundw
          case rel => exact ⟨k + 1, by omega, by simp, by rw [E3.out], by rw [E4.out], by rw [E5.out]; exact ho, hB⟩
          case measure => simp [intOf]; omega
        · have e1 : stF zs i (slotsTo zs i k).length = (slotN zs i 0 : Int) := if_neg h0
          have e2 : stL zs i (slotsTo zs i k).length = (slotN zs i ((slotsTo zs i k).length - 1) : Int) := if_neg h0
          have e3 : stF zs i (slotsTo zs i (k + 1)).length = (slotN zs i 0 : Int) := by rw [Hlen.out]; exact if_neg (by omega)
          have e4 : stL zs i (slotsTo zs i (k + 1)).length = k := by rw [Hlen.out]; unfold stL; rw [if_neg (by omega), Nat.add_sub_cancel, Hn.out]
          have e5 : diffs zs i (slotsTo zs i (k + 1)).length = diffs zs i (slotsTo zs i k).length ++ [(k : Int) - (slotN zs i ((slotsTo zs i k).length - 1) : Int)] := by rw [Hlen.out, diffs_succ zs i (by omega), Hn.out]
          rw [e1] at hF
          rw [e2] at hL
          have E3 := Lib.hid e3
          have E4 := Lib.hid e4
          have E5 := Lib.hid e5
          rw [e1, e2]
          clear e1 e2 e3 e4 e5 h0
          go_wp2_with (at_builtin; refine wpList_append_own _ rfl _ _ 22 rfl w.heap.size 2 i0 (.int .i64 0) 1 8 Try.underlying22 hi hz0 hz1 hz2 rfl (by decide) _ _ _ rfl (World.ownsRow.alloc ho _) ⟨wr.heap.size, 0, none⟩ 1 1 [.int .i64 ((k : Int) - (slotN zs i ((slotsTo zs i k).length - 1) : Int))] rfl rfl (Go.cell_one_new _ _ _) (by simp [Value.oneCell']) (by unfold maxLen; omega) (by omega) (by simp; omega) ?_)
          intro v' w1 hown' hgrow _
          have ho2 := ownI_snoc hown'
          rw [← E5.out] at ho2
          have hB2 : Below w.heap.size w w1 := (hB.alloc hsw _).grown hgrow (by simp; omega) (fun j e => (ho.blk j e).1)
          clear hown' hgrow
          go_wp2
          go_roundw
          case rel => exact ⟨k + 1, by omega, by simp, by rw [E3.out], by rw [E4.out], ho2, hB2⟩
          case measure => simp [intOf]; omega
      · have hq : (nth zs k != i) = true := by simpa using he
        have hy := slotsTo_no he
        have Hy := Lib.hid hy
        clear hy he
        go_wp2
        go_roundw
        case rel => exact ⟨k + 1, by omega, by simp, by rw [Hy.out], by rw [Hy.out], by rw [Hy.out]; exact ho, hB⟩
        case measure => simp [intOf]; omega
    · obtain rfl : k = zs.length := by omega
      have hsame : slotsTo zs i zs.length = slotsL zs i := rfl
      rw [hsame] at ho hF hL hdb ⊢
      clear hlen hsame
      by_cases h0 : (slotsL zs i).length = 0
      · have hw : waitsL zs i = [] := if_pos h0
        have Hw := Lib.hid hw
        have e0 : stF zs i (slotsL zs i).length = -1 := if_pos h0
        rw [e0]
        have ho' := ho
        rw [h0] at ho'
        clear hw h0 e0 ho
        go_wp2
        go_ret
        exact ⟨_, rfl, by rw [Hw.out]; exact ho', hB⟩
      · have hw : waitsL zs i = diffs zs i (slotsL zs i).length ++ [(zs.length : Int) - (slotN zs i ((slotsL zs i).length - 1) : Int) + (slotN zs i 0 : Int)] := by
          unfold waitsL; rw [if_neg h0]; congr 2; omega
        have Hw := Lib.hid hw
        have e0 : stF zs i (slotsL zs i).length = (slotN zs i 0 : Int) := if_neg h0
        have e1 : stL zs i (slotsL zs i).length = (slotN zs i ((slotsL zs i).length - 1) : Int) := if_neg h0
        rw [e0] at hF
        rw [e1] at hL
        rw [e0, e1]
        clear hw h0 e0 e1
        go_wp2_with (at_builtin; refine wpList_append_own _ rfl _ _ 22 rfl w.heap.size 2 i0 (.int .i64 0) 1 8 Try.underlying22 hi hz0 hz1 hz2 rfl (by decide) _ _ _ rfl (World.ownsRow.alloc ho _) ⟨wr.heap.size, 0, none⟩ 1 1 [.int .i64 ((zs.length : Int) - (slotN zs i ((slotsL zs i).length - 1) : Int) + (slotN zs i 0 : Int))] rfl rfl (Go.cell_one_new _ _ _) (by simp [Value.oneCell']) (by unfold maxLen; omega) (by omega) (by simp; omega) ?_)
        intro v' w1 hown' hgrow _
        have ho2 := ownI_snoc hown'
        rw [← Hw.out] at ho2
        have hB2 : Below w.heap.size w w1 := (hB.alloc hsw _).grown hgrow (by simp; omega) (fun j e => (ho.blk j e).1)
        clear hown' hgrow
        go_wp2
        go_ret
        exact ⟨_, rfl, ho2, hB2⟩

/-! ### greatest waits -/
def maxTo (l : List Int) : Int := l.foldl max 0
theorem maxTo_snoc (l : List Int) (x : Int) : maxTo (l ++ [x]) = max (maxTo l) x := by simp [maxTo]
theorem maxTo_ge (l : List Int) : 0 ≤ maxTo l ∧ ∀ x ∈ l, x ≤ maxTo l := by
  suffices h : ∀ (l : List Int) (a : Int), a ≤ l.foldl max a ∧ ∀ x ∈ l, x ≤ l.foldl max a from h l 0
  intro l
  induction l with
  | nil => intro a; simp
  | cons y l ih =>
    intro a
    have h := ih (max a y)
    simp only [List.foldl_cons]
    refine ⟨by omega, fun x hx => ?_⟩
    rcases List.mem_cons.1 hx with rfl | hx
    · omega
    · exact h.2 x hx
def greatW (zs : List Int) (i : Int) : Int := maxTo (waitsL zs i)

set_option maxRecDepth 100000 in
set_option maxHeartbeats 8000000 in
theorem l01Greatest_c (sv : Value) (zs : List Int) (i : Int) (w : World) (hI : Ints w.heap.size w sv zs) (hl : zs.length ≤ 1048576) :
    Calls Try.prog 77 #[sv, .int .i64 i] w fun e w' => e = .returned (.int .i64 (greatW zs i)) ∧ Below w.heap.size w w' := by
  obtain ⟨a, cap, rfl⟩ := hI.shape
  go_enter Try.func77, Try.ntmps77
  go_wp2_with fail
  refine (l01Waits_c _ zs i _ hI hl).mono ?_
  rintro e w1 ⟨v, rfl, ho, hB⟩
  have hJ := ho.ints
  have hwl : (waitsL zs i).length ≤ 1048577 := by
    unfold waitsL
    have := slotsL_length zs i
    split
    · simp
    · simp [diffs_length]; omega
  obtain ⟨a1, c1, hv⟩ := hJ.shape
  simp only [id] at hv ⊢
  subst hv
  go_wp2
  go_loop [7, 6] (fun i' m => ∃ k : Nat, k ≤ (waitsL zs i).length ∧ i' = .int .i64 k ∧ m = .int .i64 (maxTo ((waitsL zs i).take k))) (fun i' _ => (waitsL zs i).length - (intOf i').toNat)
  case atStart => exact ⟨0, Nat.zero_le _, rfl, rfl⟩
  case round =>
    obtain ⟨k, hk, rfl, rfl⟩ := hrel
    by_cases hlt : k < (waitsL zs i).length
    · obtain ⟨b, off, rfl, hb, hc⟩ := hJ.at_ hlt
      have hcx := hc k hlt
      have hs := maxTo_snoc ((waitsL zs i).take k) (nth (waitsL zs i) k)
      rw [← take_snoc hlt] at hs
      have Hs := Lib.hid hs
      clear hc hs
      go_wp2
      exact ⟨⟨k + 1, by omega, by simp, by rw [Hs.out]; congr 1; omega⟩, by simp [intOf]; omega⟩
    · obtain rfl : k = (waitsL zs i).length := by omega
      go_wp2
      go_ret
      exact ⟨ret_int rfl, hB⟩

end Go.Proofs.Ytbhpflhopajbfaa
