/-
  AreClasses of the program; who meets whom, in both; who is apart, in both.
  Conditions: lists of at most 1048576 elements.
-/
import Derived.Test.YtckkhgpciglbmaaClA
namespace Go.Proofs.Ytckkhgpciglbmaa
open Go.RowKit Go.Shelf
attribute [local go_sem] Oper.semAt_some

set_option maxRecDepth 100000 in
set_option maxHeartbeats 4000000 in
theorem i_AreClasses (c0 : Value) (cs : List (Int × Int)) (w : World) (hI : Cls w.heap.size w c0 cs) (_hN : C64 cs) (hm : cs.length ≤ 1048576) :
    Calls Try.prog 48 #[c0] w fun e w' => e = .returned (.bool (clsOk cs)) ∧ Below w.heap.size w w' := by
  obtain ⟨a, cap, rfl⟩ := hI.shape
  by_cases h1 : cs.length < 1
  · have Hf := Lib.hid (show clsOk cs = false by unfold clsOk; rw [show inB (cs.length : Int) 1 8 = false from inB_false.2 (by omega)]; simp)
    go_enter Try.func48, Try.ntmps48
    go_wp2
    go_ret
    exact ⟨ret_bool Hf.out.symm, Below.refl _ _⟩
  by_cases h8 : 8 < cs.length
  · have Hf := Lib.hid (show clsOk cs = false by unfold clsOk; rw [show inB (cs.length : Int) 1 8 = false from inB_false.2 (by omega)]; simp)
    go_enter Try.func48, Try.ntmps48
    go_wp2
    go_ret
    exact ⟨ret_bool Hf.out.symm, Below.refl _ _⟩
  go_enter Try.func48, Try.ntmps48
  go_wp2
  go_loopw [15] (fun i wr => ∃ k : Nat, k ≤ cs.length ∧ i = .int .i64 k ∧ (∀ j, j < k → clOk (rst cs j, gp cs j) = true) ∧ Below w.heap.size w wr) (fun i _ => cs.length - (intOf i).toNat)
  case atStart => exact ⟨0, Nat.zero_le _, rfl, by simp, Below.refl _ _⟩
  case round =>
    obtain ⟨k, hk, rfl, hall, hB⟩ := hrel
    have Hall := Lib.hid hall
    clear hall
    by_cases hlt : k < cs.length
    · obtain ⟨b, off, rfl, hb, hc⟩ := (hI.below hB).at_ hlt
      obtain ⟨e1, e2⟩ := hc k hlt
      have hs := hB.size
      have hB1 : Below w.heap.size w (wr.alloc (.cells #[.int .i64 (rst cs k), .int .i64 (gp cs k)] 87)) := hB.alloc hs _
      clear hc
      cases h : clOk (rst cs k, gp cs k)
      · have H := Lib.hid h
        clear h
        go_wp2_with fail
        refine (isClass_c _ _ _).mono ?_
        rintro e w1 ⟨he, hb1⟩
        rw [H.out] at he
        subst he
        go_wp2
        go_ret
        exact ⟨ret_bool (clsOk_no hlt H.out).symm, hB1.trans (hb1.mono (by simp; omega))⟩
      · have H := Lib.hid h
        clear h
        go_wp2_with fail
        refine (isClass_c _ _ _).mono ?_
        rintro e w1 ⟨he, hb1⟩
        rw [H.out] at he
        subst he
        go_wp2
        go_roundw
        case rel => exact ⟨k + 1, by omega, by simp, fun j hj => by by_cases e : j = k; exact e ▸ H.out; exact Hall.out j (by omega), hB1.trans (hb1.mono (by simp; omega))⟩
        case measure => simp [intOf]; omega
    · obtain rfl : k = cs.length := by omega
      have Hf := Lib.hid (show clsOk cs = true by rw [clsOk_all Hall.out, inB_true]; omega)
      go_wp2
      go_ret
      exact ⟨ret_bool Hf.out.symm, hB⟩

/-! ### meeting -/
def meet2 (x y x' y' : Int) : Bool := decide ((x - x').tmod ((Nat.gcd y.toNat y'.toNat : Nat) : Int) = 0)
theorem meet2_at (cs : List (Int × Int)) (i k : Nat) : meet2 (rst cs i) (gp cs i) (rst cs k) (gp cs k) = meets cs i k := rfl

set_option maxRecDepth 100000 in
set_option maxHeartbeats 4000000 in
theorem l05Meet_c (x x' : Int) (y y' : Nat) (w : World) (hx : -1000 ≤ x ∧ x ≤ 1000) (hx' : -1000 ≤ x' ∧ x' ≤ 1000) (hy : 1 ≤ y ∧ y ≤ 1000) (hy' : y' ≤ 1000) :
    Calls Try.prog 147 #[.agg #[.int .i64 x, .int .i64 y], .agg #[.int .i64 x', .int .i64 y']] w fun e w' => e = .returned (.bool (meet2 x y x' y')) ∧ Below w.heap.size w w' := by
  have hg : Nat.gcd y y' ≤ y := Nat.le_of_dvd (by omega) (Nat.gcd_dvd_left _ _)
  have hg0 : 0 < Nat.gcd y y' := Nat.gcd_pos_of_pos_left _ (by omega)
  have Hm := Lib.hid (show meet2 x y x' y' = decide ((x - x').tmod ((Nat.gcd y y' : Nat) : Int) = 0) from rfl)
  have hz : ((Nat.gcd y y' : Nat) : Int) ≠ 0 := by omega
  have ht : -1000 ≤ ((x - x').tmod ((Nat.gcd y y' : Nat) : Int)) ∧ ((x - x').tmod ((Nat.gcd y y' : Nat) : Int)) ≤ 1000 := by
    have h1 := Int.tmod_lt_of_pos (x - x') (show (0 : Int) < ((Nat.gcd y y' : Nat) : Int) by omega)
    have h2 := Int.lt_tmod_of_pos (x - x') (show (0 : Int) < ((Nat.gcd y y' : Nat) : Int) by omega)
    omega
  obtain ⟨r, hr⟩ : ∃ r, (x - x').tmod ((Nat.gcd y y' : Nat) : Int) = r := ⟨_, rfl⟩
  obtain ⟨g, hgg⟩ : ∃ g, Nat.gcd y y' = g := ⟨_, rfl⟩
  have HG := Lib.hid hgg
  rw [hgg] at hg hg0 Hm hz ht hr
  rw [hr] at ht Hm
  clear hgg
  go_enter Try.func147, Try.ntmps147
  go_wp2
  sorry

end Go.Proofs.Ytckkhgpciglbmaa
