/-
  AreClasses of the program.
  Conditions: lists of at most 1048576 elements.
-/
import Derived.Test.YtbhpflhopajbfaaClA
namespace Go.Proofs.Ytbhpflhopajbfaa
open Go.RowKit Go.Shelf
attribute [local go_sem] Oper.semAt_some

set_option maxRecDepth 100000 in
set_option maxHeartbeats 4000000 in
theorem i_AreClasses (c0 : Value) (cs : List (Int × Int)) (w : World) (hI : Cls w.heap.size w c0 cs) (_hN : C64 cs) (hm : cs.length ≤ 1048576) :
    Calls Try.prog 84 #[c0] w fun e w' => e = .returned (.bool (clsOk cs)) ∧ Below w.heap.size w w' := by
  obtain ⟨a, cap, rfl⟩ := hI.shape
  by_cases h1 : cs.length < 1
  · have Hf := Lib.hid (show clsOk cs = false by unfold clsOk; rw [show inB (cs.length : Int) 1 8 = false from inB_false.2 (by omega)]; simp)
    go_enter Try.func84, Try.ntmps84
    go_wp2
    go_ret
    exact ⟨ret_bool Hf.out.symm, Below.refl _ _⟩
  by_cases h8 : 8 < cs.length
  · have Hf := Lib.hid (show clsOk cs = false by unfold clsOk; rw [show inB (cs.length : Int) 1 8 = false from inB_false.2 (by omega)]; simp)
    go_enter Try.func84, Try.ntmps84
    go_wp2
    go_ret
    exact ⟨ret_bool Hf.out.symm, Below.refl _ _⟩
  go_enter Try.func84, Try.ntmps84
  go_wp2
  go_loopw [15] (fun i wr => ∃ k : Nat, k ≤ cs.length ∧ i = .int .i64 k ∧ (∀ j, j < k → clOk (rst cs j, gp cs j) = true) ∧ Below w.heap.size w wr) (fun i _ => cs.length - (intOf i).toNat)
  case atStart => exact ⟨0, Nat.zero_le _, rfl, by simp, Below.refl _ _⟩
  case round =>
    obtain ⟨k, hk, rfl, hall, hB⟩ := hrel
    have Hall := Lib.hid hall
    clear hall
    by_cases hlt : k < cs.length
    · obtain ⟨b, off, rfl, hb, hc⟩ := (hI.below hB).at_ hlt
      obtain ⟨e1, e2⟩ := hc k hlt
      have hs := hB.size
      have hB1 : Below w.heap.size w (wr.alloc (.cells #[.int .i64 (rst cs k), .int .i64 (gp cs k)] 106)) := hB.alloc hs _
      clear hc
      cases h : clOk (rst cs k, gp cs k)
      · have H := Lib.hid h
        clear h
        go_wp2_with fail
        refine (isClass_c _ _ _).mono ?_
        rintro e w1 ⟨he, hb1⟩
        rw [H.out] at he
        subst he
        go_wp2
        go_ret
        exact ⟨ret_bool (clsOk_no hlt H.out).symm, hB1.trans (hb1.mono (by simp; omega))⟩
      · have H := Lib.hid h
        clear h
        go_wp2_with fail
        refine (isClass_c _ _ _).mono ?_
        rintro e w1 ⟨he, hb1⟩
        rw [H.out] at he
        subst he
        go_wp2
        go_roundw
        case rel => exact ⟨k + 1, by omega, by simp, fun j hj => by by_cases e : j = k; exact e ▸ H.out; exact Hall.out j (by omega), hB1.trans (hb1.mono (by simp; omega))⟩
        case measure => simp [intOf]; omega
    · obtain rfl : k = cs.length := by omega
      have Hf := Lib.hid (show clsOk cs = true by rw [clsOk_all Hall.out, inB_true]; omega)
      go_wp2
      go_ret
      exact ⟨ret_bool Hf.out.symm, hB⟩

end Go.Proofs.Ytbhpflhopajbfaa
