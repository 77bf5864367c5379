/-
  BestTurns of the model: the recursive search l10Best.
  Conditions: lists of at most 1048576 elements.
-/
import Derived.Maps.AppendAt
import Derived.Test.YtgndbifcncklgaaBtj
namespace Go.Proofs.Ytgndbifcncklgaa
open Go.RowKit Go.Shelf
attribute [local go_sem] Oper.semAt_some

def bstS : Bst → Int
  | none => -1
  | some x => (x.2 : Int)
def BestPost (B : Nat) (w : World) (o : Bst) (e : Ending) (w' : World) : Prop := ∃ u, e = .returned (.tuple #[u, .int .i64 (bstS o)]) ∧ OwnI B w' u (bstL o) ∧ Below w.heap.size w w'

set_option maxRecDepth 100000 in
set_option maxHeartbeats 16000000 in
theorem l10Best_leaf (ws zs : List Int) (n : Nat) (sv : Value) (g cp B : Nat) (w : World) (hW : Wgt ws 1) (hl3 : ws.length ≤ 3) (hn : 1 ≤ n ∧ n ≤ 8) (hz : zs.length = n) (hI : Ints w.heap.size w sv ws) (ho : OwnI B w (.slice (some ⟨g, 0, none⟩) zs.length cp) zs) :
    Calls Try.prog 77 #[sv, .slice (some ⟨g, 0, none⟩) zs.length cp, .int .i64 n] w (BestPost B w (leafB ws zs)) := by
  obtain ⟨a, cap, rfl⟩ := hI.shape
  have hW0 : Wgt ws 0 := ⟨hW.len, fun i hi => by have := hW.el i hi; omega, hW.sum⟩
  have hl := hW.len
  have HW := Lib.hid hW
  have HW0 := Lib.hid hW0
  have hzi : ((zs.length : Int) == (n : Int)) = true := by simp; omega
  have hT := ho.ints
  have hz1 : 1 ≤ zs.length ∧ zs.length ≤ 8 := by omega
  have Hz := Lib.hid hz
  clear hW hW0 hz
  go_enter Try.func77, Try.ntmps77
  go_wp2
  go_loop [8] (fun i => ∃ k : Nat, k ≤ ws.length ∧ i = .int .i64 k ∧ ∀ j : Nat, j < k → zs.contains (j : Int) = true) (fun i => ws.length - (intOf i).toNat)
  case atStart => exact ⟨0, Nat.zero_le _, rfl, by simp⟩
  case round =>
    obtain ⟨k, hk, rfl, hall⟩ := hrel
    have Hall := Lib.hid hall
    clear hall
    by_cases hlt : k < ws.length
    · have hneg := ix_zero (ts := zs) (i := (k : Int))
      have hbd := ixI_bd (shiftL zs 0) (k : Int)
      rw [shiftL_length (Nat.zero_le _)] at hbd
      cases hck : zs.contains (k : Int)
      · have hlz : ixI (shiftL zs 0) (k : Int) < 0 := by rw [hck] at hneg; simpa using hneg
        have Hno := Lib.hid (show leafB ws zs = none by
          have hh : hasAll zs (twL ws) = false := by
            cases hh : hasAll zs (twL ws)
            · rfl
            · have h1 := HW.out.el k hlt
              rw [has_tw.1 hh k hlt (by omega)] at hck; cases hck
          unfold leafB; rw [hh]; rfl)
        clear hck hneg
        obtain ⟨z, hzz⟩ : ∃ z, ixI (shiftL zs 0) (k : Int) = z := ⟨_, rfl⟩
        have Hzz := Lib.hid hzz
        rw [hzz] at hlz hbd
        clear hzz
        go_wp2_with fail
        refine (l10Wait_c _ zs (k : Int) 0 _ hT (by omega) (by omega) (by omega)).mono ?_
        rintro e w' ⟨he, rfl⟩
        rw [Hzz.out] at he
        subst he
        go_wp2
        go_ret2
        exact ⟨_, by rw [Hno.out]; rfl, by rw [Hno.out]; exact ownI_nil _ _, Below.refl _ _⟩
      · have hlz : ¬ ixI (shiftL zs 0) (k : Int) < 0 := by rw [hck] at hneg; simpa using hneg
        have Hck := Lib.hid hck
        clear hck hneg
        obtain ⟨z, hzz⟩ : ∃ z, ixI (shiftL zs 0) (k : Int) = z := ⟨_, rfl⟩
        have Hzz := Lib.hid hzz
        rw [hzz] at hlz hbd
        clear hzz
        go_wp2_with fail
        refine (l10Wait_c _ zs (k : Int) 0 _ hT (by omega) (by omega) (by omega)).mono ?_
        rintro e w' ⟨he, rfl⟩
        rw [Hzz.out] at he
        subst he
        go_wp2
        go_round
        case rel => exact ⟨k + 1, by omega, by simp, fun j hj => by by_cases e : j = k; (subst e; exact Hck.out); exact Hall.out j (by omega)⟩
        case measure => simp [intOf]; omega
    · obtain rfl : k = ws.length := by omega
      have hh : hasAll zs (twL ws) = true := has_tw.2 fun i hi _ => Hall.out i hi
      have Hh := Lib.hid hh
      have Hlf := Lib.hid (show leafB ws zs = some (zs, suB (wS zs) (wQ ws) ws.length) by unfold leafB; rw [hh]; rfl)
      clear hh
      go_wp2_with fail
      refine (l10Mean_c _ _ zs ws _ hT hI (by omega) HW0.out Hh.out).mono ?_
      rintro e w1 ⟨rfl, hb⟩
      have ho1 := ho.below (Below.mono hb (by have := (ho.blk g rfl).2; exact Nat.le_refl _))
      go_wp2
      go_ret2
      exact ⟨_, by rw [Hlf.out]; rfl, by rw [Hlf.out]; exact ho1, hb⟩

end Go.Proofs.Ytgndbifcncklgaa
