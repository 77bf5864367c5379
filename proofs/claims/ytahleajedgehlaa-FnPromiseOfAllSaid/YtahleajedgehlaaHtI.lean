/-
  takeSlots of the program: slices.Index, the slots that a task takes.
  Conditions: turns of at most 40 slots, gaps of 1 to 40.
-/
import Derived.Test.YtahleajedgehlaaHtM
import Derived.Test.YtahleajedgehlaaDoor
namespace Go.Proofs.Ytahleajedgehlaa
open Go.RowKit Go.Shelf
attribute [local go_sem] Oper.semAt_some

theorem demand_y' (b : Bool) (c : Int) (w : World) (hb : b = true) : Calls Try.prog 35 #[.bool b, .int .i64 c] w fun e w' => e = .returned (.tuple #[]) ∧ w = w' := by subst hb; exact demand_yes c w

theorem demand_n' (b : Bool) (c : Int) (w : World) (hb : b = false) : Calls Try.prog 35 #[.bool b, .int .i64 c] w fun e w' => e = .panicked (refused c) ∧ w = w' := by subst hb; exact demand_no c w

/-- where the least free slot lies, -1 if there is none -/
def freeI (l : List Int) : Int := if freeF l < l.length then (freeF l : Int) else -1

set_option maxRecDepth 100000 in
set_option maxHeartbeats 8000000 in
theorem index_c (sv : Value) (l : List Int) (w : World) (hI : Ints w.heap.size w sv l) (hl : l.length ≤ 1048576) :
    Calls Try.prog 59 #[sv, .int .i64 (-1)] w fun e w' => e = .returned (.int .i64 (freeI l)) ∧ w = w' := by
  obtain ⟨a, cap, rfl⟩ := hI.shape
  go_enter Try.func59, Try.ntmps59
  go_wp2
  go_loop [8] (fun i => ∃ k : Nat, k ≤ l.length ∧ i = .int .i64 k ∧ ∀ m, m < k → nth l m ≠ -1) (fun i => l.length - (intOf i).toNat)
  case atStart => exact ⟨0, Nat.zero_le _, rfl, fun m h => by omega⟩
  case round =>
    obtain ⟨k, hk, rfl, hall⟩ := hrel
    have Hall := Lib.hid hall
    clear hall
    by_cases hlt : k < l.length
    · obtain ⟨b, off, rfl, hb, hc⟩ := hI.at_ hlt
      have hcx := hc k hlt
      obtain ⟨x, hx⟩ : ∃ x, nth l k = x := ⟨_, rfl⟩
      have Hx := Lib.hid hx
      rw [hx] at hcx
      clear hc hx
      by_cases he : x = -1
      · have hf := freeF_at hlt (by rw [Hx.out]; exact he) Hall.out
        have Hf := Lib.hid (show freeI l = (k : Int) by unfold freeI; rw [hf, if_pos hlt])
        subst he
        clear hf
        go_wp2
        go_ret
        exact ⟨ret_int Hf.out.symm, rfl⟩
      · have hbe : ((-1 : Int) == x) = false := by simp; omega
        go_wp2
        refine ⟨⟨k + 1, hlt, by simp, fun m hm => ?_⟩, by simp [intOf]; omega⟩
        rcases Nat.lt_succ_iff_lt_or_eq.mp hm with h | rfl
        · exact Hall.out m h
        · rw [Hx.out]; exact he
    · obtain rfl : k = l.length := by omega
      have Hf := Lib.hid (show freeI l = -1 by unfold freeI; rw [freeF_none Hall.out, if_neg (Nat.lt_irrefl _)])
      go_wp2
      go_ret
      exact ⟨ret_int Hf.out.symm, rfl⟩

set_option maxRecDepth 100000 in
set_option maxHeartbeats 8000000 in
theorem takeSlots_c (B g cap : Nat) (l : List Int) (i : Int) (gap : Nat) (w : World) (ho : OwnI B w (.slice (some ⟨g, 0, none⟩) l.length cap) l) (hl : l.length ≤ 40) (hg : 1 ≤ gap ∧ gap ≤ 40) :
    Calls Try.prog 49 #[.slice (some ⟨g, 0, none⟩) l.length cap, .int .i64 i, .int .i64 gap] w fun e w' =>
      (freeF l < l.length ∧ (∃ v, e = .returned v) ∧ OwnI B w' (.slice (some ⟨g, 0, none⟩) l.length cap) (takeL l i gap) ∧ w.grownBy w' (some g)) ∨ (¬ freeF l < l.length ∧ e = .panicked (refused 4) ∧ w' = w) := by
  by_cases hf : freeF l < l.length
  · have hfi : freeI l = (freeF l : Int) := by unfold freeI; rw [if_pos hf]
    have Hfi := Lib.hid hfi
    clear hfi
    go_enter Try.func49, Try.ntmps49
    go_wp2_with fail
    refine (index_c _ l _ ho.ints (by omega)).mono ?_
    rintro e w1 ⟨rfl, rfl⟩
    rw [Hfi.out]
    obtain ⟨s0, hs0⟩ : ∃ s0, freeF l = s0 := ⟨_, rfl⟩
    have Hs0 := Lib.hid hs0
    rw [hs0] at hf ⊢
    clear hs0
    go_wp2_with fail
    refine (demand_y' _ _ _ (by simp)).mono ?_
    rintro e w2 ⟨rfl, rfl⟩
    go_wp2
    go_loopw [7] (fun q wr => ∃ (s n : Nat) (cur : List Int), q = .int .i64 s ∧ s ≤ 100 ∧ OwnI B wr (.slice (some ⟨g, 0, none⟩) l.length cap) cur ∧ Hid (cur.length = l.length) ∧ Hid (takeL l i gap = putF n cur i gap s) ∧ l.length - s ≤ n ∧ w.grownBy wr (some g)) (fun q _ => l.length - (intOf q).toNat)
    case atStart => exact ⟨s0, l.length, l, rfl, by omega, ho, Lib.hid rfl, Lib.hid (by unfold takeL; rw [Hs0.out]), by omega, ⟨rfl, rfl, rfl, Nat.le_refl _, fun _ _ _ => rfl⟩⟩
    case round =>
      obtain ⟨s, n, cur, rfl, hs, hok, hcl, htk, hn, hgr⟩ := hrel
      by_cases hlt : s < l.length
      · have hc := hok.cellAt (j := s) (by have := hcl.out; omega)
        have hz := hok.frozen s
        have hst := hok.stored s i
        obtain ⟨n, rfl⟩ : ∃ n', n = n' + 1 := ⟨n - 1, by omega⟩
        have hst2 := putF_step (n := n) (i := i) (gap := gap) (l := cur) (s := s) (by have := hcl.out; omega)
        have Hst := Lib.hid hst
        have Hst2 := Lib.hid hst2
        clear hst hst2
        go_wp2
        refine ⟨⟨s + gap, n, cur.set s i, by simp, by omega, Hst.out.1, Lib.hid (by rw [List.length_set]; exact hcl.out), Lib.hid (by rw [htk.out]; exact Hst2.out), by omega, grownBy_tr hgr Hst.out.2⟩, by simp [intOf]; omega⟩
      · have hst2 := putF_stop (n := n) (i := i) (gap := gap) (l := cur) (s := s) (by have := hcl.out; omega)
        have Hst2 := Lib.hid hst2
        clear hst2
        go_wp2
        go_end0
        exact .inl ⟨by rw [Hs0.out]; exact hf, ⟨_, rfl⟩, by rw [htk.out, Hst2.out]; exact hok, hgr⟩
  · have hfi : freeI l = -1 := by unfold freeI; rw [if_neg hf]
    have Hfi := Lib.hid hfi
    clear hfi
    go_enter Try.func49, Try.ntmps49
    go_wp2_with fail
    refine (index_c _ l _ ho.ints (by omega)).mono ?_
    rintro e w1 ⟨rfl, rfl⟩
    rw [Hfi.out]
    go_wp2_with fail
    refine (demand_n' _ _ _ (by simp)).mono ?_
    rintro e w2 ⟨rfl, rfl⟩
    go_wp2
    exact ⟨rfl, .inr ⟨hf, rfl, rfl⟩⟩

end Go.Proofs.Ytahleajedgehlaa
