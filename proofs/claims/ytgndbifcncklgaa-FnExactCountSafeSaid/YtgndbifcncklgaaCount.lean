/-
  CountStates, of the program and of the model: the product of the gaps.
  Conditions: lists of at most 1048576 elements.
-/
import Derived.Test.YtgndbifcncklgaaLasting
import Derived.Test.YtgndbifcncklgaaServe
import Derived.Test.YtgndbifcncklgaaReg
namespace Go.Proofs.Ytgndbifcncklgaa
open Go.RowKit Go.Shelf
attribute [local go_sem] Oper.semAt_some

theorem pos_of {zs : List Int} (h : tasksOk zs = true) : Pos zs := fun _ hi => (tasksOk_nth h hi).1
theorem cntP_bd {zs : List Int} (h : tasksOk zs = true) {k : Nat} (hk : k ≤ zs.length) : 1 ≤ cntP zs k ∧ cntP zs k ≤ 40 ^ k := by
  refine ⟨cntP_pos (pos_of h) hk, ?_⟩
  induction k with
  | zero => simp [cntP]
  | succ k ih =>
    have h1 := ih (by omega)
    have h2 := (tasksOk_nth h (k := k) (by omega))
    have h3 := cntP_pos (pos_of h) (k := k) (by omega)
    have := Int.mul_le_mul h1 h2.2 (by omega) (Int.pow_nonneg (by omega))
    simpa [cntP, Int.pow_succ] using this
theorem cntP_top {zs : List Int} (h : tasksOk zs = true) {k : Nat} (hk : k ≤ zs.length) : 1 ≤ cntP zs k ∧ cntP zs k ≤ 6553600000000 := by
  obtain ⟨h1, h2⟩ := cntP_bd h hk
  refine ⟨h1, Int.le_trans h2 ?_⟩
  have h8 := (tasksOk_len h).2
  have hk8 : k ≤ 8 := by omega
  have : k = 0 ∨ k = 1 ∨ k = 2 ∨ k = 3 ∨ k = 4 ∨ k = 5 ∨ k = 6 ∨ k = 7 ∨ k = 8 := by omega
  rcases this with h | h | h | h | h | h | h | h | h <;> subst h <;> decide
theorem cntP_wrap {zs : List Int} (h : tasksOk zs = true) {k : Nat} (hk : k < zs.length) : IntKind.i64.wrap (cntP zs k * nth zs k) = cntP zs (k + 1) := by
  have h1 := cntP_top h (k := k + 1) (by omega)
  show IntKind.i64.wrap (cntP zs (k + 1)) = _
  rw [IntKind.wrap_i64]; omega
def countC (zs : List Int) : Int := if tasksOk zs then 0 else 1
def countR (zs : List Int) : Int := if tasksOk zs then cntL zs else 0
theorem ret_i2 {a a' b b' : Int} (h : a = a') (k : b = b') : Ending.returned (.tuple #[.int .i64 a, .int .i64 b]) = .returned (.tuple #[.int .i64 a', .int .i64 b']) := by rw [h, k]

set_option maxRecDepth 100000 in
set_option maxHeartbeats 8000000 in
theorem i_CountStates (c0 : Value) (zs : List Int) (w : World) (hI : Ints w.heap.size w c0 zs) (_hN : I64s zs) (hm : zs.length ≤ 1048576) :
    Calls Try.prog 98 #[.agg #[c0]] w fun e w' => e = .returned (.tuple #[.int .i64 (countR zs), .int .i64 (countC zs)]) ∧ Below w.heap.size w w' := by
  obtain ⟨a, cap, rfl⟩ := hI.shape
  refine (callsIn_wide (n := 9)).1 ?_
  have hB0 : Below w.heap.size w (w.alloc (.cells #[.slice a zs.length cap] 32)) := (Below.refl _ w).alloc (Nat.le_refl _) _
  cases ht : tasksOk zs
  · have Hr := Lib.hid (show countR zs = 0 by unfold countR; rw [ht]; rfl)
    have Hc := Lib.hid (show countC zs = 1 by unfold countC; rw [ht]; rfl)
    have Ht := Lib.hid ht
    clear ht
    refine callsIn_of_wp_marks Try.func98 rfl trivial ?_ rfl
    simp only [Try.ntmps98, List.size_toArray, List.length_cons, List.length_nil, Nat.reduceAdd, Nat.reduceSub, Array.replicate_succ, Array.replicate_zero, List.push_toArray, List.append_toArray, List.nil_append, List.cons_append]
    gi_wp2_with fail
    refine ⟨trivial, (callsIn_wide.2 (isTasks_c _ zs _ (hI.later hB0) (by omega))).mono ?_⟩
    rintro e w1 ⟨he, hb⟩
    rw [Ht.out] at he
    subst he
    gi_wp2
    refine retM0 ⟨_, results_tmp2 rfl _ _ _, ?_⟩
    exact ⟨ret_i2 Hr.out.symm Hc.out.symm, hB0.trans (hb.mono (by simp))⟩
  · have Hr := Lib.hid (show countR zs = cntL zs by unfold countR; rw [ht]; rfl)
    have Hc := Lib.hid (show countC zs = 0 by unfold countC; rw [ht]; rfl)
    have Ht := Lib.hid ht
    have hw : ∀ k, k < zs.length → IntKind.i64.wrap (cntP zs k * nth zs k) = cntP zs (k + 1) := fun k hk => cntP_wrap ht hk
    have Hw := Lib.hid hw
    clear ht hw
    refine callsIn_of_wp_marks Try.func98 rfl trivial ?_ rfl
    simp only [Try.ntmps98, List.size_toArray, List.length_cons, List.length_nil, Nat.reduceAdd, Nat.reduceSub, Array.replicate_succ, Array.replicate_zero, List.push_toArray, List.append_toArray, List.nil_append, List.cons_append]
    gi_wp2_with fail
    refine ⟨trivial, (callsIn_wide.2 (isTasks_c _ zs _ (hI.later hB0) (by omega))).mono ?_⟩
    rintro e w1 ⟨he, hb⟩
    rw [Ht.out] at he
    subst he
    have b1 : Boxed w1 w.heap.size 32 (.slice a zs.length cap) := boxed_later (Boxed.new _ _ _) hb
    have k1 := b1.cell
    have hB1 := hB0.trans (hb.mono (by simp))
    have s1 := b1.lt
    clear hB0 hb
    gi_wp2_with (first | (gi_at_call 87; refine (callsIn_wide.2 (numbered_c _ _ _ _)).mono ?_; rintro e w' ⟨rfl, rfl⟩) | (refine ⟨trivial, ?_⟩; gi_at_call 87; refine (callsIn_wide.2 (numbered_c _ _ _ _)).mono ?_; rintro e w' ⟨rfl, rfl⟩))
    obtain ⟨W0, hW2⟩ : ∃ W0, ((w1.alloc (.cells #[.int .i64 1] 2)).alloc (.cells #[.slice a zs.length cap] 24)) = W0 := ⟨_, rfl⟩
    have hB2 : Below w1.heap.size w1 W0 := by rw [← hW2]; exact (((Below.refl _ w1).alloc (Nat.le_refl _) _).alloc (by simp; try omega) _)
    have hs2 : w1.heap.size + 2 ≤ W0.heap.size := by rw [← hW2]; simp
    have bC : Boxed W0 (w1.heap.size) 2 (.int .i64 1) := by rw [← hW2]; repeat first | (refine boxed_at ?_; (simp; done)) | refine Boxed.alloc ?_ _
    have bN : Boxed W0 (w1.heap.size + 1) 24 (.slice a zs.length cap) := by rw [← hW2]; repeat first | (refine boxed_at ?_; (simp; done)) | refine Boxed.alloc ?_ _
    rw [hW2]
    clear hW2
    have hB3 := hB1.trans (hB2.mono hB1.size)
    refine range_outA rfl (by omega) rfl trivial (enters_of Try.func124 (by kernel_rfl) rfl) (numbered_at Fence.wide 8 trivial rfl (by omega) _ w.heap.size _ zs (by omega) W0 bN (by omega) (hI.below hB3)) (fun b hb => by omega) (fun _ => rfl)
      (fun k W => Boxed W w1.heap.size 2 (.int .i64 (cntP zs k)) ∧ Below w.heap.size w W)
      (fun _ _ _ => False)
      (by repeat' (first | exact ownFrom_pure _ _ | exact Own.from (boxed_own _ _ _) _ | exact Own.from (ownI_Own _ _ _) _ | exact Own.from (ownB_Own _ _ _) _ | exact ownFrom_below (Nat.le_refl _) (by omega) | exact ownFrom_kps (by omega) | apply OwnFrom.and))
      (fun _ _ _ _ _ hs _ _ => hs)
      ⟨bC, hB3⟩ ?a1 ?assign ?body ?done ?stop
    case assign =>
      intro l k W K hk hK
      simp only [numAt]
      gi_wp2
      exact hK
    case body =>
      rintro l k W hl hr ⟨bC1, hB⟩ hlt hs
      have hnb : ¬ Band (fun b => b < w.heap.size) W0.heap.size (W0.heap.size + 2 + 0) w1.heap.size := not_band (by omega) (by omega)
      have cC := bC1.cell
      have fC := bC1.frozen
      have he := Hw.out k hlt
      gi_wp2
      exact ⟨Kps.setCell _ _ _ _ hnb, by rw [← he]; exact bC1.set _, hB.setCell (p := ⟨w1.heap.size, 0, none⟩) (by show w.heap.size ≤ w1.heap.size; omega) _⟩
    case done =>
      rintro D W hD ⟨bC1, hB⟩ hK
      have cC := bC1.cell
      gi_wp2
      refine retM1 hK ⟨_, results_tmp2 rfl _ _ _, ?_⟩
      exact ⟨ret_i2 Hr.out.symm Hc.out.symm, below_shut hB (by omega)⟩
    case stop =>
      rintro D c k W hD hk h
      exact h.elim

end Go.Proofs.Ytgndbifcncklgaa
