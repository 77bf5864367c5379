/-
  The program's greatestWait; WaitsOf of both.
  Conditions: lists of at most 1048576 elements.
-/
import Derived.Test.YtbhpflhopajbfaaWaitsS
namespace Go.Proofs.Ytbhpflhopajbfaa
open Go.RowKit Go.Shelf
attribute [local go_sem] Oper.semAt_some

theorem waitsL_length (zs : List Int) (i : Int) : (waitsL zs i).length = (slotsL zs i).length := by
  unfold waitsL; split
  · simp; omega
  · simp [diffs_length]; omega
theorem waitsL_le (zs : List Int) (i : Int) : (waitsL zs i).length ≤ zs.length := by rw [waitsL_length]; exact slotsL_length zs i
theorem maxTo_vals {zs : List Int} (pre : List (Fin zs.length)) (x : Fin zs.length) : maxTo (vals zs (pre ++ [x])) = max (maxTo (vals zs pre)) (nth zs x.1) := by rw [vals_snoc, maxTo_snoc]

set_option maxRecDepth 100000 in
set_option maxHeartbeats 8000000 in
theorem greatestWait_c (sv : Value) (zs : List Int) (i : Int) (w : World) (hI : Ints w.heap.size w sv zs) (hl : zs.length ≤ 1048576) :
    Calls Try.prog 142 #[sv, .int .i64 i] w fun e w' => e = .returned (.int .i64 (greatW zs i)) ∧ Below w.heap.size w w' := by
  obtain ⟨a, cap, rfl⟩ := hI.shape
  have hwl := waitsL_le zs i
  refine (callsIn_wide (n := 9)).1 ?_
  refine callsIn_of_wp_marks Try.func142 rfl trivial ?_ rfl
  simp only [Try.ntmps142, List.size_toArray, List.length_cons, List.length_nil, Nat.reduceAdd, Nat.reduceSub, Array.replicate_succ, Array.replicate_zero, List.push_toArray, List.append_toArray, List.nil_append, List.cons_append]
  gi_wp2_with fail
  have hB0 : Below w.heap.size w (w.alloc (.cells #[.int .i64 0] 2)) := (Below.refl _ w).alloc (Nat.le_refl _) _
  refine ⟨trivial, (callsIn_wide.2 (waitsOfTask_c _ zs i _ (hI.later hB0) hl)).mono ?_⟩
  rintro e w1 ⟨v, rfl, ho, hB⟩
  have b1 : Boxed w1 w.heap.size 2 (.int .i64 0) := boxed_later (Boxed.new _ _ _) hB
  have hB1 := hB0.trans (hB.mono (by simp))
  obtain ⟨a1, c1, hv⟩ := ho.ints.shape
  simp only [id] at hv ⊢
  subst hv
  have s1 := b1.lt
  clear hB0 hB
  gi_wp2_with (first | (gi_at_call 93; refine (callsIn_wide.2 (numbered_c _ _ _ _)).mono ?_; rintro e w' ⟨rfl, rfl⟩) | (refine ⟨trivial, ?_⟩; gi_at_call 93; refine (callsIn_wide.2 (numbered_c _ _ _ _)).mono ?_; rintro e w' ⟨rfl, rfl⟩))
  obtain ⟨W0, hW0⟩ : ∃ W0, w1.alloc (.cells #[.slice a1 (waitsL zs i).length c1] 22) = W0 := ⟨_, rfl⟩
  have hB2 : Below w1.heap.size w1 W0 := by rw [← hW0]; exact (Below.refl _ w1).alloc (Nat.le_refl _) _
  have hsz : w1.heap.size + 1 ≤ W0.heap.size := by rw [← hW0]; simp
  have bG : Boxed W0 w.heap.size 2 (.int .i64 0) := boxed_later b1 hB2
  have bN : Boxed W0 w1.heap.size 22 (.slice a1 (waitsL zs i).length c1) := by rw [← hW0]; exact Boxed.new _ _ _
  have hB3 : Below w.heap.size w W0 := hB1.trans (hB2.mono (by omega))
  have ho2 := (ho.base (B' := w.heap.size + 1) (by simp)).below hB2
  rw [hW0]
  clear hW0 hB1 b1 hB2 ho
  refine range_outA rfl (by omega) rfl trivial (enters_of Try.func151 (by kernel_rfl) rfl) (numbered_own Fence.wide 8 trivial rfl (by omega) _ (w.heap.size + 1) _ (waitsL zs i) (by omega) W0 bN ho2) (fun b hb => (ho2.blk b hb).2) (fun _ => rfl)
    (fun k W => Boxed W w.heap.size 2 (.int .i64 (maxTo ((waitsL zs i).take k))) ∧ Below w.heap.size w W)
    (fun _ _ _ => False)
    (OwnFrom.and (Own.from (boxed_own _ _ _) _) (ownFrom_below (Nat.le_refl _) (by omega)))
    (fun _ _ _ _ _ hs _ _ => hs)
    ⟨bG, hB3⟩ ?a1 ?assign ?body ?done ?stop
  case assign =>
    intro l k W K hk hK
    simp only [numAt]
    gi_wp2
    exact hK
  case body =>
    rintro l k W hl hr ⟨bG1, hB⟩ hlt hs
    have hband : ∀ b, Band (fun b => (Value.slice a1 (waitsL zs i).length c1).ownBlock = some b) W0.heap.size (W0.heap.size + 2 + 0) b → ¬ (b = w.heap.size) := fun b hb => by
      rcases hb with hb | hb
      · have := (ho2.blk b hb).1; omega
      · omega
    have Hband := Lib.hid hband
    have cG := bG1.cell
    have fG := bG1.frozen
    have hm := maxTo_snoc ((waitsL zs i).take k) (nth (waitsL zs i) k)
    rw [← take_snoc hlt] at hm
    have Hm := Lib.hid hm
    clear hm hband ho2
    gi_wp2
    · exact ⟨Kps.setCell _ _ _ _ (fun h => Hband.out _ h rfl), by rw [Hm.out, Int.max_eq_right (by omega)]; exact bG1.set _, hB.setCell (p := ⟨w.heap.size, 0, none⟩) (by simp) _⟩
    · exact ⟨Kps.setCell _ _ _ _ (fun h => Hband.out _ h rfl), by rw [Hm.out, Int.max_eq_left (by omega)]; exact bG1.set _, hB.setCell (p := ⟨w.heap.size, 0, none⟩) (by simp) _⟩
  case done =>
    rintro D W hD ⟨bG1, hB⟩ hK
    have cG := bG1.cell
    rw [List.take_length] at cG
    gi_wp2
    exact retM1 hK ⟨_, by simp [results, Try.f142, go_sem]; rfl, ret_int rfl, below_shut hB (by omega)⟩
  case stop =>
    rintro D c k W hD hk h
    exact h.elim

/-! ### WaitsOf -/
def waitsC (ts : List Int) (i : Int) : Int := if turnsOk ts 8 && inB i 0 7 then 0 else 2
def waitsR (ts : List Int) (i : Int) : List Int := if turnsOk ts 8 && inB i 0 7 then waitsL ts i else []
theorem waitsR_len (ts : List Int) (i : Int) : (waitsR ts i).length * 8 ≤ 140737488351232 := by
  unfold waitsR; split
  · rename_i h
    simp at h
    have := turnsOk_len h.1
    have := waitsL_le ts i
    omega
  · simp

end Go.Proofs.Ytbhpflhopajbfaa
