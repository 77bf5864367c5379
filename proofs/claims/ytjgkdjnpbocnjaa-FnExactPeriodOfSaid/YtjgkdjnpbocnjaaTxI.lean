/-
  TurnsText of the program.
  Conditions: lists of at most 1048576 elements.
-/
import Derived.Test.YtjgkdjnpbocnjaaBld
namespace Go.Proofs.Ytjgkdjnpbocnjaa
open Go.RowKit Go.Shelf
attribute [local go_sem] Oper.semAt_some

set_option maxRecDepth 100000 in
set_option maxHeartbeats 8000000 in
theorem textOfTurns_c (sv : Value) (ts : List Int) (w : World) (hI : Ints w.heap.size w sv ts) (hl : ts.length ≤ 1048576) (hb : ∀ k, k < ts.length → -1 ≤ nth ts k ∧ nth ts k < 8) :
    Calls Try.prog 39 #[sv] w fun e w' => e = .returned (.string (textL ts)) ∧ Below w.heap.size w w' := by
  obtain ⟨a, cap, rfl⟩ := hI.shape
  have Hb := Lib.hid hb
  clear hb
  refine (callsIn_wide (n := 9)).1 ?_
  refine callsIn_of_wp_marks Try.func39 rfl trivial ?_ rfl
  simp only [Try.ntmps39, List.size_toArray, List.length_cons, List.length_nil, Nat.reduceAdd, Nat.reduceSub, Array.replicate_succ, Array.replicate_zero, List.push_toArray, List.append_toArray, List.nil_append, List.cons_append]
  gi_wp2_with (first | (gi_at_call 67; refine (callsIn_wide.2 (numbered_c _ _ _ _)).mono ?_; rintro e w' ⟨rfl, rfl⟩) | (refine ⟨trivial, ?_⟩; gi_at_call 67; refine (callsIn_wide.2 (numbered_c _ _ _ _)).mono ?_; rintro e w' ⟨rfl, rfl⟩))
  obtain ⟨W0, hW0⟩ : ∃ W0, ((w.alloc (.cells #[.pointer none, .slice none 0 0] 100)).alloc (.cells #[.slice a ts.length cap] 22)) = W0 := ⟨_, rfl⟩
  have hB0 : Below w.heap.size w W0 := by rw [← hW0]; exact ((Below.refl _ w).alloc (Nat.le_refl _) _).alloc (by simp) _
  have hs0 : w.heap.size + 2 ≤ W0.heap.size := by rw [← hW0]; simp
  have bN : Boxed W0 (w.heap.size + 1) 22 (.slice a ts.length cap) := by rw [← hW0]; exact boxed_at (by simp)
  have hbd : W0.heap[w.heap.size]? = some (.cells #[.pointer none, .slice none 0 0] 100 (0, 0)) := by rw [← hW0]; exact (Below.heap_alloc _ _ _ (by simp)).trans (World.alloc_heap_new w _)
  rw [hW0]
  clear hW0
  have hBl0 : Bld (W0.heap.size + 2) w.heap.size (textB ts 0) W0 := ⟨.pointer none, .slice none 0 0, .inl rfl, hbd, by rfl, .inl ⟨rfl, rfl⟩⟩
  refine range_outA rfl (by omega) rfl trivial (enters_of Try.func90 (by kernel_rfl) rfl) (numbered_at Fence.wide 8 trivial rfl (by omega) _ w.heap.size _ ts (by omega) W0 bN (by omega) (hI.below hB0)) (fun b hb => by omega) (fun _ => rfl)
    (fun k W => Bld (W0.heap.size + 2) w.heap.size (textB ts k) W ∧ Below w.heap.size w W)
    (fun _ _ _ => False)
    (OwnFrom.and (Own.from (bld_Own _ _ _) _) (ownFrom_below (Nat.le_refl _) (by omega)))
    (fun _ _ _ _ _ hs _ _ => hs)
    ⟨hBl0, hB0⟩ ?a1 ?assign ?body ?done ?stop
  case assign =>
    intro l k W K hk hK
    simp only [numAt]
    gi_wp2
    exact hK
  case body =>
    rintro l k W hl2 hr ⟨hBl, hBW⟩ hlt hsW
    have hx := Hb.out k hlt
    have hbl := textB_length (ts := ts) (k := k) (by omega)
    have Hs := Lib.hid (textB_succ hlt)
    have hsz : (letT (nth ts k)).size = 1 := rfl
    gi_wp2_with fail
    refine ⟨trivial, (callsIn_wide.2 (letterOf_c _ _ hx.1 hx.2)).mono ?_⟩
    rintro e w1 ⟨rfl, rfl⟩
    gi_wp2_with fail
    refine ⟨trivial, (callsIn_wide.2 (writeStr_c _ _ _ _ _ hBl (by omega) (by omega) (by omega))).mono ?_⟩
    rintro e w2 ⟨⟨v, rfl⟩, hBl2, hb2, hk2⟩
    gi_wp2
    refine ⟨hk2.mono fun j hj => ?_, by rw [Hs.out]; exact hBl2, hBW.trans hb2⟩
    rcases hj with hj | hj
    · have : j < w.heap.size := hj
      omega
    · omega
  case done =>
    rintro D W hD ⟨⟨p, v, hp, hbk, hown⟩, hBW⟩ hK
    have hblen := textB_length (ts := ts) (k := ts.length) (Nat.le_refl _)
    have hown0 : W.ownsRow w.heap.size 5 1 v (Lib.byteCells (textB ts ts.length)).length (Lib.byteCells (textB ts ts.length)) := by
      rw [Lib.byteCells_length]
      obtain ⟨h1, h2⟩ := hown
      refine ⟨h1, ?_⟩
      rcases h2 with h0 | ⟨g, cp, cur, e, hg, r⟩
      · exact .inl h0
      · exact .inr ⟨g, cp, cur, e, by omega, r⟩
    have hne : v.ownBlock ≠ some w.heap.size := fun e => by have := (World.ownsRow.lt hown _ e).1; omega
    have hisb : Lib.IsBuilderF 100 5 w.heap.size w.heap.size (Lib.byteCells (textB ts ts.length)) W := by
      refine Lib.IsBuilderF.of ?_
      rcases hp with rfl | rfl
      · exact .inl ⟨Nat.le_refl _, v, hbk, hown0, hne⟩
      · exact .inr ⟨Nat.le_refl _, v, hbk, hown0, hne⟩
    have htx : (⟨(textB ts ts.length).toArray⟩ : ByteArray) = textL ts := by unfold textB textL; rw [List.take_length]
    gi_wp2_with fail
    refine ⟨trivial, (callsIn_wide.2 (Try.Builder_String_any_k _ _ _ _ hisb hBW.size)).mono ?_⟩
    rintro e w2 ⟨rfl, _, hb2, hok⟩
    have hK2 : w2.heap[D]? = some (.deferred (some [])) := hok D _ hK (by simp; omega) (by simp)
    gi_wp2
    refine retM1 hK2 ⟨_, results_tmp rfl _ _ _, ?_⟩
    exact ⟨by rw [← htx]; rfl, below_shut (hBW.trans hb2) (by omega)⟩
  case stop =>
    rintro D c k W hD hk h
    exact h.elim

end Go.Proofs.Ytjgkdjnpbocnjaa
