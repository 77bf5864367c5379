/-
  slices.Sorted(slices.Values(list)) for lists of at most eight numbers: the library's insertion sort, the iterator, what it collects.
  Conditions: lists of 1 to 8 elements.
-/
import Derived.Test.YtbhpflhopajbfaaSrtM
import Derived.Test.YtbhpflhopajbfaaSortI
namespace Go.Proofs.Ytbhpflhopajbfaa
open Go.RowKit Go.Shelf
attribute [local go_sem] Oper.semAt_some

/-! ### the iterator -/
def valAt (zs : List Int) (k : Nat) : Array Value := #[.int .i64 (nth zs k)]

/-- the first k numbers of a list -/
def preL (L : List Int) (k : Nat) : List Int := L.take k
theorem preL_succ {L : List Int} {k : Nat} (h : k < L.length) : preL L (k + 1) = preL L k ++ [nth L k] := take_snoc h
theorem preL_length {L : List Int} {k : Nat} (h : k ≤ L.length) : (preL L k).length = k := by simp [preL]; omega
theorem preL_all (L : List Int) : preL L L.length = L := by simp [preL]

set_option maxRecDepth 100000 in
set_option maxHeartbeats 8000000 in
theorem appendSeq_c (gf : Nat) (lb : Array Value) (L : List Int) (Keep : Nat → Prop) (c : Nat) (w : World) (eg : ∀ args w, (callFunc gf args).run Try.prog w = .ok (.enter gf args) w)
    (hseq : ∀ W, Below w.heap.size w W → SeqAt Fence.wide 8 Try.prog gf lb (valAt L) Keep c L.length W) (hKeep : ∀ b, Keep b → b < w.heap.size) (hl : L.length ≤ 1048576) :
    Calls Try.prog 171 #[.slice none 0 0, .func (.func gf) #[] lb] w (GivesI w L id) := by
  obtain ⟨i0, hi, hz0, hz1, hz2⟩ := info_parts Try.infoI2
  refine (callsIn_wide (n := 9)).1 ?_
  refine callsIn_of_wp_marks Try.func171 rfl trivial ?_ rfl
  simp only [Try.ntmps171, List.size_toArray, List.length_cons, List.length_nil, Nat.reduceAdd, Nat.reduceSub, Array.replicate_succ, Array.replicate_zero, List.push_toArray, List.append_toArray, List.nil_append, List.cons_append]
  gi_wp2_with fail
  obtain ⟨W0, hW0⟩ : ∃ W0, (w.alloc (.cells #[.slice none 0 0] 22)) = W0 := ⟨_, rfl⟩
  have hB0 : Below w.heap.size w W0 := by rw [← hW0]; exact ((Below.refl _ w).alloc (Nat.le_refl _) _)
  have hs0 : w.heap.size + 1 ≤ W0.heap.size := by rw [← hW0]; simp
  have bW : Boxed W0 (w.heap.size) 22 (.slice none 0 0) := by rw [← hW0]; repeat first | (refine boxed_at ?_; (simp; done)) | refine Boxed.alloc ?_ _
  rw [hW0]
  clear hW0
  have hsq := hseq W0 hB0
  obtain ⟨top, htop⟩ : ∃ top, W0.heap.size + 2 + c = top := ⟨_, rfl⟩
  have Htop := Lib.hid htop
  have htop1 : w.heap.size + 3 ≤ top := by omega
  have HK := Lib.hid hKeep
  clear hseq
  refine range_outA (Keep := Keep) (c := c) rfl (by omega) rfl trivial eg hsq (fun b hb => by have := hKeep b hb; omega) (fun _ => rfl)
    (fun k W => (∃ v, Boxed W w.heap.size 22 v ∧ OwnI top W v (preL L k)) ∧ Below w.heap.size w W ∧ (k = 0 ∨ top ≤ W.heap.size))
    (fun _ _ _ => False)
    (OwnFrom.and (Own.from (boxRow_Own _ _ _ _) _) (OwnFrom.and (ownFrom_below (Nat.le_refl _) (by omega)) (ownFrom_size _ _)))
    (fun _ _ _ _ _ hs _ _ => hs)
    ⟨⟨_, bW, ownI_nil _ _⟩, hB0, .inl rfl⟩ ?a1 ?assign ?body ?done ?stop
  case assign =>
    intro l k W K hk hK
    simp only [valAt]
    gi_wp2
    exact hK
  case body =>
    rintro l k W hl2 hr ⟨⟨v, bW1, ho1⟩, hB1, _⟩ hlt hs
    clear htop hKeep
    have hsW : top ≤ W.heap.size := by have := Htop.out; omega
    have hband : ∀ j, Band Keep W0.heap.size (W0.heap.size + 2 + c) j → ¬ (j = w.heap.size ∨ top ≤ j) := fun j hj => by
      have := Htop.out
      rcases hj with hj | hj
      · have := HK.out j hj; omega
      · omega
    have Hband := Lib.hid hband
    clear hband hs
    have cW := bW1.cell
    have fW := bW1.frozen
    have Htl := Lib.hid (preL_succ hlt)
    have hdl := preL_length (show k ≤ L.length by omega)
    have hdb : (preL L k).length ≤ 1048576 := by omega
    clear hdl
    gi_wp2_with (gi_at_builtin; refine wpListIn_append_own _ rfl _ _ 22 rfl top 2 i0 (.int .i64 0) 1 8 Try.underlying22 hi hz0 hz1 hz2 rfl (by decide) _ _ _ rfl (World.ownsRow.alloc ho1 _) ⟨W.heap.size, 0, none⟩ 1 1 [.int .i64 (nth L k)] rfl rfl (Go.cell_one_new _ _ _) (by simp [Value.oneCell']) (by unfold maxLen; omega) (by omega) (by simp; omega) ?_)
    intro v' w4 hown' hgrow _
    have ho2 := ownI_snoc hown'
    rw [← Htl.out] at ho2
    obtain ⟨g', cap', rfl, hg1, hg2⟩ := ho2.shape (by rw [preL_length (by omega)]; omega)
    obtain ⟨r1, r2, r3, r4⟩ := appended bW1 (by omega) ho1 ho2 hgrow
    have c1 := r1.cell
    have f1 := r1.frozen
    clear hown' hgrow cW fW
    gi_wp2
    exact ⟨r4.kps Hband.out, ⟨⟨_, r2, r3⟩, r4.below hB1 (fun j hj => by omega) (by omega), .inr (Nat.le_trans hsW r4.size)⟩⟩
  case done =>
    rintro D W hD ⟨⟨v, bW1, ho1⟩, hB1, htp⟩ hK
    rw [preL_all] at ho1
    have cW := bW1.cell
    gi_wp2
    refine retM1 hK ⟨_, results_tmp rfl _ _ _, ?_⟩
    exact ⟨_, rfl, (ho1.base (by omega)).shut hK, below_shut hB1 (by omega)⟩
  case stop =>
    rintro D c k W hD hk h
    exact h.elim

theorem collect_c (gf : Nat) (lb : Array Value) (L : List Int) (Keep : Nat → Prop) (c : Nat) (w : World) (eg : ∀ args w, (callFunc gf args).run Try.prog w = .ok (.enter gf args) w)
    (hseq : ∀ W, Below w.heap.size w W → SeqAt Fence.wide 8 Try.prog gf lb (valAt L) Keep c L.length W) (hKeep : ∀ b, Keep b → b < w.heap.size) (hl : L.length ≤ 1048576) :
    Calls Try.prog 138 #[.func (.func gf) #[] lb] w (GivesI w L id) := by
  go_enter Try.func138, Try.ntmps138
  go_wp2_with fail
  refine (appendSeq_c gf lb L Keep c w eg hseq hKeep hl).mono ?_
  rintro e w1 ⟨v, rfl, ho, hB⟩
  simp only [id]
  go_wp2
  go_ret
  exact ⟨_, rfl, ho, hB⟩

end Go.Proofs.Ytbhpflhopajbfaa
