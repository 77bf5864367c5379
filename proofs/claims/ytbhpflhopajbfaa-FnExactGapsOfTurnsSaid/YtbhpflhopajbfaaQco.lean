/-
  slices.Collect over an iterator that has a queue.
  Conditions: at most 1048576 elements.
-/
import Derived.Test.YtbhpflhopajbfaaQrg
import Derived.Test.YtbhpflhopajbfaaSrt
namespace Go.Proofs.Ytbhpflhopajbfaa
open Go.RowKit Go.Shelf
attribute [local go_sem] Oper.semAt_some

theorem int_cells {B k : Nat} {W : World} {v : Value} {zs : List Int} (h : OwnI B W v zs) (e : v.ownBlock = some k) : ∃ cur, W.heap[k]? = some (.cells cur 2 (0, 0)) := by
  obtain ⟨_, h2⟩ := h
  rcases h2 with ⟨rfl, _⟩ | ⟨g, cap, cur, rfl, hg, hh, _⟩
  · simp [Value.ownBlock] at e
  · simp [Value.ownBlock] at e
    subst e
    exact ⟨cur, hh⟩
/-- what a round of the collecting loop knows of the queue -/
structure QKn (B b : Nat) (v0 : Value) (w : World) (vq : Value) (qs : List Pend) (W : World) : Prop where
  que : Que B b W vq qs
  mv : QMv b v0 vq w W
theorem qkn_own {β : Type} {B b C : Nat} {v0 : Value} {w : World} (hC : w.heap.size ≤ C) : OwnFrom C (fun (_ : β) W => ∃ vq qs, QKn B b v0 w vq qs W) := fun _ _ _ _ ⟨vq, qs, h⟩ hg hr =>
  ⟨vq, qs, h.que.records hg fun r e => (hr r e).2, ⟨hg.os.trans h.mv.os, hg.tape.trans h.mv.tape, hg.output.trans h.mv.output, Nat.le_trans h.mv.size hg.size, fun i hi hb hv => (hg.block i (Nat.lt_of_lt_of_le hi h.mv.size) (fun e => by have := (hr i e.symm).1; omega)).trans (h.mv.same i hi hb hv), h.mv.new⟩⟩
/-- what is handed back: the slots, and the queue behind them -/
def GivesQ (B b : Nat) (v0 : Value) (L : List Int) (R : List Pend → Prop) (w : World) (e : Ending) (w' : World) : Prop :=
  ∃ v, e = .returned v ∧ OwnI w.heap.size w' v L ∧ ∃ vq qs, Que B b w' vq qs ∧ R qs ∧ QMv b v0 vq w w'

set_option maxRecDepth 100000 in
set_option maxHeartbeats 8000000 in
theorem appendSeqQ_c (gf : Nat) (lb : Array Value) (L : List Int) (Keep : Nat → Prop) (B b : Nat) (v0 : Value) (qs0 : List Pend) (R : List Pend → Prop) (w : World) (eg : ∀ args w, (callFunc gf args).run Try.prog w = .ok (.enter gf args) w)
    (hq0 : Que B b w v0 qs0)
    (hseq : ∀ W, Below w.heap.size w W → SeqQ Fence.wide 8 Try.prog gf lb (valAt L) Keep B b L.length R W) (hKeep : ∀ j, Keep j → j < w.heap.size) (hl : L.length ≤ 1048576) :
    Calls Try.prog 171 #[.slice none 0 0, .func (.func gf) #[] lb] w (GivesQ B b v0 L R w) := by
  obtain ⟨i0, hi, hz0, hz1, hz2⟩ := info_parts Try.infoI2
  have hbw := hq0.box.lt
  refine (callsIn_wide (n := 9)).1 ?_
  refine callsIn_of_wp_marks Try.func171 rfl trivial ?_ rfl
  simp only [Try.ntmps171, List.size_toArray, List.length_cons, List.length_nil, Nat.reduceAdd, Nat.reduceSub, Array.replicate_succ, Array.replicate_zero, List.push_toArray, List.append_toArray, List.nil_append, List.cons_append]
  gi_wp2_with fail
  obtain ⟨W0, hW0⟩ : ∃ W0, (w.alloc (.cells #[.slice none 0 0] 22)) = W0 := ⟨_, rfl⟩
  have hB0 : Below w.heap.size w W0 := by rw [← hW0]; exact ((Below.refl _ w).alloc (Nat.le_refl _) _)
  have hs0 : w.heap.size + 1 ≤ W0.heap.size := by rw [← hW0]; simp
  have bW : Boxed W0 (w.heap.size) 22 (.slice none 0 0) := by rw [← hW0]; repeat first | (refine boxed_at ?_; (simp; done)) | refine Boxed.alloc ?_ _
  rw [hW0]
  clear hW0
  have hsq := hseq W0 hB0
  obtain ⟨top, htop⟩ : ∃ top, W0.heap.size + 2 = top := ⟨_, rfl⟩
  have Htop := Lib.hid htop
  have htop1 : w.heap.size + 3 ≤ top := by omega
  have HK := Lib.hid hKeep
  have hk0 : QKn B b v0 w v0 qs0 W0 := ⟨hq0.later hB0, QMv.of_below hB0⟩
  clear hseq hq0
  refine range_outQ (Keep := Keep) rfl (by omega) rfl trivial eg hsq (fun b hb => by have := hKeep b hb; omega) (fun _ => rfl)
    (fun k W => (∃ v, Boxed W w.heap.size 22 v ∧ OwnI top W v (preL L k)) ∧ (∃ vq qs, QKn B b v0 w vq qs W))
    (OwnFrom.and (Own.from (boxRow_Own _ _ _ _) _) (qkn_own (by omega)))
    ?mv ⟨⟨_, bW, ownI_nil _ _⟩, v0, qs0, hk0⟩ ?a1 ?assign ?body ?done
  case mv =>
    rintro k A X v v' qs qs' ⟨⟨u, hbu, hou⟩, vq, qsq, hk⟩ hqA hqX hm
    obtain rfl := hk.que.sameV hqA
    refine ⟨⟨u, hqA.boxKept hm hbu (by omega) (by decide), hou.of_block fun j hj => ?_⟩, v', qs', hqX, hk.mv.trans hm⟩
    obtain ⟨cur, hc⟩ := int_cells hou hj
    have h1 := (hou.blk j hj).1
    exact (hqA.boxKept hm hc (by omega) (by decide)).trans hc.symm
  case assign =>
    intro l k W K hk hK
    simp only [valAt]
    gi_wp2
    exact hK
  case body =>
    rintro l k W vq qs ⟨⟨v, bW1, ho1⟩, vq', qs', hkn⟩ hqW hlt hs
    obtain rfl := hkn.que.sameV hqW
    clear htop hKeep hsq hk0
    have hsW : top ≤ W.heap.size := by have := Htop.out; omega
    have hnb : ∀ j, v.ownBlock = some j → top ≤ j ∧ vq'.ownBlock ≠ some j := fun j hj => by
      obtain ⟨cur, hc⟩ := int_cells ho1 hj
      exact ⟨(ho1.blk j hj).1, hqW.noBox hc (by decide)⟩
    have Hnb := Lib.hid hnb
    have Hnx := Lib.hid (hqW.noBox bW1 (by decide))
    have Hkn := Lib.hid hkn
    have HqW := Lib.hid hqW
    clear hnb hs hkn hqW
    have cW := bW1.cell
    have fW := bW1.frozen
    have Htl := Lib.hid (preL_succ hlt)
    have hdl := preL_length (show k ≤ L.length by omega)
    have hdb : (preL L k).length ≤ 1048576 := by omega
    clear hdl
    gi_wp2_with (gi_at_builtin; refine wpListIn_append_own _ rfl _ _ 22 rfl top 2 i0 (.int .i64 0) 1 8 Try.underlying22 hi hz0 hz1 hz2 rfl (by decide) _ _ _ rfl (World.ownsRow.alloc ho1 _) ⟨W.heap.size, 0, none⟩ 1 1 [.int .i64 (nth L k)] rfl rfl (Go.cell_one_new _ _ _) (by simp [Value.oneCell']) (by unfold maxLen; omega) (by omega) (by simp; omega) ?_)
    intro v' w4 hown' hgrow _
    have ho2 := ownI_snoc hown'
    rw [← Htl.out] at ho2
    obtain ⟨g', cap', rfl, hg1, hg2⟩ := ho2.shape (by rw [preL_length (by omega)]; omega)
    obtain ⟨r1, r2, r3, _⟩ := appended bW1 (by omega) ho1 ho2 hgrow
    have r4 := ((Chg.alloc (fun k => k = w.heap.size ∨ v.ownBlock = some k) W _).trans (Chg.grown hgrow (fun k e => .inr e))).trans (Chg.setCell w4 w.heap.size 0 (.slice (some ⟨g', 0, none⟩) (preL L (k + 1)).length cap') (.inl rfl))
    have R2 := Lib.hid r2
    have R3 := Lib.hid r3
    have R4 := Lib.hid r4
    have c1 := r1.cell
    have f1 := r1.frozen
    clear hown' hgrow cW fW r1 r2 r3 r4
    gi_wp2
    have hq4 : Que B b (w4.setCell ⟨w.heap.size, 0, none⟩ (.slice (some ⟨g', 0, none⟩) (preL L (k + 1)).length cap')) vq' qs := by
      refine ⟨(R4.out.same b (fun h => ?_) HqW.out.box.lt).trans HqW.out.box, HqW.out.own.of_block fun j hj => R4.out.same j (fun h => ?_) (HqW.out.own.blk j hj).2⟩
      · rcases h with h | h
        · omega
        · have := (Hnb.out b h).1; omega
      · rcases h with h | h
        · exact Hnx.out (h ▸ hj)
        · exact (Hnb.out j h).2 hj
    refine ⟨R4.out.kps fun j hj h => ?_, ⟨_, R2.out, R3.out⟩, vq', qs, hq4, ⟨R4.out.os.trans Hkn.out.mv.os, R4.out.tape.trans Hkn.out.mv.tape, R4.out.output.trans Hkn.out.mv.output, Nat.le_trans Hkn.out.mv.size R4.out.size, fun i hi hb hv => (R4.out.same i (fun h => ?_) (Nat.lt_of_lt_of_le hi Hkn.out.mv.size)).trans (Hkn.out.mv.same i hi hb hv), Hkn.out.mv.new⟩⟩
    · have h5 := Htop.out
      rcases h with h | h
      · rcases hj with (hj | hj) | hj | hj
        · have := HK.out j hj; omega
        · omega
        · omega
        · exact Hnx.out (h ▸ hj)
      · have h6 := Hnb.out j h
        rcases hj with (hj | hj) | hj | hj
        · have := HK.out j hj; omega
        · omega
        · omega
        · exact h6.2 hj
    · rcases h with h | h
      · omega
      · have := (Hnb.out i h).1; omega
  case done =>
    rintro D W v1 qs hD ⟨⟨v, bW1, ho1⟩, vq', qs', hkn⟩ hqW hR hK
    obtain rfl := hkn.que.sameV hqW
    rw [preL_all] at ho1
    have cW := bW1.cell
    obtain ⟨hne1, hne2⟩ := hqW.noRec hK rfl
    have hq5 : Que B b (W.putObj D (.deferred none)) vq' qs := ⟨(World.putObj_heap_other (Ne.symm hne1)).trans hqW.box, hqW.own.of_block fun j hj => World.putObj_heap_other (fun e => hne2 (e ▸ hj))⟩
    have hm5 : QMv b v0 vq' w (W.putObj D (.deferred none)) := ⟨hkn.mv.os, hkn.mv.tape, hkn.mv.output, by have := hkn.mv.size; simpa [World.putObj] using this, fun i hi hb hv => (World.putObj_heap_other (by omega)).trans (hkn.mv.same i hi hb hv), hkn.mv.new⟩
    gi_wp2
    refine retM1 hK ⟨_, results_tmp rfl _ _ _, ?_⟩
    exact ⟨_, rfl, (ho1.base (by omega)).shut hK, vq', qs, hq5, hR, hm5⟩

theorem collectQ_c (gf : Nat) (lb : Array Value) (L : List Int) (Keep : Nat → Prop) (B b : Nat) (v0 : Value) (qs0 : List Pend) (R : List Pend → Prop) (w : World) (eg : ∀ args w, (callFunc gf args).run Try.prog w = .ok (.enter gf args) w)
    (hq0 : Que B b w v0 qs0)
    (hseq : ∀ W, Below w.heap.size w W → SeqQ Fence.wide 8 Try.prog gf lb (valAt L) Keep B b L.length R W) (hKeep : ∀ j, Keep j → j < w.heap.size) (hl : L.length ≤ 1048576) :
    Calls Try.prog 138 #[.func (.func gf) #[] lb] w (GivesQ B b v0 L R w) := by
  go_enter Try.func138, Try.ntmps138
  go_wp2_with fail
  refine (appendSeqQ_c gf lb L Keep B b v0 qs0 R w eg hq0 hseq hKeep hl).mono ?_
  rintro e w1 ⟨v, rfl, ho, vq, qs, hq, hR, hm⟩
  go_wp2
  go_ret
  exact ⟨_, rfl, ho, vq, qs, hq, hR, hm⟩

end Go.Proofs.Ytbhpflhopajbfaa
