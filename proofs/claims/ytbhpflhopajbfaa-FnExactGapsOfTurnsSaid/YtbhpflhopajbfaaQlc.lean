/-
  letCome: the tasks that come in a slot are put into the queue.
  Conditions: jobs.
-/
import Derived.Test.YtbhpflhopajbfaaQpo
import Derived.Test.YtbhpflhopajbfaaJobU
namespace Go.Proofs.Ytbhpflhopajbfaa
open Go.RowKit Go.Shelf
attribute [local go_sem] Oper.semAt_some mth_less mth_swap mth_len mth_push mth_pop

theorem few_of_inj (k : Nat) : ∀ (n : Nat) (g : Nat → Nat), (∀ a, a < n → g a < k) → (∀ a b, a < n → b < n → g a = g b → a = b) → n ≤ k := by
  induction k with
  | zero => intro n g h1 _; cases n with
    | zero => exact Nat.le_refl _
    | succ n => exact absurd (h1 0 (by omega)) (by omega)
  | succ k ih =>
    intro n g h1 h2
    cases n with
    | zero => omega
    | succ m =>
      have := ih m (fun a => if g a = k then g m else g a) (fun a ha => by
        have h3 := h1 a (by omega)
        have h4 := h1 m (by omega)
        show (if g a = k then g m else g a) < k
        split
        · rename_i e
          have : g m ≠ k := fun e2 => by have := h2 a m (by omega) (by omega) (e.trans e2.symm); omega
          omega
        · omega) (fun a b ha hb e => by
        have e' : (if g a = k then g m else g a) = (if g b = k then g m else g b) := e
        by_cases e1 : g a = k <;> by_cases e2 : g b = k
        · exact h2 a b (by omega) (by omega) (e1.trans e2.symm)
        · rw [if_pos e1, if_neg e2] at e'
          have := h2 m b (by omega) (by omega) e'; omega
        · rw [if_neg e1, if_pos e2] at e'
          have := h2 a m (by omega) (by omega) e'; omega
        · rw [if_neg e1, if_neg e2] at e'
          exact h2 a b (by omega) (by omega) e')
      omega
theorem Bag.len {f : Nat → Pend} {n k : Nat} {L D : Nat → Int} (h : Bag f n L D k) : n ≤ k := by
  refine few_of_inj k n (fun a => (f a).task.toNat) (fun a ha => ?_) (fun a b ha hb e => h.once a b ha hb ?_)
  · obtain ⟨i, hi, e, _⟩ := h.at_ ha
    show (f a).task.toNat < k
    rw [e]; simpa using hi
  · obtain ⟨i, hi, e1, _⟩ := h.at_ ha
    obtain ⟨j, hj, e2, _⟩ := h.at_ hb
    have e' : (f a).task.toNat = (f b).task.toNat := e
    rw [e1, e2] at e' ⊢
    simp only at e' ⊢
    omega

theorem OwnP.isCells {B g : Nat} {W : World} {v : Value} {qs : List Pend} (h : OwnP B W v qs) (hg : v.ownBlock = some g) : ∃ o, W.heap[g]? = some o ∧ o.isCells = true := by
  obtain ⟨_, h2⟩ := h
  rcases h2 with ⟨e, _⟩ | ⟨g', cap', cur, e, _, hh, _⟩
  · subst e; cases hg
  · subst e
    have : g' = g := by simpa [Value.ownBlock] using hg
    subst this
    exact ⟨_, hh, rfl⟩
theorem Que.records {B b : Nat} {W W' : World} {v : Value} {qs : List Pend} {row : Option Nat} (h : Que B b W v qs) (hg : W.grownBy W' row) (hr : ∀ r, row = some r → ∃ o : Obj, W.heap[r]? = some o ∧ o.isCells = false) : Que B b W' v qs := by
  refine ⟨h.box.kept hg fun e => ?_, h.own.kept hg ?_⟩
  · obtain ⟨o, ho, hc⟩ := hr b e.symm
    rw [show W.heap[b]? = _ from h.box] at ho
    cases ho; cases hc
  · cases hv : v.ownBlock with
    | none => exact .inl rfl
    | some g =>
      refine .inr fun e => ?_
      obtain ⟨o, ho, hc⟩ := hr g e.symm
      obtain ⟨o2, ho2, hc2⟩ := h.own.isCells hv
      rw [ho] at ho2
      cases ho2
      rw [hc] at hc2
      cases hc2
/-- the queue in a loop: what the rounds keep of it -/
structure QLp (B b lo hi : Nat) (v : Value) (w : World) (v1 : Value) (qs1 : List Pend) (W : World) : Prop where
  que : Que B b W v1 qs1
  mv : QMv b v v1 w W
  far : ∀ g, v1.ownBlock = some g → g < lo ∨ hi ≤ g
theorem qlp_own {β : Type} {B b lo hi C : Nat} {v : Value} {w : World} {R : β → List Pend → Prop} (hC : w.heap.size ≤ C) : OwnFrom C (fun (k : β) W => ∃ v1 qs1, QLp B b lo hi v w v1 qs1 W ∧ R k qs1) := fun k X Y row hs hg hr => by
  obtain ⟨v1, qs1, h, hR⟩ := hs
  refine ⟨v1, qs1, ⟨h.que.records hg fun r e => (hr r e).2, ⟨hg.os.trans h.mv.os, hg.tape.trans h.mv.tape, hg.output.trans h.mv.output, Nat.le_trans h.mv.size hg.size, fun i hi hb hv => ?_, h.mv.new⟩, h.far⟩, hR⟩
  exact (hg.block i (Nat.lt_of_lt_of_le hi h.mv.size) (fun e => by have := (hr i e.symm).1; omega)).trans (h.mv.same i hi hb hv)

set_option maxRecDepth 100000 in
set_option maxHeartbeats 16000000 in
theorem letCome_c (n₀ B b : Nat) (v : Value) (qs : List Pend) (cl cp cd : Value) (ls ps ds : List Int) (s : Nat) (w : World) (hI : Jobs3 n₀ w cl cp cd ls ps ds) (ht : jobsOk ls ps ds = true) (hs : s ≤ 240)
    (hq : Que B b w v qs) (h0 : QAt ls ps ds qs s) (hlate : edLate ls ps ds s = -1) (hn : n₀ ≤ b) (hbB : b < B) (hB : B ≤ w.heap.size) :
    Calls Try.prog 173 #[.agg #[cl, cp, cd], .int .i64 s, .pointer (some ⟨b, 0, none⟩)] w fun e w' => (∃ u, e = .returned u) ∧ ∃ v' qs', Que B b w' v' qs' ∧ QAll ls ps ds qs' s ∧ QMv b v v' w w' := by
  obtain ⟨al, capl, rfl⟩ := hI.l.shape
  obtain ⟨ap, capp, rfl⟩ := hI.p.shape
  obtain ⟨ad, capd, rfl⟩ := hI.d.shape
  have hP := jobsP ht
  have HP := Lib.hid hP
  have h8 := hP.len8
  have H0 := Lib.hid h0
  have Hlate := Lib.hid hlate
  clear ht hP hlate h0
  refine (callsIn_wide (n := 9)).1 ?_
  refine callsIn_of_wp_marks Try.func173 rfl trivial ?_ rfl
  simp only [Try.ntmps173, List.size_toArray, List.length_cons, List.length_nil, Nat.reduceAdd, Nat.reduceSub, Array.replicate_succ, Array.replicate_zero, List.push_toArray, List.append_toArray, List.nil_append, List.cons_append]
  gi_wp2_with (first | (gi_at_call 169; refine (callsIn_wide.2 (jobsByTask_c _ _ _ _)).mono ?_; rintro e w' ⟨rfl, rfl⟩) | (refine ⟨trivial, ?_⟩; gi_at_call 169; refine (callsIn_wide.2 (jobsByTask_c _ _ _ _)).mono ?_; rintro e w' ⟨rfl, rfl⟩))
  obtain ⟨W0, hW0⟩ : ∃ W0, ((((w.alloc (.cells #[.slice al ls.length capl, .slice ap ps.length capp, .slice ad ds.length capd] 37)).alloc (.cells #[.int .i64 s] 2)).alloc (.cells #[.pointer (some ⟨b, 0, none⟩)] 166)).alloc (.cells #[.slice al ls.length capl, .slice ap ps.length capp, .slice ad ds.length capd] 37)) = W0 := ⟨_, rfl⟩
  have hB0 : Below w.heap.size w W0 := by rw [← hW0]; exact (((((Below.refl _ w).alloc (Nat.le_refl _) _).alloc (by simp; try omega) _).alloc (by simp; try omega) _).alloc (by simp; try omega) _)
  have hs0 : w.heap.size + 4 ≤ W0.heap.size := by rw [← hW0]; simp
  have bj : Box3 W0 (w.heap.size) 37 (.slice al ls.length capl) (.slice ap ps.length capp) (.slice ad ds.length capd) := by rw [← hW0]; repeat first | (refine box3_at ?_; (simp; done)) | refine Box3.alloc ?_ _
  have bn : Boxed W0 (w.heap.size + 1) 2 (.int .i64 s) := by rw [← hW0]; repeat first | (refine boxed_at ?_; (simp; done)) | refine Boxed.alloc ?_ _
  have bw : Boxed W0 (w.heap.size + 1 + 1) 166 (.pointer (some ⟨b, 0, none⟩)) := by rw [← hW0]; repeat first | (refine boxed_at ?_; (simp; done)) | refine Boxed.alloc ?_ _
  have bJ : Box3 W0 (w.heap.size + 1 + 1 + 1) 37 (.slice al ls.length capl) (.slice ap ps.length capp) (.slice ad ds.length capd) := by rw [← hW0]; repeat first | (refine box3_at ?_; (simp; done)) | refine Box3.alloc ?_ _
  rw [hW0]
  clear hW0
  have hbw := hq.box.lt
  have hrow0 : ∀ g, v.ownBlock = some g → g < w.heap.size ∨ W0.heap.size + 2 + 4 ≤ g := fun g hg => .inl (hq.own.blk g hg).2
  refine range_outB 202 (fun k => .int .i64 (nth ls k)) (fun k => .int .i64 (nth ps k)) (fun k => .int .i64 (nth ds k)) (Keep := fun j => j < n₀ ∨ j = w.heap.size + 1 + 1 + 1) (c := 4) rfl (by omega) rfl trivial (enters_of Try.func190 (by kernel_rfl) rfl) (jobsByTask_at 8 _ n₀ _ _ _ ls ps ds (by omega) HP.out.lp HP.out.ld W0 bJ (by omega) (hI.below (hB0.mono (show n₀ ≤ w.heap.size by omega)))) (fun b hb => by omega) (fun _ => rfl)
    (fun k W => (∃ v1 qs1, QLp B b w.heap.size (W0.heap.size + 2 + 4) v w v1 qs1 W ∧ QCome ls ps ds qs1 s k) ∧ Boxed W (w.heap.size + 1) 2 (.int .i64 s) ∧ Boxed W (w.heap.size + 1 + 1) 166 (.pointer (some ⟨b, 0, none⟩)))
    (fun _ _ _ => False)
    (OwnFrom.and (qlp_own (by omega)) (OwnFrom.and (Own.from (boxed_own _ _ _) _) (Own.from (boxed_own _ _ _) _))) (fun _ _ _ _ _ hs _ _ => hs)
    ⟨⟨v, qs, ⟨hq.later (hB0), QMv.of_below hB0, hrow0⟩, H0.out.come⟩, bn, bw⟩ ?a1 ?assign ?body ?done ?stop
  case assign =>
    intro l k b W K hk hb hK
    simp only [jobAt]
    gi_wp2_with fail
    exact hK
  case body =>
    rintro l' k bb W hl' hr ⟨⟨v1, qs1, hL, hcm⟩, bN1, bW1⟩ hb bx hk hs1
    have hl := HP.out.l k hk
    have hp := HP.out.p k hk
    have hd := HP.out.d k hk
    have HL := Lib.hid hL
    have Hcm := Lib.hid hcm
    have hblen := hcm.bag.len
    have c0 := bx.c0
    have c1 := bx.c1
    have c2 := bx.c2
    have cN := bN1.cell
    have cW := bW1.cell
    have BN := Lib.hid bN1
    have BW := Lib.hid bW1
    have hsW : w.heap.size ≤ W.heap.size := hL.mv.size
    have hpz : ¬ nth ps k = 0 := by omega
    clear hL hcm bN1 bW1 hI hq hB0 bJ bj bn bw
    by_cases hz : (s : Int) % nth ps k = 0
    · have hw1 : Int.tmod (s : Int) (nth ps k) = 0 := by rw [Int.tmod_eq_emod_of_nonneg (by omega)]; exact hz
      have hw2 : IntKind.i64.wrap ((s : Int) + nth ds k) = (s : Int) + nth ds k := by rw [IntKind.wrap_i64]; omega
      gi_wp2_with fail
      refine ⟨trivial, (callsIn_wide.2 (hPush_c B b v1 qs1 ⟨(k : Int), (s : Int) + nth ds k, nth ls k⟩ W HL.out.que hbB (by omega) (by omega) Hcm.out.heap)).mono ?_⟩
      rintro e w2 ⟨⟨u, rfl⟩, v2, qs2, hq2, hmd, hm2⟩
      have hkp : ∀ j, j < W.heap.size → j ≠ b → (j < B ∨ w.heap.size ≤ j ∧ j < W0.heap.size + 2 + 4) → w2.heap[j]? = W.heap[j]? := fun j h1 h2 h3 => hm2.same j h1 h2 fun e => by
        have h4 := (HL.out.que.own.blk j e).1
        have h5 := HL.out.far j e
        omega
      have hk2 : Kps (Band (fun j => j < n₀ ∨ j = w.heap.size + 1 + 1 + 1) W0.heap.size (W0.heap.size + 2 + 4)) W w2 := ⟨hm2.size, fun j hj hjl => hkp j hjl (by
        rcases hj with (hj | hj) | hj <;> omega) (by rcases hj with (hj | hj) | hj <;> omega)⟩
      have hN2 : Boxed w2 (w.heap.size + 1) 2 (.int .i64 s) := (hkp _ BN.out.lt (by omega) (.inr (by omega))).trans BN.out
      have hW2 : Boxed w2 (w.heap.size + 1 + 1) 166 (.pointer (some ⟨b, 0, none⟩)) := (hkp _ BW.out.lt (by omega) (.inr (by omega))).trans BW.out
      have HL2 := Lib.hid (show QLp B b w.heap.size (W0.heap.size + 2 + 4) v w v2 qs2 w2 from ⟨hq2, HL.out.mv.trans hm2, fun g hg => by
        rcases hm2.new with h1 | h1
        · exact HL.out.far g (h1 ▸ hg)
        · have := h1 g hg; omega⟩)
      have HC2 := Lib.hid (QCome.push HP.out Hcm.out H0.out Hlate.out hk hz hmd)
      have KK := Lib.hid hk2
      have B1 := Lib.hid hN2
      have B2 := Lib.hid hW2
      clear hq2 hmd hm2 hkp hk2 hN2 hW2
      gi_wp2_with fail
      exact ⟨KK.out, ⟨v2, qs2, HL2.out, HC2.out⟩, B1.out, B2.out⟩
    · have Hsk := Lib.hid (Hcm.out.skip hz)
      have hw1 : Int.tmod (s : Int) (nth ps k) ≠ 0 := by rw [Int.tmod_eq_emod_of_nonneg (by omega)]; exact hz
      gi_wp2_with fail
      exact ⟨Kps.refl _ _, ⟨v1, qs1, HL.out, Hsk.out⟩, BN.out, BW.out⟩
  case done =>
    rintro D W hD ⟨⟨v1, qs1, hL, hcm⟩, bN1, bW1⟩ hK
    obtain ⟨v2, qs2, hL2, hcm2⟩ := (qlp_own (R := fun k qs => QCome ls ps ds qs s k) (C := w.heap.size) (B := B) (b := b) (lo := w.heap.size) (hi := W0.heap.size + 2 + 4) (v := v) (w := w) (Nat.le_refl _)).putObj (s := ls.length) (.deferred none) ⟨v1, qs1, hL, hcm⟩ (show w.heap.size ≤ D by omega) hK rfl
    gi_wp2
    refine retM1' hK ⟨_, results_none rfl _ _ _, ⟨_, rfl⟩, v2, qs2, hL2.que, hcm2.all, hL2.mv⟩
  case stop =>
    rintro D c k W hD hk h
    exact h.elim

end Go.Proofs.Ytbhpflhopajbfaa
