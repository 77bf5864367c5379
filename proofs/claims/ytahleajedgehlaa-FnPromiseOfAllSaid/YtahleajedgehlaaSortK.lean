/-
  SortTasks of the program.
  Conditions: lists of at most 1048576 elements.
-/
import Derived.Test.YtahleajedgehlaaSortJ
namespace Go.Proofs.Ytahleajedgehlaa
open Go.RowKit Go.Shelf
attribute [local go_sem] Oper.semAt_some

theorem retM2 {F : Fence} {n : Nat} {P : Program} {fn : Func} {R : Ending → World → Prop} {tmps : Array Value} {W : World} {D E : Nat} (hD : W.heap[D]? = some (.deferred (some []))) (hE : W.heap[E]? = some (.deferred (some []))) (hne : D ≠ E)
    (h : ∃ v, (results fn tmps).run P ((W.putObj D (.deferred none)).putObj E (.deferred none)) = .ok v ((W.putObj D (.deferred none)).putObj E (.deferred none)) ∧ R (.returned v) ((W.putObj D (.deferred none)).putObj E (.deferred none))) :
    bodyPostM F n P fn R .ret { tmps := tmps, defers := [{ target := .collected D, args := #[] }, { target := .collected E, args := #[] }] } W :=
  ⟨by simp, .inl ⟨_, _, rfl, run_takeDeferred hD, ⟨by simp, .inl ⟨_, _, rfl, run_takeDeferred ((World.putObj_heap_other (by omega)).trans hE), h⟩⟩⟩⟩
theorem ownFrom_deferred {β : Type} {B D : Nat} {o : Obj} (hD : D < B) : OwnFrom B (fun (_ : β) W => W.heap[D]? = some o) := fun _ W W' row hs hg hr =>
  (hg.block D (Array.getElem?_eq_some_iff.1 hs).1 (fun e => by have := (hr D e.symm).1; omega)).trans hs
/-- 0, 1, .., k - 1 -/
def upI (k : Nat) : List Int := (List.range k).map fun (m : Nat) => (m : Int)
theorem upI_succ (k : Nat) : upI (k + 1) = upI k ++ [(k : Int)] := by simp [upI, List.range_succ]
theorem upI_length (k : Nat) : (upI k).length = k := by simp [upI]

set_option maxRecDepth 100000 in
set_option maxHeartbeats 8000000 in
theorem i_SortTasks (c0 : Value) (zs : List Int) (w : World) (hI : Ints w.heap.size w c0 zs) (_hN : I64s zs) (hm : zs.length ≤ 1048576) :
    Calls Try.prog 48 #[.agg #[c0]] w (GivesII w (sortG zs) (sortO zs) fun u v => .tuple #[.agg #[u], v, .int .i64 (sortC zs)]) := by
  obtain ⟨i0, hi, hz0, hz1, hz2⟩ := info_parts Try.infoI2
  obtain ⟨a, cap, rfl⟩ := hI.shape
  refine (callsIn_wide (n := 9)).1 ?_
  cases ht : tasksOk zs
  · have Hg := Lib.hid (show sortG zs = [] by unfold sortG; rw [ht]; rfl)
    have Ho := Lib.hid (show sortO zs = [] by unfold sortO; rw [ht]; rfl)
    have Hc := Lib.hid (show sortC zs = 1 by unfold sortC; rw [ht]; rfl)
    have Ht := Lib.hid ht
    clear ht
    refine callsIn_of_wp_marks Try.func48 rfl trivial ?_ rfl
    simp only [Try.ntmps48, List.size_toArray, List.length_cons, List.length_nil, Nat.reduceAdd, Nat.reduceSub, Array.replicate_succ, Array.replicate_zero, List.push_toArray, List.append_toArray, List.nil_append, List.cons_append]
    gi_wp2_with fail
    obtain ⟨W0, hW1⟩ : ∃ W0, ((w.alloc (.cells #[.slice a zs.length cap] 24)).alloc (.cells #[.slice none 0 0] 24)) = W0 := ⟨_, rfl⟩
    have hB1 : Below w.heap.size w W0 := by rw [← hW1]; exact (((Below.refl _ w).alloc (Nat.le_refl _) _).alloc (by simp; try omega) _)
    have hs1 : w.heap.size + 2 ≤ W0.heap.size := by rw [← hW1]; simp
    have bT : Boxed W0 (w.heap.size) 24 (.slice a zs.length cap) := by rw [← hW1]; repeat first | (refine boxed_at ?_; (simp; done)) | refine Boxed.alloc ?_ _
    have bQ : Boxed W0 (w.heap.size + 1) 24 (.slice none 0 0) := by rw [← hW1]; repeat first | (refine boxed_at ?_; (simp; done)) | refine Boxed.alloc ?_ _
    rw [hW1]
    clear hW1
    refine ⟨trivial, (callsIn_wide.2 (isTasks_c _ zs _ (hI.later hB1) (by omega))).mono ?_⟩
    rintro e w1 ⟨he, hb⟩
    rw [Ht.out] at he
    subst he
    have hB2 := hB1.trans (hb.mono (by omega))
    have hs2 := hb.size
    replace bT := boxed_later bT hb
    replace bQ := boxed_later bQ hb
    clear hb
    have cT := bT.cell
    have cQ := bQ.cell
    have fQ := bQ.frozen
    gi_wp2
    have k1 := (bQ.set (.slice none 0 0)).cell
    exact retM0 ⟨.tuple #[.agg #[.slice none 0 0], .slice none 0 0, .int .i64 1], by simp [results, Try.f48, go_sem, k1], _, _, w.heap.size, by rw [Hc.out], by rw [Hg.out]; exact seg_nil _ _ _ (Nat.le_refl _), by rw [Ho.out]; exact seg_nil _ _ _ (by simp [World.setCell]; have := hB2.size; omega), Nat.le_refl _, hB2.setCell (p := ⟨w.heap.size + 1, 0, none⟩) (by show w.heap.size ≤ w.heap.size + 1; omega) _⟩
  · have hl := tasksOk_len ht
    have Hg := Lib.hid (show sortG zs = gapsBy zs (ordTo zs zs.length) zs.length by unfold sortG; rw [ht]; rfl)
    have Ho := Lib.hid (show sortO zs = ordTo zs zs.length by unfold sortO; rw [ht]; rfl)
    have Hc := Lib.hid (show sortC zs = 0 by unfold sortC; rw [ht]; rfl)
    have Ht := Lib.hid ht
    clear ht
    refine callsIn_of_wp_marks Try.func48 rfl trivial ?_ rfl
    simp only [Try.ntmps48, List.size_toArray, List.length_cons, List.length_nil, Nat.reduceAdd, Nat.reduceSub, Array.replicate_succ, Array.replicate_zero, List.push_toArray, List.append_toArray, List.nil_append, List.cons_append]
    gi_wp2_with fail
    obtain ⟨W0, hW1⟩ : ∃ W0, ((w.alloc (.cells #[.slice a zs.length cap] 24)).alloc (.cells #[.slice none 0 0] 24)) = W0 := ⟨_, rfl⟩
    have hB1 : Below w.heap.size w W0 := by rw [← hW1]; exact (((Below.refl _ w).alloc (Nat.le_refl _) _).alloc (by simp; try omega) _)
    have hs1 : w.heap.size + 2 ≤ W0.heap.size := by rw [← hW1]; simp
    have bT : Boxed W0 (w.heap.size) 24 (.slice a zs.length cap) := by rw [← hW1]; repeat first | (refine boxed_at ?_; (simp; done)) | refine Boxed.alloc ?_ _
    have bQ : Boxed W0 (w.heap.size + 1) 24 (.slice none 0 0) := by rw [← hW1]; repeat first | (refine boxed_at ?_; (simp; done)) | refine Boxed.alloc ?_ _
    rw [hW1]
    clear hW1
    refine ⟨trivial, (callsIn_wide.2 (isTasks_c _ zs _ (hI.later hB1) (by omega))).mono ?_⟩
    rintro e w1 ⟨he, hb⟩
    rw [Ht.out] at he
    subst he
    have hB2 := hB1.trans (hb.mono (by omega))
    have hs2 := hb.size
    replace bT := boxed_later bT hb
    replace bQ := boxed_later bQ hb
    clear hb
    have cT := bT.cell
    have cTa := (bT.alloc (.cells #[.slice none 0 0] 22)).cell
    clear hB1
    gi_wp2_with (first | (gi_at_call 21; refine (callsIn_wide.2 (numbered_c _ _ _ _)).mono ?_; rintro e w' ⟨rfl, rfl⟩) | (refine ⟨trivial, ?_⟩; gi_at_call 21; refine (callsIn_wide.2 (numbered_c _ _ _ _)).mono ?_; rintro e w' ⟨rfl, rfl⟩))
    obtain ⟨W2, hW3⟩ : ∃ W2, ((w1.alloc (.cells #[.slice none 0 0] 22)).alloc (.cells #[.slice a zs.length cap] 22)) = W2 := ⟨_, rfl⟩
    have hB3 : Below w1.heap.size w1 W2 := by rw [← hW3]; exact (((Below.refl _ w1).alloc (Nat.le_refl _) _).alloc (by simp; try omega) _)
    have hs3 : w1.heap.size + 2 ≤ W2.heap.size := by rw [← hW3]; simp
    have bO : Boxed W2 (w1.heap.size) 22 (.slice none 0 0) := by rw [← hW3]; repeat first | (refine boxed_at ?_; (simp; done)) | refine Boxed.alloc ?_ _
    have bN : Boxed W2 (w1.heap.size + 1) 22 (.slice a zs.length cap) := by rw [← hW3]; repeat first | (refine boxed_at ?_; (simp; done)) | refine Boxed.alloc ?_ _
    rw [hW3]
    clear hW3
    have hB3' := hB2.trans (hB3.mono hB2.size)
    have hsw1 := bQ.lt
    replace bT := boxed_later bT hB3
    replace bQ := boxed_later bQ hB3
    obtain ⟨top, htop⟩ : ∃ top, W2.heap.size + 2 + 0 = top := ⟨_, rfl⟩
    have Htop := Lib.hid htop
    clear cT cTa
    refine range_outA rfl (by omega) rfl trivial (enters_of Try.func40 (by kernel_rfl) rfl) (numbered_at Fence.wide 8 trivial rfl (by omega) _ w.heap.size _ zs (by omega) W2 bN (by omega) (hI.below hB3')) (fun b hb => by omega) (fun _ => rfl)
      (fun k W => (∃ v, Boxed W w1.heap.size 22 v ∧ OwnI top W v (upI k)) ∧ (Boxed W w.heap.size 24 (.slice a zs.length cap) ∧ Boxed W (w.heap.size + 1) 24 (.slice none 0 0)) ∧ Below w.heap.size w W ∧ (k = 0 ∨ top ≤ W.heap.size))
      (fun _ _ _ => False)
      (OwnFrom.and (Own.from (boxRow_Own _ _ _ _) _) (OwnFrom.and (by repeat' (first | exact ownFrom_pure _ _ | exact Own.from (boxed_own _ _ _) _ | exact Own.from (ownI_Own _ _ _) _ | exact Own.from (ownB_Own _ _ _) _ | exact ownFrom_below (Nat.le_refl _) (by omega) | exact ownFrom_kps (by omega) | apply OwnFrom.and)) (OwnFrom.and (ownFrom_below (Nat.le_refl _) (by omega)) (ownFrom_size _ _))))
      (fun _ _ _ _ _ hs _ _ => hs)
      ⟨⟨_, bO, ownI_nil _ _⟩, ⟨bT, bQ⟩, hB3', .inl rfl⟩ ?a1 ?assign ?body ?done ?stop
    case assign =>
      intro l k W K hk hK
      simp only [numAt]
      gi_wp2
      exact hK
    case body =>
      rintro l k W hl2 hr ⟨⟨v, bW1, ho1⟩, ⟨bT1, bQ1⟩, hB1, _⟩ hlt hsW
      have hsW2 : top ≤ W.heap.size := by omega
      have hband : ∀ j, Band (fun b => b < w.heap.size) W2.heap.size (W2.heap.size + 2 + 0) j → ¬ (j = w1.heap.size ∨ top ≤ j) := fun j hj => by
        rcases hj with hj | hj
        · have : j < w.heap.size := hj
          omega
        · omega
      have Hband := Lib.hid hband
      have hlz : k < 8 := by omega
      have hup := upI_length k
      have hdb : (upI k).length ≤ 1048576 := by omega
      have Hup := Lib.hid (upI_succ k)
      have Hul := Lib.hid hup
      have hwt : w.heap.size + 2 ≤ w1.heap.size ∧ w1.heap.size < top := by omega
      clear htop hband hup hsW
      have cW := bW1.cell
      have fW := bW1.frozen
      gi_wp2_with (gi_at_builtin; refine wpListIn_append_own _ rfl _ _ 22 rfl top 2 i0 (.int .i64 0) 1 8 Try.underlying22 hi hz0 hz1 hz2 rfl (by decide) _ _ _ rfl (World.ownsRow.alloc ho1 _) ⟨W.heap.size, 0, none⟩ 1 1 [.int .i64 (k : Int)] rfl rfl (Go.cell_one_new _ _ _) (by simp [Value.oneCell']) (by unfold maxLen; omega) (by omega) (by simp; omega) ?_)
      intro v' w4 hown' hgrow _
      have ho2 := ownI_snoc hown'
      rw [← Hup.out] at ho2
      obtain ⟨g', cap', rfl, hg1, hg2⟩ := ho2.shape (by rw [upI_length]; omega)
      obtain ⟨r1, r2, r3, r4⟩ := appended bW1 (by omega) ho1 ho2 hgrow
      have c1 := r1.cell
      have f1 := r1.frozen
      clear hown' hgrow cW fW
      gi_wp2
      exact ⟨r4.kps Hband.out, ⟨⟨_, r2, r3⟩, ⟨r4.boxed (by omega) bT1, r4.boxed (by omega) bQ1⟩, r4.below hB1 (fun j hj => by omega) (by omega), .inr (Nat.le_trans hsW2 r4.size)⟩⟩
    case done =>
      rintro D W hD ⟨⟨v, bW1, ho1⟩, ⟨bT1, bQ1⟩, hB1, htp⟩ hK
      have htW : top ≤ W.heap.size := by omega
      obtain ⟨g, cap', rfl, hg1, hg2⟩ := ho1.shape (by rw [upI_length]; omega)
      rw [upI_length] at bW1 ho1
      have cW := bW1.cell
      gi_wp2_with fail
      refine ⟨trivial, (callsIn_wide.2 (sortStable_c w.heap.size w.heap.size top g cap' a cap zs W bT1 (hI.below hB1) (by rw [stI_zero]; exact ho1) (by omega) (by omega) hB1.size (by omega) (by omega))).mono ?_⟩
      rintro e W5 ⟨⟨v5, rfl⟩, ho5, hg5⟩
      have bT5 := bT1.kept hg5 (by simp; omega)
      have bQ5 := bQ1.kept hg5 (by simp; omega)
      have bW5 := bW1.kept hg5 (by simp; omega)
      have hB5 := hB1.grown hg5 hB1.size (fun j e => by simp at e; omega)
      have hK5 : W5.heap[D]? = some (.deferred (some [])) := (hg5.block D (by omega) (by simp; omega)).trans hK
      have hs5 := hg5.size
      have cW5 := (bW5.alloc (.cells #[.slice none 0 0] 22)).cell
      clear ho1 bT1 bQ1 bW1 hB1 hK hg5 cW bO bN bT bQ hB3' hB2 hB3
      gi_wp2_with (first | (gi_at_call 21; refine (callsIn_wide.2 (numbered_c _ _ _ _)).mono ?_; rintro e w' ⟨rfl, rfl⟩) | (refine ⟨trivial, ?_⟩; gi_at_call 21; refine (callsIn_wide.2 (numbered_c _ _ _ _)).mono ?_; rintro e w' ⟨rfl, rfl⟩))
      obtain ⟨W6, hW6⟩ : ∃ W6, ((W5.alloc (.cells #[.slice none 0 0] 22)).alloc (.cells #[.slice (some ⟨g, 0, none⟩) zs.length cap'] 22)) = W6 := ⟨_, rfl⟩
      have hB6 : Below W5.heap.size W5 W6 := by rw [← hW6]; exact (((Below.refl _ W5).alloc (Nat.le_refl _) _).alloc (by simp; try omega) _)
      have hs6 : W5.heap.size + 2 ≤ W6.heap.size := by rw [← hW6]; simp
      have bG : Boxed W6 (W5.heap.size) 22 (.slice none 0 0) := by rw [← hW6]; repeat first | (refine boxed_at ?_; (simp; done)) | refine Boxed.alloc ?_ _
      have bN6 : Boxed W6 (W5.heap.size + 1) 22 (.slice (some ⟨g, 0, none⟩) zs.length cap') := by rw [← hW6]; repeat first | (refine boxed_at ?_; (simp; done)) | refine Boxed.alloc ?_ _
      rw [hW6]
      clear hW6
      have hB6' := hB5.trans (hB6.mono hB5.size)
      have ho6 := ho5.below hB6
      have hi6 := ho5.ints.below hB6
      have hK6 : W6.heap[D]? = some (.deferred (some [])) := (hB6.block D (by omega)).trans hK5
      replace bT5 := boxed_later bT5 hB6
      replace bQ5 := boxed_later bQ5 hB6
      replace bW5 := boxed_later bW5 hB6
      obtain ⟨top2, htop2⟩ : ∃ top2, W6.heap.size + 2 + 0 = top2 := ⟨_, rfl⟩
      have Htop2 := Lib.hid htop2
      have Hlen := Lib.hid (ordTo_length zs zs.length)
      have hD6 : D < W6.heap.size := by omega
      have hDb : D < top ∧ W5.heap.size < W6.heap.size ∧ w1.heap.size < W5.heap.size ∧ D ≠ W5.heap.size ∧ g < W5.heap.size := by omega
      clear cW5 htop hB5 hK5 ho5
      refine range_outA rfl (by omega) rfl trivial (enters_of Try.func40 (by kernel_rfl) rfl) (numbered_at Fence.wide 8 trivial rfl (by omega) _ W5.heap.size _ (ordTo zs zs.length) (by rw [Hlen.out]; omega) W6 bN6 (by omega) hi6) (fun b hb => by omega) (fun _ => rfl)
        (fun k W => (∃ v, Boxed W W5.heap.size 22 v ∧ OwnI top2 W v (gapsBy zs (ordTo zs zs.length) k)) ∧ (OwnI top W (.slice (some ⟨g, 0, none⟩) zs.length cap') (ordTo zs zs.length) ∧ Boxed W w.heap.size 24 (.slice a zs.length cap) ∧ Boxed W (w.heap.size + 1) 24 (.slice none 0 0) ∧ Boxed W w1.heap.size 22 (.slice (some ⟨g, 0, none⟩) zs.length cap') ∧ W.heap[D]? = some (.deferred (some []))) ∧ Below w.heap.size w W ∧ (k = 0 ∨ top2 ≤ W.heap.size))
        (fun _ _ _ => False)
        (OwnFrom.and (Own.from (boxRow_Own _ _ _ _) _) (OwnFrom.and (OwnFrom.and (Own.from (ownI_Own _ _ _) _) (OwnFrom.and (Own.from (boxed_own _ _ _) _) (OwnFrom.and (Own.from (boxed_own _ _ _) _) (OwnFrom.and (Own.from (boxed_own _ _ _) _) (ownFrom_deferred (by omega)))))) (OwnFrom.and (ownFrom_below (Nat.le_refl _) (by omega)) (ownFrom_size _ _))))
        (fun _ _ _ _ _ hs _ _ => hs)
        ⟨⟨_, bG, ownI_nil _ _⟩, ⟨ho6, bT5, bQ5, bW5, hK6⟩, hB6', .inl rfl⟩ ?b1 ?assign2 ?body2 ?done2 ?stop2
      case assign2 =>
        intro l k W K hk hK
        simp only [numAt]
        gi_wp2
        exact hK
      case body2 =>
        rintro l k W hl2 hr ⟨⟨v, bG1, ho1⟩, ⟨hoo, bT1, bQ1, bW1, hK1⟩, hB1, _⟩ hlt hsW
        have cG := bG1.cell
        have fG := bG1.frozen
        have cT := bT1.cell
        have hsW2 : top2 ≤ W.heap.size := by omega
        have hlk : k < (ordTo zs zs.length).length := hlt
        rw [Hlen.out] at hlt
        obtain ⟨av, cv, ev⟩ := ho1.ints.shape
        rw [gapsBy_length] at ev
        subst ev
        have hok := ho1
        have hbd := ordTo_bd zs zs.length (m := k) hlt
        obtain ⟨q, hq⟩ : ∃ q : Nat, nth (ordTo zs zs.length) k = q := ⟨(nth (ordTo zs zs.length) k).toNat, by omega⟩
        have hql : q < zs.length := by omega
        obtain ⟨b, off, rfl, hb, hc⟩ := hI.at_ hlt
        have hcq := hc q hql
        have hgg : gapsBy zs (ordTo zs zs.length) (k + 1) = gapsBy zs (ordTo zs zs.length) k ++ [nth zs q] := by rw [gapsBy_succ]; unfold gapAt; rw [hq]; rfl
        have Hgg := Lib.hid hgg
        have hrow : W.ownsRow top2 2 1 (.slice av k cv) k ((gapsBy zs (ordTo zs zs.length) k).map (.int .i64)) := by have h := ho1; unfold OwnI at h; rwa [gapsBy_length] at h
        have hfw : Try.prog.follows Departure.mixedOrders = true := by kernel_rfl
        have hbnd : ∀ j, top2 ≤ j → ¬ Band (fun b => b < W5.heap.size) W6.heap.size (W6.heap.size + 2 + 0) j := fun j hj hx => by
          rcases hx with hx | hx
          · have : j < W5.heap.size := hx
            omega
          · omega
        have Hbd := Lib.hid hbnd
        have hlast : W6.heap.size + 2 ≤ top2 := by omega
        rw [hq]
        clear hc hbd hq hgg hbnd htop2 ho1
        gi_wp2_with fail
        refine wpIn_region_held (S := fun w' => OwnI top w' (.slice (some ⟨g, 0, none⟩) zs.length cap') (ordTo zs zs.length) ∧ Boxed w' w.heap.size 24 (.slice (some ⟨b, off, none⟩) zs.length cap) ∧ Boxed w' (w.heap.size + 1) 24 (.slice none 0 0) ∧ Boxed w' w1.heap.size 22 (.slice (some ⟨g, 0, none⟩) zs.length cap') ∧ w'.heap[D]? = some (.deferred (some [])) ∧ Below w.heap.size w w' ∧ Kps (Band (fun b => b < W5.heap.size) W6.heap.size (W6.heap.size + 2 + 0)) W w')
          hfw (by kernel_rfl) (fun ⟨_, _, h⟩ => h) ⟨World.ownsRow.drew hoo, bT1, bQ1, bW1, hK1, hB1.drew, ⟨Nat.le_refl _, fun _ _ _ => rfl⟩⟩ ?_
        intro hS0
        refine wpAnyH_take (i := 1) (v := ?v1) rfl (by kernel_rfl) (by kernel_rfl) (by kernel_rfl) (fun _ _ _ h => h) (.inl ⟨by rfl, ?y1⟩) hS0 ?_
        case y1 =>
          intro w' hS
          (have k1 := hS.2.1.cell; have k3 := (hS.2.2.2.2.2.1.cell (p := ⟨b, off + q, none⟩) hb).trans hcq; clear hS)
          go_simp
          try with_reducible rfl
        refine wpAnyH_take (i := 2) (v := ?v2) rfl (by kernel_rfl) (by kernel_rfl) (by kernel_rfl) (fun _ _ _ h => h) (.inl ⟨by rfl, ?y2⟩) hS0 ?_
        case y2 =>
          intro w' hS
          (have k1 := hS.2.1.cell; have k3 := (hS.2.2.2.2.2.1.cell (p := ⟨b, off + q, none⟩) hb).trans hcq; clear hS)
          go_simp
          try with_reducible rfl
        refine wpAnyH_take (i := 3) (v := ?v3) rfl (by kernel_rfl) (by kernel_rfl) (by kernel_rfl) (fun _ _ _ h => h) (.inl ⟨by rfl, ?y3⟩) hS0 ?_
        case y3 =>
          intro w' hS
          (have k1 := hS.2.1.cell; have k3 := (hS.2.2.2.2.2.1.cell (p := ⟨b, off + q, none⟩) hb).trans hcq; clear hS)
          go_simp
          try with_reducible rfl
        refine wpAnyH_take (i := 4) (v := ?v4) rfl (by kernel_rfl) (by kernel_rfl) (by kernel_rfl) (fun _ _ _ h => h) (.inl ⟨by rfl, ?y4⟩) hS0 ?_
        case y4 =>
          intro w' hS
          (have k1 := hS.2.1.cell; have k3 := (hS.2.2.2.2.2.1.cell (p := ⟨b, off + q, none⟩) hb).trans hcq; clear hS)
          go_simp
          try with_reducible rfl
        refine wpAnyH_take (i := 5) (v := ?v5) rfl (by kernel_rfl) (by kernel_rfl) (by kernel_rfl) (fun _ _ _ h => h) (.inl ⟨by rfl, ?y5⟩) hS0 ?_
        case y5 =>
          intro w' hS
          (have k1 := hS.2.1.cell; have k3 := (hS.2.2.2.2.2.1.cell (p := ⟨b, off + q, none⟩) hb).trans hcq; clear hS)
          go_simp
          try with_reducible rfl
        refine wpAnyH_ready (rs := [0, 6]) (by kernel_rfl) (by simp) ?_
        refine AllReadyH.cons rfl (fun K' hK' => ?_) (AllReadyH.cons rfl (fun K' hK' => ?_) AllReadyH.nil)
        · rw [if_pos (by rfl)]
          go_simp
          refine hK'.out _ _ hS0 fun hS1 => ?_
          · refine wpAnyH_ready (rs := [6]) (by kernel_rfl) (by simp) ?_
            refine AllReadyH.cons rfl (fun K' hK' => ?_) AllReadyH.nil
            rw [if_pos (by rfl)]
            go_simp
            refine hK'.out _ _ ⟨hS1.1.alloc _, hS1.2.1.alloc _, hS1.2.2.1.alloc _, hS1.2.2.2.1.alloc _, ((World.grownBy_alloc W.drew _ none).block D (Array.getElem?_eq_some_iff.1 hS1.2.2.2.2.1).1 (by simp)).trans hS1.2.2.2.2.1, hS1.2.2.2.2.2.1.alloc hS1.2.2.2.2.2.1.size _, hS1.2.2.2.2.2.2.trans (Kps.alloc _ _ _)⟩ fun hS2 => ?_
            refine wpAnyH_ready (rs := [7]) (by kernel_rfl) (by simp) ?_
            refine AllReadyH.cons rfl (fun K' hK' => ?_) AllReadyH.nil
            rw [if_pos (by rfl)]
            refine wp_append_own _ (.tmp 30) (.tmp 36) 22 rfl top2 2 i0 (.int .i64 0) 1 8 Try.underlying22 hi hz0 hz1 hz2 rfl (by decide) _ _ _ rfl (World.ownsRow.alloc (World.ownsRow.drew hrow) _) ⟨W.heap.size, 0, none⟩ 1 1 [.int .i64 (nth zs q)] rfl rfl (Go.cell_one_new _ _ _) (by simp [Value.oneCell']) (by unfold maxLen; omega) (by omega) (by simp; omega) ?_
            intro v' w5 hown' hgrow hfar
            have ho6 := ownI_snoc (xs := gapsBy zs (ordTo zs zs.length) k) (x := nth zs q) (by rw [gapsBy_length]; exact hown')
            rw [← Hgg.out] at ho6
            obtain ⟨av', cv', ev'⟩ := ho6.ints.shape
            rw [gapsBy_length] at ev'
            subst ev'
            have hb5 : ∀ j, (Value.slice av k cv).ownBlock = some j → top2 ≤ j := fun j e => (hok.blk j e).1
            have hne := hb5 W5.heap.size
            have bO5 : Boxed w5 W5.heap.size 22 (.slice av k cv) := (show Boxed (W.alloc (.cells #[.int .i64 (nth zs q)] 2)).drew W5.heap.size 22 (.slice av k cv) from bG1.alloc _).kept hgrow (fun e => by have := hb5 _ e.symm; omega)
            have s1 : OwnI top w5 (.slice (some ⟨g, 0, none⟩) zs.length cap') (ordTo zs zs.length) := hS2.1.kept hgrow (.inr (fun e => by have := hb5 g e.symm; omega))
            have s2 : Boxed w5 w.heap.size 24 (.slice (some ⟨b, off, none⟩) zs.length cap) := hS2.2.1.kept hgrow (fun e => by have := hb5 _ e.symm; omega)
            have s3 : Boxed w5 (w.heap.size + 1) 24 (.slice none 0 0) := hS2.2.2.1.kept hgrow (fun e => by have := hb5 _ e.symm; omega)
            have s4 : Boxed w5 w1.heap.size 22 (.slice (some ⟨g, 0, none⟩) zs.length cap') := hS2.2.2.2.1.kept hgrow (fun e => by have := hb5 _ e.symm; omega)
            have s5 : w5.heap[D]? = some (.deferred (some [])) := (hgrow.block D (by have h := (Array.getElem?_eq_some_iff.1 hS2.2.2.2.2.1).1; exact h) (fun e => by have := hb5 _ e.symm; omega)).trans hS2.2.2.2.2.1
            have s6 : Below w.heap.size w w5 := hS2.2.2.2.2.2.1.grown hgrow hS2.2.2.2.2.2.1.size (fun j e => by have := hb5 j e; omega)
            have s7 : Kps (Band (fun b => b < W5.heap.size) W6.heap.size (W6.heap.size + 2 + 0)) W w5 := hS2.2.2.2.2.2.2.trans (Kps.grown hgrow (fun j e => Hbd.out j (hb5 j e)))
            have hsz5 : top2 ≤ w5.heap.size := Nat.le_trans hsW2 s7.size
            have cO5 := bO5.cell
            have fO5 := bO5.frozen
            clear hown' hgrow hfar hS1 hS2 hS0 hok hrow
            refine hK'.out _ _ ⟨s1, s2, s3, s4, s5, s6, s7⟩ fun hS3 => ?_
            refine wpAnyH_ready (rs := [8]) (by kernel_rfl) (by simp) ?_
            refine AllReadyH.cons rfl (fun K' hK' => ?_) AllReadyH.nil
            rw [if_pos (by rfl)]
            go_simp
            have t6 : OwnI top2 (w5.setCell ⟨W5.heap.size, 0, none⟩ (.slice av' (k + 1) cv')) (.slice av' (k + 1) cv') (gapsBy zs (ordTo zs zs.length) (k + 1)) := ho6.kept (grownBy_setCell2 _ _ _ _) (.inr (fun e => by have := (ho6.blk _ e).1; omega))
            have t1 : OwnI top (w5.setCell ⟨W5.heap.size, 0, none⟩ (.slice av' (k + 1) cv')) (.slice (some ⟨g, 0, none⟩) zs.length cap') (ordTo zs zs.length) := s1.kept (grownBy_setCell2 _ _ _ _) (.inr (by show some g ≠ some W5.heap.size; simp; omega))
            have t5 : (w5.setCell ⟨W5.heap.size, 0, none⟩ (.slice av' (k + 1) cv')).heap[D]? = some (.deferred (some [])) := ((grownBy_setCell2 w5 W5.heap.size 0 (.slice av' (k + 1) cv')).block D (Array.getElem?_eq_some_iff.1 s5).1 (by simp; omega)).trans s5
            have t7 : Kps (Band (fun b => b < W5.heap.size) W6.heap.size (W6.heap.size + 2 + 0)) W (w5.setCell ⟨W5.heap.size, 0, none⟩ (.slice av' (k + 1) cv')) := s7.trans (Kps.setCell _ _ _ _ (not_band (Nat.le_refl _) (by omega)))
            refine hK'.out _ _ ⟨t1, boxed_setFar s2 (by omega), boxed_setFar s3 (by omega), boxed_setFar s4 (by omega), t5, s6.setCell (p := ⟨W5.heap.size, 0, none⟩) (by show w.heap.size ≤ W5.heap.size; omega) _, t7⟩ fun hS4 => wpAnyH_done (by kernel_rfl) ?_ _
            exact ⟨t7, ⟨⟨_, bO5.set _, t6⟩, ⟨t1, hS4.2.1, hS4.2.2.1, hS4.2.2.2.1, t5⟩, hS4.2.2.2.2.2.1, .inr (by simpa using hsz5)⟩⟩
        · rw [if_pos (by rfl)]
          go_simp
          refine hK'.out _ _ ⟨hS0.1.alloc _, hS0.2.1.alloc _, hS0.2.2.1.alloc _, hS0.2.2.2.1.alloc _, ((World.grownBy_alloc W.drew _ none).block D (Array.getElem?_eq_some_iff.1 hS0.2.2.2.2.1).1 (by simp)).trans hS0.2.2.2.2.1, hS0.2.2.2.2.2.1.alloc hS0.2.2.2.2.2.1.size _, hS0.2.2.2.2.2.2.trans (Kps.alloc _ _ _)⟩ fun hS2 => ?_
          have hS1 := hS0
          have cOa : (W.alloc (.cells #[.int .i64 (nth zs q)] 2)).drew.cell? ⟨W5.heap.size, 0, none⟩ = some (.slice av k cv) := (bG1.alloc (.cells #[.int .i64 (nth zs q)] 2)).cell
          · refine wpAnyH_ready (rs := [0]) (by kernel_rfl) (by simp) ?_
            refine AllReadyH.cons rfl (fun K' hK' => ?_) AllReadyH.nil
            rw [if_pos (by rfl)]
            go_simp
            refine hK'.out _ _ hS2 fun hS2b => ?_
            clear cOa hS2b
            refine wpAnyH_ready (rs := [7]) (by kernel_rfl) (by simp) ?_
            refine AllReadyH.cons rfl (fun K' hK' => ?_) AllReadyH.nil
            rw [if_pos (by rfl)]
            refine wp_append_own _ (.tmp 30) (.tmp 36) 22 rfl top2 2 i0 (.int .i64 0) 1 8 Try.underlying22 hi hz0 hz1 hz2 rfl (by decide) _ _ _ rfl (World.ownsRow.alloc (World.ownsRow.drew hrow) _) ⟨W.heap.size, 0, none⟩ 1 1 [.int .i64 (nth zs q)] rfl rfl (Go.cell_one_new _ _ _) (by simp [Value.oneCell']) (by unfold maxLen; omega) (by omega) (by simp; omega) ?_
            intro v' w5 hown' hgrow hfar
            have ho6 := ownI_snoc (xs := gapsBy zs (ordTo zs zs.length) k) (x := nth zs q) (by rw [gapsBy_length]; exact hown')
            rw [← Hgg.out] at ho6
            obtain ⟨av', cv', ev'⟩ := ho6.ints.shape
            rw [gapsBy_length] at ev'
            subst ev'
            have hb5 : ∀ j, (Value.slice av k cv).ownBlock = some j → top2 ≤ j := fun j e => (hok.blk j e).1
            have hne := hb5 W5.heap.size
            have bO5 : Boxed w5 W5.heap.size 22 (.slice av k cv) := (show Boxed (W.alloc (.cells #[.int .i64 (nth zs q)] 2)).drew W5.heap.size 22 (.slice av k cv) from bG1.alloc _).kept hgrow (fun e => by have := hb5 _ e.symm; omega)
            have s1 : OwnI top w5 (.slice (some ⟨g, 0, none⟩) zs.length cap') (ordTo zs zs.length) := hS2.1.kept hgrow (.inr (fun e => by have := hb5 g e.symm; omega))
            have s2 : Boxed w5 w.heap.size 24 (.slice (some ⟨b, off, none⟩) zs.length cap) := hS2.2.1.kept hgrow (fun e => by have := hb5 _ e.symm; omega)
            have s3 : Boxed w5 (w.heap.size + 1) 24 (.slice none 0 0) := hS2.2.2.1.kept hgrow (fun e => by have := hb5 _ e.symm; omega)
            have s4 : Boxed w5 w1.heap.size 22 (.slice (some ⟨g, 0, none⟩) zs.length cap') := hS2.2.2.2.1.kept hgrow (fun e => by have := hb5 _ e.symm; omega)
            have s5 : w5.heap[D]? = some (.deferred (some [])) := (hgrow.block D (by have h := (Array.getElem?_eq_some_iff.1 hS2.2.2.2.2.1).1; exact h) (fun e => by have := hb5 _ e.symm; omega)).trans hS2.2.2.2.2.1
            have s6 : Below w.heap.size w w5 := hS2.2.2.2.2.2.1.grown hgrow hS2.2.2.2.2.2.1.size (fun j e => by have := hb5 j e; omega)
            have s7 : Kps (Band (fun b => b < W5.heap.size) W6.heap.size (W6.heap.size + 2 + 0)) W w5 := hS2.2.2.2.2.2.2.trans (Kps.grown hgrow (fun j e => Hbd.out j (hb5 j e)))
            have hsz5 : top2 ≤ w5.heap.size := Nat.le_trans hsW2 s7.size
            have cO5 := bO5.cell
            have fO5 := bO5.frozen
            clear hown' hgrow hfar hS1 hS2 hS0 hok hrow
            refine hK'.out _ _ ⟨s1, s2, s3, s4, s5, s6, s7⟩ fun hS3 => ?_
            refine wpAnyH_ready (rs := [8]) (by kernel_rfl) (by simp) ?_
            refine AllReadyH.cons rfl (fun K' hK' => ?_) AllReadyH.nil
            rw [if_pos (by rfl)]
            go_simp
            have t6 : OwnI top2 (w5.setCell ⟨W5.heap.size, 0, none⟩ (.slice av' (k + 1) cv')) (.slice av' (k + 1) cv') (gapsBy zs (ordTo zs zs.length) (k + 1)) := ho6.kept (grownBy_setCell2 _ _ _ _) (.inr (fun e => by have := (ho6.blk _ e).1; omega))
            have t1 : OwnI top (w5.setCell ⟨W5.heap.size, 0, none⟩ (.slice av' (k + 1) cv')) (.slice (some ⟨g, 0, none⟩) zs.length cap') (ordTo zs zs.length) := s1.kept (grownBy_setCell2 _ _ _ _) (.inr (by show some g ≠ some W5.heap.size; simp; omega))
            have t5 : (w5.setCell ⟨W5.heap.size, 0, none⟩ (.slice av' (k + 1) cv')).heap[D]? = some (.deferred (some [])) := ((grownBy_setCell2 w5 W5.heap.size 0 (.slice av' (k + 1) cv')).block D (Array.getElem?_eq_some_iff.1 s5).1 (by simp; omega)).trans s5
            have t7 : Kps (Band (fun b => b < W5.heap.size) W6.heap.size (W6.heap.size + 2 + 0)) W (w5.setCell ⟨W5.heap.size, 0, none⟩ (.slice av' (k + 1) cv')) := s7.trans (Kps.setCell _ _ _ _ (not_band (Nat.le_refl _) (by omega)))
            refine hK'.out _ _ ⟨t1, boxed_setFar s2 (by omega), boxed_setFar s3 (by omega), boxed_setFar s4 (by omega), t5, s6.setCell (p := ⟨W5.heap.size, 0, none⟩) (by show w.heap.size ≤ W5.heap.size; omega) _, t7⟩ fun hS4 => wpAnyH_done (by kernel_rfl) ?_ _
            exact ⟨t7, ⟨⟨_, bO5.set _, t6⟩, ⟨t1, hS4.2.1, hS4.2.2.1, hS4.2.2.2.1, t5⟩, hS4.2.2.2.2.2.1, .inr (by simpa using hsz5)⟩⟩
      case done2 =>
        rintro E W hE ⟨⟨v, bG1, ho1⟩, ⟨hoo, bT1, bQ1, bW1, hK1⟩, hB1, htp2⟩ hK2
        rw [Hlen.out] at ho1 htp2
        have htW2 : top2 ≤ W.heap.size := by omega
        obtain ⟨av, cv, ev⟩ := ho1.ints.shape
        rw [gapsBy_length] at ev
        subst ev
        have cG := bG1.cell
        have cW := bW1.cell
        have cQ := bQ1.cell
        have fQ := bQ1.frozen
        have hfw : Try.prog.follows Departure.mixedOrders = true := by kernel_rfl
        have hnDE : E ≠ D := by omega
        have hq5 : w.heap.size + 1 < top ∧ w.heap.size ≤ D ∧ w.heap.size ≤ E ∧ w.heap.size ≤ top ∧ w.heap.size ≤ top2 ∧ w.heap.size + 1 ≠ W5.heap.size ∧ w.heap.size + 1 ≠ w1.heap.size ∧ top ≤ top2 ∧ W5.heap.size < top2 := by have := Htop.out; omega
        clear htop2 Htop2
        gi_wp2
        refine wpIn_wide.2 (wp_region_noPanic (wp_region_held_drew (S := fun w' => Boxed w' W5.heap.size 22 (.slice av zs.length cv) ∧ Boxed w' w1.heap.size 22 (.slice (some ⟨g, 0, none⟩) zs.length cap')) hfw ⟨bG1, bW1⟩ ?_))
        intro hS0
        refine wpAnyH_take (i := 0) (v := ?vz0) rfl (by kernel_rfl) (by kernel_rfl) (by kernel_rfl) (fun _ _ _ h => h) (.inl ⟨by rfl, ?yz0⟩) hS0 ?_
        case yz0 =>
          intro w' hS
          (have k1 := hS.1.cell; have k2 := hS.2.cell; clear hS)
          go_simp
          try with_reducible rfl
        refine wpAnyH_take (i := 1) (v := ?vz1) rfl (by kernel_rfl) (by kernel_rfl) (by kernel_rfl) (fun _ _ _ h => h) (.inl ⟨by rfl, ?yz1⟩) hS0 ?_
        case yz1 =>
          intro w' hS
          (have k1 := hS.1.cell; have k2 := hS.2.cell; clear hS)
          go_simp
          try with_reducible rfl
        refine wpAnyH_take (i := 2) (v := ?vz2) rfl (by kernel_rfl) (by kernel_rfl) (by kernel_rfl) (fun _ _ _ h => h) (.inl ⟨by rfl, ?yz2⟩) hS0 ?_
        case yz2 =>
          intro w' hS
          (have k1 := hS.1.cell; have k2 := hS.2.cell; clear hS)
          go_simp
          try with_reducible rfl
        refine wpAnyH_ready (rs := [3]) (by kernel_rfl) (by simp) ?_
        refine AllReadyH.cons rfl (fun K' hK' => ?_) AllReadyH.nil
        rw [if_pos (by rfl)]
        go_simp
        refine hK'.out _ _ ⟨boxed_setFar hS0.1 (by omega), boxed_setFar hS0.2 (by omega)⟩ fun hS4 => ?_
        refine wpAnyH_take (i := 4) (v := ?vz4) rfl (by kernel_rfl) (by kernel_rfl) (by kernel_rfl) (fun _ _ _ h => h) (.inl ⟨by rfl, ?yz4⟩) hS4 ?_
        case yz4 =>
          intro w' hS
          (clear hS)
          go_simp
          try with_reducible rfl
        refine wpAnyH_take (i := 5) (v := ?vz5) rfl (by kernel_rfl) (by kernel_rfl) (by kernel_rfl) (fun _ _ _ h => h) (.inl ⟨by rfl, ?yz5⟩) hS4 ?_
        case yz5 =>
          intro w' hS
          (clear hS)
          go_simp
          try with_reducible rfl
        refine wpAnyH_done (by kernel_rfl) (NoPanic.normal ?_) _
        gi_wp2
        have e1 : (W.drew.setCell ⟨w.heap.size + 1, 0, none⟩ (.slice av zs.length cv)).heap[E]? = some (.deferred (some [])) := (KeepsOthers.setCell W.drew ⟨w.heap.size + 1, 0, none⟩ (.slice av zs.length cv)).same E _ hK2 rfl
        have e2 : (W.drew.setCell ⟨w.heap.size + 1, 0, none⟩ (.slice av zs.length cv)).heap[D]? = some (.deferred (some [])) := (KeepsOthers.setCell W.drew ⟨w.heap.size + 1, 0, none⟩ (.slice av zs.length cv)).same D _ hK1 rfl
        have e3 := (World.putObj_heap_other (w := W.drew.setCell ⟨w.heap.size + 1, 0, none⟩ (.slice av zs.length cv)) (o := .deferred none) hnDE.symm).trans e2
        have u1 := boxed_shut (boxed_shut ((show Boxed W.drew _ _ _ from bQ1).set (.slice av zs.length cv)) e1) e3
        have k1 : ((((W.setCell ⟨w.heap.size + 1, 0, none⟩ (.slice av zs.length cv)).drew).putObj E (.deferred none)).putObj D (.deferred none)).cell? ⟨w.heap.size + 1, 0, none⟩ = some (.slice av zs.length cv) := u1.cell
        have t1 : OwnI top2 (W.drew.setCell ⟨w.heap.size + 1, 0, none⟩ (.slice av zs.length cv)) (.slice av zs.length cv) (gapsBy zs (ordTo zs zs.length) zs.length) := OwnI.kept (World.ownsRow.drew ho1) (grownBy_setCell2 _ _ _ _) (.inr (fun e => by have := (ho1.blk _ e).1; omega))
        have t2 : OwnI top (W.drew.setCell ⟨w.heap.size + 1, 0, none⟩ (.slice av zs.length cv)) (.slice (some ⟨g, 0, none⟩) zs.length cap') (ordTo zs zs.length) := OwnI.kept (World.ownsRow.drew hoo) (grownBy_setCell2 _ _ _ _) (.inr (by show some g ≠ some (w.heap.size + 1); simp; omega))
        have hB9 : Below w.heap.size w (W.drew.setCell ⟨w.heap.size + 1, 0, none⟩ (.slice av zs.length cv)) := hB1.drew.setCell (p := ⟨w.heap.size + 1, 0, none⟩) (by show w.heap.size ≤ w.heap.size + 1; omega) _
        refine retM2 e1 e2 hnDE ⟨.tuple #[.agg #[.slice av zs.length cv], .slice (some ⟨g, 0, none⟩) zs.length cap', .int .i64 0], by simp [results, Try.f48, go_sem, k1], ?_⟩
        exact ⟨_, _, top2, by rw [Hc.out], by rw [Hg.out]; exact Seg.new ((t1.shut e1).shut e3), by rw [Ho.out]; exact ⟨((t2.base (by omega)).shut e1).shut e3, fun k e => by simp [Value.ownBlock] at e; omega, by simp [World.putObj, World.setCell]; omega⟩, by omega, below_shut (below_shut hB9 (by omega)) (by omega)⟩
      case stop2 =>
        rintro D c k W hD hk h
        exact h.elim
    case stop =>
      rintro D c k W hD hk h
      exact h.elim

theorem sortO_len (zs : List Int) : (sortO zs).length * 8 ≤ 140737488351232 := by
  unfold sortO; split
  · rename_i h; have := tasksOk_len h; rw [ordTo_length]; omega
  · simp
theorem sortG_len (zs : List Int) : (sortG zs).length * 8 ≤ 140737488351232 := by
  unfold sortG; split
  · rename_i h; have := tasksOk_len h; rw [gapsBy_length]; omega
  · simp

end Go.Proofs.Ytahleajedgehlaa
