/-
  KeepingChoices of the program.
  Conditions: lists of at most 1048576 elements.
-/
import Derived.Test.YthggpmgjgibcoaaKeep
namespace Go.Proofs.Ythggpmgjgibcoaa
open Go.RowKit Go.Shelf Go.Maps
attribute [local go_sem] Oper.semAt_some

noncomputable def keepC (zs st : List Int) : Int := if stCode zs st = 0 then lastCode zs st else stCode zs st
noncomputable def keepR (zs st : List Int) : List Int := if keepC zs st = 0 then keepL zs st else []
theorem keepC_ok {zs st : List Int} (h : keepC zs st = 0) : stCode zs st = 0 ∧ lastCode zs st = 0 := by
  unfold keepC at h
  by_cases h0 : stCode zs st = 0
  · rw [if_pos h0] at h; exact ⟨h0, h⟩
  · rw [if_neg h0] at h; exact absurd h h0
theorem keepC_bd (zs st : List Int) : 0 ≤ keepC zs st ∧ keepC zs st ≤ 5 := by
  have h1 := stCode_bd zs st
  have h2 := lastCode_bd zs st
  unfold keepC; split <;> omega
theorem keepN_length (zs st : List Int) (j : Nat) : (keepN zs st j).length ≤ j := by
  unfold keepN
  refine Nat.le_trans (List.length_filter_le _ _) ?_
  simp
theorem keepL_length {zs : List Int} (h : tasksOk zs = true) (st : List Int) : (keepL zs st).length ≤ 9 := by
  have := keepN_length zs st (zs.length + 1)
  have := (tasksOk_len h).2
  unfold keepL; omega
theorem keepN_yes {zs st : List Int} {j : Nat} (h : Kpc zs st ((j : Int) - 1)) : keepN zs st (j + 1) = keepN zs st j ++ [(j : Int) - 1] := by
  rw [keepN_succ, if_pos h]
theorem keepN_no {zs st : List Int} {j : Nat} (h : ¬ Kpc zs st ((j : Int) - 1)) : keepN zs st (j + 1) = keepN zs st j := by
  rw [keepN_succ, if_neg h, List.append_nil]

theorem keepR_len (zs st : List Int) : (keepR zs st).length * 8 ≤ 140737488351232 := by
  unfold keepR
  split
  · rename_i h
    have := keepL_length (stCode_zero (keepC_ok h).1).1 st
    omega
  · simp

theorem Good.kept2 {W W' : World} {gs : List Int} {bO m : Nat} {row : Option Nat} (h : Good W gs bO m) (hg : W.grownBy W' row) (h1 : some bO ≠ row) (h2 : some m ≠ row) : Good W' gs bO m := by
  obtain ⟨hO, B, K, hB, hM, hK⟩ := h
  exact ⟨hO.kept hg h1, B, K, hB, hM.kept hg h2, hK⟩
section
variable {F : Fence} {n : Nat} {P : Program}
theorem yield_roundW {l : Nat} {fn : FuncId} {tmps : Array Value} {ps : Array Tmp} {assign body : Code} {dd : Nat} {args : Array Value} {W : World} {R : Ending → World → Prop} (hfn : F.fn fn)
    (hl : W.heap[l]? = some (.loop (recOf fn tmps ps assign body dd .ready none))) (hps : args.size = ps.size) (a₁ : Act)
    (hassign : ∀ K : Act → World → Prop, K a₁ W → assign.wpIn (F.inRound l) n P (Exit.then K (fun _ _ _ => False)) { tmps := (ps.zip args).foldl (fun t (p, v) => t.setIfInBounds p v) tmps, defers := [] } W)
    (hbody : ∀ Wb, W.grownBy Wb (some l) → Wb.heap[l]? = some (.loop { recOf fn tmps ps assign body dd .ready none with state := .busy }) → body.wpIn (F.inRound l) n P (roundR l fn tmps ps assign body dd R) a₁ Wb) :
    YieldAt F n P l args W R :=
  yield_round hfn hl hps a₁ hassign (hbody _ (grownBy_putObj' W l _) (World.putObj_heap_same (Array.getElem?_eq_some_iff.1 hl).1))
end

set_option maxRecDepth 100000 in
set_option maxHeartbeats 8000000 in
theorem i_KeepingChoices (c0 : Value) (zs : List Int) (c1 : Value) (st : List Int) (w : World) (hI : Ints w.heap.size w c0 zs) (hN : I64s zs) (hm : zs.length ≤ 1048576) (hT : Ints w.heap.size w c1 st) (_hN1 : I64s st) (hm1 : st.length ≤ 1048576) :
    Calls Try.prog 46 #[.agg #[c0], c1] w (GivesI w (keepR zs st) fun v => .tuple #[v, .int .i64 (keepC zs st)]) := by
  obtain ⟨i0, hi, hz0, hz1, hz2⟩ := info_parts Try.infoI2
  obtain ⟨a, cap, rfl⟩ := hI.shape
  obtain ⟨a2, cap2, rfl⟩ := hT.shape
  have hB0 : Below w.heap.size w (w.alloc (.cells #[.slice a zs.length cap] 26)) := (Below.refl _ w).alloc (Nat.le_refl _) _
  by_cases h0 : stCode zs st = 0
  · obtain ⟨ht, hs⟩ := stCode_zero h0
    obtain ⟨hl8, hbd⟩ := bytes_st ht hs
    have H0 := Lib.hid h0
    by_cases hlc : lastCode zs st = 0
    · have Hl := Lib.hid hlc
      have Hk := Lib.hid (show keepC zs st = 0 by unfold keepC; rw [if_pos h0, hlc])
      have hkr : keepR zs st = keepL zs st := by unfold keepR; rw [if_pos Hk.out]
      have Hr := Lib.hid hkr
      clear h0 hlc hkr
      refine (callsIn_wide (n := 12)).1 ?_
      refine callsIn_of_wp_marks Try.func46 rfl trivial ?_ rfl
      simp only [Try.ntmps46, List.size_toArray, List.length_cons, List.length_nil, Nat.reduceAdd, Nat.reduceSub, Array.replicate_succ, Array.replicate_zero, List.push_toArray, List.append_toArray, List.nil_append, List.cons_append]
      gi_wp2_with fail
      refine ⟨trivial, (callsIn_wide.2 (checkStateFor_c _ zs _ st _ (hI.later hB0) hm (hT.later hB0) hm1)).mono ?_⟩
      rintro e w1 ⟨he, hb1⟩
      rw [H0.out] at he
      subst he
      have b1 : Boxed w1 w.heap.size 26 (.slice a zs.length cap) := boxed_later (Boxed.new _ _ _) hb1
      have k1 := b1.cell
      have hB1 := hB0.trans (hb1.mono hB0.size)
      gi_wp2_with fail
      refine ⟨trivial, (callsIn_wide.2 (checkLasting_c _ zs _ st _ (hI.later hB1) hN hm (hT.later hB1) H0.out)).mono ?_⟩
      rintro e w2 ⟨⟨_, bO, m, rfl, hG, hbo, hbm⟩ | ⟨hne, _⟩, hb2⟩
      · have hB2 := hB1.trans (hb2.mono hB1.size)
        have hw2 := hB2.size
        have hwm : w.heap.size ≤ bO ∧ w.heap.size ≤ m := ⟨Nat.le_trans hB1.size hbo, Nat.le_trans hB1.size hbm⟩
        have hlm : bO < w2.heap.size ∧ m < w2.heap.size := ⟨hG.1.lt, by obtain ⟨_, B, K, _, hM, _⟩ := hG; exact hM.lt⟩
        gi_wp2_with fail
        obtain ⟨W2, hW3⟩ : ∃ W2, (w2.alloc (.cells #[.slice none 0 0] 24)) = W2 := ⟨_, rfl⟩
        have hB3 : Below w2.heap.size w2 W2 := by rw [← hW3]; exact ((Below.refl _ w2).alloc (Nat.le_refl _) _)
        have hs3 : w2.heap.size + 1 ≤ W2.heap.size := by rw [← hW3]; simp
        have bC : Boxed W2 (w2.heap.size) 24 (.slice none 0 0) := by rw [← hW3]; repeat first | (refine boxed_at ?_; (simp; done)) | refine Boxed.alloc ?_ _
        rw [hW3]
        clear hW3
        have hG2 := hG.later hB3
        have hB3' := hB2.trans (hB3.mono hB2.size)
        refine ⟨trivial, (callsIn_wide.2 (taskStateOf_c _ st _ (hT.later hB3') hl8 hbd)).mono ?_⟩
        rintro e w4 ⟨rfl, hb4⟩
        have hB4 := hB3'.trans (hb4.mono hB3'.size)
        have hG4 := hG2.later hb4
        have bC4 := boxed_later bC hb4
        have hs4 := hb4.size
        gi_wp2_with fail
        refine ⟨trivial, (callsIn_wide.2 (keeping_c bO st w4)).mono ?_⟩
        rintro e w5 ⟨rfl, hw5⟩
        have hgn : Below w4.heap.size w4 w5 := by rw [hw5]; exact ((Below.refl _ w4).alloc (Nat.le_refl _) _).alloc (by simp) _
        have bB : Boxed w5 w4.heap.size 108 (.pointer (some ⟨bO, 0, none⟩)) := by rw [hw5]; exact (Boxed.new w4 _ _).alloc _
        have bA : Arr w5 (w4.heap.size + 1) st := by rw [hw5]; simpa using Arr.new (w4.alloc (.cells #[.pointer (some ⟨bO, 0, none⟩)] 108)) st
        have bC5 := boxed_later bC4 hgn
        have hG5 := hG4.later hgn
        have hB5 := hB4.trans (hgn.mono hB4.size)
        have hs5 : w4.heap.size + 2 ≤ w5.heap.size := by rw [hw5]; simp
        clear hw5 hgn hG4 bC4 hB4 hG2 bC hB3 hB3' hb4 hG b1 k1
        gi_wp2_with fail
        refine range_enter rfl (by omega) rfl trivial (enters_of Try.func174 (by kernel_rfl) rfl) ?_
        intro fn hfn
        obtain ⟨W0, hW0⟩ : ∃ W0 : Loop → World, ∀ rec, (w5.alloc (.deferred (some []))).alloc (.loop rec) = W0 rec := ⟨_, fun _ => rfl⟩
        have hDL : (w5.alloc (.deferred (some []))).heap.size = w5.heap.size + 1 := World.size_alloc _ _
        have hsz0 : ∀ rec, (W0 rec).heap.size = w5.heap.size + 2 := fun rec => by rw [← hW0]; simp
        have hE0 : ∀ rec, EnvK w4.heap.size (w4.heap.size + 1) bO m w5.heap.size (w5.heap.size + 1) zs st rec (W0 rec) := fun rec => by
          rw [← hW0]
          exact ⟨(bB.alloc _).alloc _, (bA.alloc _).alloc _, (hG5.alloc _).alloc _, (Below.heap_alloc _ _ _ (by simp)).trans (World.alloc_heap_new _ _), by have := World.alloc_heap_new (w5.alloc (.deferred (some []))) (.loop rec); rw [hDL] at this; exact this⟩
        have hbC0 : ∀ rec, Boxed (W0 rec) w2.heap.size 24 (.slice none 0 0) := fun rec => by rw [← hW0]; exact (bC5.alloc _).alloc _
        have hB0' : ∀ rec, Below w.heap.size w (W0 rec) := fun rec => by rw [← hW0]; exact (hB5.alloc (by omega) _).alloc (by simp; omega) _
        rw [hW0]
        clear hW0
        obtain ⟨top, htop⟩ : ∃ top, w5.heap.size + 2 = top := ⟨_, rfl⟩
        have ht1 : w5.heap.size + 1 < top ∧ w2.heap.size < top ∧ w4.heap.size + 2 < top ∧ w2.heap.size < w4.heap.size := by omega
        refine (keep_loop ht hs (fun j W => (∃ v, Boxed W w2.heap.size 24 v ∧ OwnI top W v (keepN zs st j)) ∧ Below w.heap.size w W ∧ top ≤ W.heap.size) (fun _ => False) ?hmove ?hskip ?hround (hE0 _) ⟨⟨_, hbC0 _, ownI_nil _ _⟩, hB0' _, by rw [hsz0]; omega⟩).mono ?post
        case hmove =>
          rintro j W W' ⟨⟨v, bW, ho⟩, hB, hsW⟩ _ hg
          exact ⟨⟨v, bW.kept hg (by simp; omega), ho.kept hg (.inr fun e => by have := (ho.blk m e).1; omega)⟩, hB.grown hg (by omega) (fun j e => by cases e; omega), Nat.le_trans hsW hg.size⟩
        case hskip =>
          rintro j W hk ⟨⟨v, bW, ho⟩, hr⟩
          exact ⟨⟨v, bW, by rw [keepN_no hk]; exact ho⟩, hr⟩
        case hround =>
          rintro j W hj hk hE ⟨⟨v, bW, ho⟩, hB, hsW⟩
          refine yield_roundW trivial hE.rec_ rfl ?a1 ?assign ?body
          case assign =>
            intro K0 hK0
            go_simp
            gi_wp2
            exact hK0
          case body =>
            intro Wb hgb hbusy
            have bWb := bW.kept hgb (by simp; omega)
            have hob := ho.kept hgb (.inr fun e => by have := (ho.blk _ e).1; omega)
            have hEb : Boxed Wb w4.heap.size 108 (.pointer (some ⟨bO, 0, none⟩)) ∧ Arr Wb (w4.heap.size + 1) st ∧ Good Wb zs bO m ∧ Wb.heap[w5.heap.size]? = some (.deferred (some [])) := by
              have hml := hE.good.2
              exact ⟨hE.o.kept hgb (by simp; omega), hE.s.kept hgb (by simp; omega), hE.good.kept2 hgb (by simp; omega) (by simp; omega), (hgb.block _ (Array.getElem?_eq_some_iff.1 hE.def_).1 (by simp)).trans hE.def_⟩
            have hBb : Below w.heap.size w Wb := hB.grown hgb (by omega) (fun j e => by cases e; omega)
            have hsb := hgb.size
            have hsb2 : top ≤ Wb.heap.size := by omega
            have hj9 : j < 9 := by have := (tasksOk_len ht).2; omega
            have hkl := keepN_length zs st j
            have hdb : (keepN zs st j).length ≤ 1048576 := by omega
            have Hup := Lib.hid (keepN_yes hk)
            have Hbusy := Lib.hid hbusy
            have cW := bWb.cell
            have fW := bWb.frozen
            clear hE hgb hbusy bW ho hB hsW hE0 hbC0 hB0' hsz0 bB bA bC5 hG5 hB5 hkl hsb htop hDL
            gi_wp2_with (gi_at_builtin; refine wpListIn_append_own _ rfl _ _ 24 rfl top 2 i0 (.int .i64 0) 1 8 Try.underlying24 hi hz0 hz1 hz2 rfl (by decide) _ _ _ rfl (World.ownsRow.alloc hob _) ⟨Wb.heap.size, 0, none⟩ 1 1 [.int .i64 ((j : Int) - 1)] rfl rfl (Go.cell_one_new _ _ _) (by simp [Value.oneCell']) (by unfold maxLen; omega) (by omega) (by simp; omega) ?_)
            intro v' w6 hown' hgrow _
            have ho2 := ownI_snoc hown'
            rw [← Hup.out] at ho2
            obtain ⟨g', cap', rfl, hg1, hg2⟩ := ho2.shape (by rw [Hup.out]; simp)
            obtain ⟨r1, r2, r3, r4⟩ := appended bWb (by omega) hob ho2 hgrow
            have c1 := r1.cell
            have f1 := r1.frozen
            clear hown' hgrow cW fW
            gi_wp2
            obtain ⟨Wf, hWf⟩ : ∃ Wf, w6.setCell ⟨w2.heap.size, 0, none⟩ (.slice (some ⟨g', 0, none⟩) (keepN zs st (j + 1)).length cap') = Wf := ⟨_, rfl⟩
            rw [hWf] at r2 r3 r4 ⊢
            clear hWf
            have hbl : Below w2.heap.size Wb Wf := ⟨r4.os, r4.tape, r4.output, r4.size, fun k hk => r4.same k (by omega) (by omega)⟩
            have hG6 := hEb.2.2.1.below hbl (by omega) (by omega)
            have o6 : Boxed Wf w4.heap.size _ _ := r4.boxed (by omega) hEb.1
            have s6 : Arr Wf (w4.heap.size + 1) st := (r4.same _ (by omega) (by omega)).trans hEb.2.1
            have d6 : Wf.heap[w5.heap.size]? = some (.deferred (some [])) := (r4.same _ (by omega) (by omega)).trans hEb.2.2.2
            have l6 := (r4.same (w5.heap.size + 1) (by omega) (by omega)).trans Hbusy.out
            have hs6 := r4.size
            have hBf := hBb.trans (hbl.mono (by omega))
            refine ⟨l6, rfl, ?_⟩
            have hlt := (Array.getElem?_eq_some_iff.1 l6).1
            refine ⟨⟨o6.kept (grownBy_putObj' Wf _ _) (by simp; omega), s6.kept (grownBy_putObj' Wf _ _) (by simp; omega), hG6.kept2 (grownBy_putObj' Wf _ _) (by simp; omega) (by simp; omega), ((grownBy_putObj' Wf (w5.heap.size + 1) _).block _ (by omega) (by simp)).trans d6, World.putObj_heap_same hlt⟩, ⟨⟨_, r2.kept (grownBy_putObj' Wf _ _) (by simp; omega), r3.kept (grownBy_putObj' Wf _ _) (.inr fun e => by have := (r3.blk _ e).1; omega)⟩, hBf.grown (grownBy_putObj' Wf _ _) (by omega) (fun j e => by cases e; omega), by simp [World.putObj]; omega⟩⟩
        case post =>
          rintro e W' ⟨⟨v, rfl⟩, ⟨hE, ⟨v, bW, ho⟩, hB, hsW⟩ | hx⟩
          · refine range_done2 hE.rec_ fun Wx hg => ?_
            have bWx := bW.kept hg (by simp; omega)
            have hox := ho.kept hg (.inr fun e => by have := (ho.blk _ e).1; omega)
            have hDx := (hg.block _ (Array.getElem?_eq_some_iff.1 hE.def_).1 (by simp)).trans hE.def_
            have hBx : Below w.heap.size w Wx := hB.grown hg (by omega) (fun j e => by cases e; omega)
            obtain ⟨g, cap', rfl⟩ := hox.ints.shape
            have cW := bWx.cell
            clear hE hg bW ho hB hsW hE0 hbC0 hB0' hsz0 bB bA bC5 hG5 hB5
            gi_wp2
            refine retM1 hDx ⟨_, results_tmp2 rfl _ _ _, ?_⟩
            refine ⟨.slice g (keepN zs st (zs.length + 1)).length cap', by rw [Hk.out]; rfl, by rw [Hr.out]; exact (hox.base (by omega)).shut hDx, below_shut hBx (by omega)⟩
          · exact hx.elim
      · exact absurd Hl.out hne
    · have hne : keepC zs st = lastCode zs st := by unfold keepC; rw [if_pos h0]
      have hr : keepR zs st = [] := by unfold keepR; rw [hne, if_neg hlc]
      have Hk := Lib.hid hne
      have Hr := Lib.hid hr
      have Hn := Lib.hid hlc
      have hq : (lastCode zs st != 0) = true := by simpa using hlc
      have hp := lastCode_bd zs st
      clear h0 hlc hne hr
      go_enter Try.func46, Try.ntmps46
      go_wp2_with fail
      refine (checkStateFor_c _ zs _ st _ (hI.later hB0) hm (hT.later hB0) hm1).mono ?_
      rintro e w1 ⟨he, hb1⟩
      rw [H0.out] at he
      subst he
      have b1 : Boxed w1 w.heap.size 26 (.slice a zs.length cap) := boxed_later (Boxed.new _ _ _) hb1
      have k1 := b1.cell
      have hB1 := hB0.trans (hb1.mono hB0.size)
      go_wp2_with fail
      refine (checkLasting_c _ zs _ st _ (hI.later hB1) hN hm (hT.later hB1) H0.out).mono ?_
      rintro e w2 ⟨⟨h5, _⟩ | ⟨_, rfl⟩, hb2⟩
      · exact absurd h5 Hn.out
      · go_wp2
        go_ret2
        exact ⟨.slice none 0 0, by rw [Hk.out]; rfl, by rw [Hr.out]; exact ownI_nil _ _, hB1.trans (hb2.mono hB1.size)⟩
  · have hne : keepC zs st = stCode zs st := by unfold keepC; rw [if_neg h0]
    have hr : keepR zs st = [] := by unfold keepR; rw [hne, if_neg h0]
    have Hk := Lib.hid hne
    have Hr := Lib.hid hr
    have hq : (stCode zs st != 0) = true := by simpa using h0
    have hp := stCode_bd zs st
    clear h0 hne hr
    go_enter Try.func46, Try.ntmps46
    go_wp2_with fail
    refine (checkStateFor_c _ zs _ st _ (hI.later hB0) hm (hT.later hB0) hm1).mono ?_
    rintro e w1 ⟨rfl, hb1⟩
    go_wp2
    go_ret2
    exact ⟨.slice none 0 0, by rw [Hk.out]; rfl, by rw [Hr.out]; exact ownI_nil _ _, hB0.trans (hb1.mono hB0.size)⟩

end Go.Proofs.Ythggpmgjgibcoaa
