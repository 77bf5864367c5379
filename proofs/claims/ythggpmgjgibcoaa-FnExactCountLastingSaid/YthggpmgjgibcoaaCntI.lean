/-
  CountLasting of the program.
  Conditions: lists of at most 1048576 elements.
-/
import Derived.Test.YthggpmgjgibcoaaItb
import Derived.Test.YthggpmgjgibcoaaKeepI
namespace Go.Proofs.Ythggpmgjgibcoaa
open Go.RowKit Go.Shelf Go.Maps
attribute [local go_sem] Oper.semAt_some

open Classical in
/-- how many of the first j states are lasting -/
noncomputable def lastTo (gs : List Int) (j : Nat) : Nat := (List.range j).countP fun i => decide (Lasting gs (ofR gs i))
theorem lastTo_yes {gs : List Int} {j : Nat} (h : Lasting gs (ofR gs j)) : lastTo gs (j + 1) = lastTo gs j + 1 := by simp [lastTo, List.range_succ, h]
theorem lastTo_no {gs : List Int} {j : Nat} (h : ¬ Lasting gs (ofR gs j)) : lastTo gs (j + 1) = lastTo gs j := by simp [lastTo, List.range_succ, h]
theorem lastTo_le (gs : List Int) (j : Nat) : lastTo gs j ≤ j := by
  have := List.countP_le_length (p := fun i => (open Classical in decide (Lasting gs (ofR gs i)))) (l := List.range j)
  simpa [lastTo] using this
noncomputable def cntLR (zs : List Int) : Int := if fewC zs = 0 then (lastTo zs (cntN zs) : Int) else 0

section
variable {F : Fence} {n : Nat} {P : Program}
/-- one round whose assignments turn the world -/
theorem yield_roundV {l : Nat} {fn : FuncId} {tmps : Array Value} {ps : Array Tmp} {assign body : Code} {dd : Nat} {args : Array Value} {W W1 : World} {R : Ending → World → Prop} (hfn : F.fn fn)
    (hl : W.heap[l]? = some (.loop (recOf fn tmps ps assign body dd .ready none))) (hl1 : W1.heap[l]? = some (.loop (recOf fn tmps ps assign body dd .ready none))) (hps : args.size = ps.size) (a₁ : Act)
    (hassign : ∀ K : Act → World → Prop, K a₁ W1 → assign.wpIn (F.inRound l) n P (Exit.then K (fun _ _ _ => False)) { tmps := (ps.zip args).foldl (fun t (p, v) => t.setIfInBounds p v) tmps, defers := [] } W)
    (hbody : ∀ Wb, W1.grownBy Wb (some l) → Wb.heap[l]? = some (.loop { recOf fn tmps ps assign body dd .ready none with state := .busy }) → body.wpIn (F.inRound l) n P (roundR l fn tmps ps assign body dd R) a₁ Wb) :
    YieldAt F n P l args W R := by
  have hy := run_yield (P := P) (args := args) hl hps
  refine ⟨fn, _, assign, body, hy, roundIn_of_wpIn hfn (hassign _ ⟨_, run_beginRound hl1 rfl, wpIn_mono (hbody _ (grownBy_putObj' W1 l _) (World.putObj_heap_same (Array.getElem?_eq_some_iff.1 hl1).1)) ?_⟩)⟩
  rintro e a3 W3 hp
  cases e with
  | normal => exact ⟨_, _, run_endRound (P := P) none hp.1, hp.2⟩
  | ret => exact ⟨_, _, run_endRound (P := P) (some .ret) hp.1, hp.2⟩
  | exit id => exact ⟨_, _, run_endRound (P := P) (some (.exit id)) hp.1, hp.2⟩
  | goto t => exact ⟨_, _, run_endRound (P := P) (some (.goto t)) hp.1, hp.2⟩
  | panic ch => exact hp.elim
  | outgrown => exact hp.elim
end

set_option maxRecDepth 100000 in
set_option maxHeartbeats 8000000 in
open Classical in
theorem i_CountLasting (c0 : Value) (zs : List Int) (w : World) (hI : Ints w.heap.size w c0 zs) (hN : I64s zs) (hm : zs.length ≤ 1048576) :
    Calls Try.prog 56 #[.agg #[c0]] w fun e w' => e = .returned (.tuple #[.int .i64 (cntLR zs), .int .i64 (fewC zs)]) ∧ Below w.heap.size w w' := by
  obtain ⟨a, cap, rfl⟩ := hI.shape
  have hB0 : Below w.heap.size w (w.alloc (.cells #[.slice a zs.length cap] 26)) := (Below.refl _ w).alloc (Nat.le_refl _) _
  by_cases hc : fewC zs = 0
  · obtain ⟨ht, h4⟩ := fewC_ok hc
    have hp := pos_of ht
    have hcn := cntL_cntN hp
    have hcN : cntN zs ≤ 4000 := by omega
    have Hc := Lib.hid hc
    have Hr := Lib.hid (show cntLR zs = (lastTo zs (cntN zs) : Int) by unfold cntLR; rw [if_pos hc])
    clear hc hcn
    refine (callsIn_wide (n := 12)).1 ?_
    refine callsIn_of_wp_marks Try.func56 rfl trivial ?_ rfl
    simp only [Try.ntmps56, List.size_toArray, List.length_cons, List.length_nil, Nat.reduceAdd, Nat.reduceSub, Array.replicate_succ, Array.replicate_zero, List.push_toArray, List.append_toArray, List.nil_append, List.cons_append]
    gi_wp2_with fail
    refine ⟨trivial, (callsIn_wide.2 (checkStatesOf_c _ zs _ (hI.later hB0) hN hm)).mono ?_⟩
    rintro e w1 ⟨he, hb⟩
    rw [Hc.out] at he
    subst he
    have b1 : Boxed w1 w.heap.size 26 (.slice a zs.length cap) := boxed_later (Boxed.new _ _ _) hb
    have k1 := b1.cell
    have hB1 := hB0.trans (hb.mono hB0.size)
    clear hb
    gi_wp2_with fail
    refine ⟨trivial, (callsIn_wide.2 (outlookOf_c _ zs _ (hI.later hB1) ht)).mono ?_⟩
    rintro e w2 ⟨bO, m, rfl, hO, hM, hbo, hbm, hb⟩
    have hB2 := hB1.trans (hb.mono hB1.size)
    have hG := Good.new ht hO hM
    have hw2 := hB2.size
    have hw1 := hB1.size
    have hlm : bO < w2.heap.size ∧ m < w2.heap.size := ⟨hG.1.lt, by obtain ⟨_, B, K, _, hM, _⟩ := hG; exact hM.lt⟩
    clear hb b1 k1 hO hM
    gi_wp2_with fail
    obtain ⟨W2, hW3⟩ : ∃ W2, ((w2.alloc (.cells #[.pointer (some ⟨bO, 0, none⟩)] 108)).alloc (.cells #[.int .i64 0] 2)) = W2 := ⟨_, rfl⟩
    have hB3 : Below w2.heap.size w2 W2 := by rw [← hW3]; exact (((Below.refl _ w2).alloc (Nat.le_refl _) _).alloc (by simp; try omega) _)
    have hs3 : w2.heap.size + 2 ≤ W2.heap.size := by rw [← hW3]; simp
    have bo : Boxed W2 (w2.heap.size) 108 (.pointer (some ⟨bO, 0, none⟩)) := by rw [← hW3]; repeat first | (refine boxed_at ?_; (simp; done)) | refine Boxed.alloc ?_ _
    have bC : Boxed W2 (w2.heap.size + 1) 2 (.int .i64 0) := by rw [← hW3]; repeat first | (refine boxed_at ?_; (simp; done)) | refine Boxed.alloc ?_ _
    rw [hW3]
    clear hW3
    have hG2 := hG.later hB3
    have hB3' := hB2.trans (hB3.mono hB2.size)
    refine ⟨trivial, (callsIn_wide.2 (states_c bO W2)).mono ?_⟩
    rintro e w3 ⟨rfl, hw3⟩
    have hgn : Below W2.heap.size W2 w3 := by rw [hw3]; exact (Below.refl _ W2).alloc (Nat.le_refl _) _
    have bB : Boxed w3 W2.heap.size 108 (.pointer (some ⟨bO, 0, none⟩)) := by rw [hw3]; exact Boxed.new W2 _ _
    have bo3 := boxed_later bo hgn
    have bC3 := boxed_later bC hgn
    have hG3 := hG2.later hgn
    have hB4 := hB3'.trans (hgn.mono hB3'.size)
    have hs4 : W2.heap.size + 1 ≤ w3.heap.size := by rw [hw3]; simp
    clear hw3 hgn hG2 bo bC hB3 hB3' hG
    gi_wp2_with fail
    refine range_enter rfl (by omega) rfl trivial (enters_of Try.func176 (by kernel_rfl) rfl) ?_
    intro fn hfn
    obtain ⟨W0, hW0⟩ : ∃ W0 : Loop → World, ∀ rec, (w3.alloc (.deferred (some []))).alloc (.loop rec) = W0 rec := ⟨_, fun _ => rfl⟩
    have hDL : (w3.alloc (.deferred (some []))).heap.size = w3.heap.size + 1 := World.size_alloc _ _
    have hsz0 : ∀ rec, (W0 rec).heap.size = w3.heap.size + 2 := fun rec => by rw [← hW0]; simp
    have hE0 : ∀ rec, Boxed (W0 rec) W2.heap.size 108 (.pointer (some ⟨bO, 0, none⟩)) ∧ Boxed (W0 rec) w2.heap.size 108 (.pointer (some ⟨bO, 0, none⟩)) ∧ Boxed (W0 rec) (w2.heap.size + 1) 2 (.int .i64 0) ∧ Good (W0 rec) zs bO m ∧ (W0 rec).heap[w3.heap.size]? = some (.deferred (some [])) ∧ (W0 rec).heap[w3.heap.size + 1]? = some (.loop rec) ∧ Below w.heap.size w (W0 rec) := fun rec => by
      rw [← hW0]
      exact ⟨(bB.alloc _).alloc _, (bo3.alloc _).alloc _, (bC3.alloc _).alloc _, (hG3.alloc _).alloc _, (Below.heap_alloc _ _ _ (by simp)).trans (World.alloc_heap_new _ _), by have := World.alloc_heap_new (w3.alloc (.deferred (some []))) (.loop rec); rw [hDL] at this; exact this, (hB4.alloc (by omega) _).alloc (by simp; omega) _⟩
    rw [hW0]
    clear hW0 hDL bB bo3 bC3 hG3 hB4
    have hts : w2.heap.size + 2 ≤ W2.heap.size := by omega
    refine (states1_at 11 (w3.heap.size + 1) W2.heap.size bO m zs _ ht
      (fun j A => Boxed A W2.heap.size 108 (.pointer (some ⟨bO, 0, none⟩)) ∧ Boxed A w2.heap.size 108 (.pointer (some ⟨bO, 0, none⟩)) ∧ Boxed A (w2.heap.size + 1) 2 (.int .i64 (lastTo zs j : Int)) ∧ Good A zs bO m ∧ A.heap[w3.heap.size]? = some (.deferred (some [])) ∧ A.heap[w3.heap.size + 1]? = some (.loop _) ∧ Below w.heap.size w A)
      (fun _ => False) ?hInv ?hgrow ?hyield (by simpa [lastTo] using hE0 _)).mono ?post
    case hInv => exact fun j A h => ⟨h.1, h.2.2.2.1.1⟩
    case hgrow =>
      rintro j A B row ⟨h1, h2, h3, h5, h6, h7, h8⟩ hg hr
      have ne : ∀ q, q < w3.heap.size + 2 → some q ≠ row := fun q hq e => by have := hr q e.symm; rw [hsz0] at this; omega
      exact ⟨h1.kept hg (ne _ (by omega)), h2.kept hg (ne _ (by omega)), h3.kept hg (ne _ (by omega)), h5.kept2 hg (ne _ (by omega)) (ne _ (by omega)), (hg.block _ (Array.getElem?_eq_some_iff.1 h6).1 (ne _ (by omega))).trans h6, (hg.block _ (Array.getElem?_eq_some_iff.1 h7).1 (ne _ (by omega))).trans h7, h8.grown hg h8.size (fun q e => by have := hr q e; rw [hsz0] at this; omega)⟩
    case hyield =>
      rintro j A hj ⟨h1, h2, h3, h5, h6, h7, h8⟩ hsA
      rw [hsz0] at hsA ⊢
      obtain ⟨A1, hA1⟩ : ∃ A1, A.alloc (.cells #[.int .u8 0, .int .u8 0, .int .u8 0, .int .u8 0, .int .u8 0, .int .u8 0, .int .u8 0, .int .u8 0] 115) = A1 := ⟨_, rfl⟩
      have bS : Arr A1 A.heap.size [] := by rw [← hA1]; exact Arr.new A []
      have hgA : A.grownBy A1 none := by rw [← hA1]; exact World.grownBy_alloc _ _ _
      have HH := Lib.hid (And.intro h1 (And.intro h2 (And.intro h3 (And.intro h5 (And.intro h6 (And.intro h7 h8))))))
      have cA0 := bS.cell (i := 0) (by omega)
      have cA1 := bS.cell (i := 1) (by omega)
      have cA2 := bS.cell (i := 2) (by omega)
      have cA3 := bS.cell (i := 3) (by omega)
      have cA4 := bS.cell (i := 4) (by omega)
      have cA5 := bS.cell (i := 5) (by omega)
      have cA6 := bS.cell (i := 6) (by omega)
      have cA7 := bS.cell (i := 7) (by omega)
      have fA0 := bS.frozen 0
      have fA1 := bS.frozen 1
      have fA2 := bS.frozen 2
      have fA3 := bS.frozen 3
      have fA4 := bS.frozen 4
      have fA5 := bS.frozen 5
      have fA6 := bS.frozen 6
      have fA7 := bS.frozen 7
      have hL1 : (store8 A1 A.heap.size (ofR zs j)).heap[w3.heap.size + 1]? = some (.loop _) :=
        (((grownBy_set8 A1 A.heap.size (ofR zs j)).block _ (by have := (Array.getElem?_eq_some_iff.1 h7).1; have := hgA.size; omega) (fun e => by have := Option.some.inj e; have := (Array.getElem?_eq_some_iff.1 h7).1; omega)).trans (hgA.block _ (Array.getElem?_eq_some_iff.1 h7).1 (by simp))).trans h7
      have HL1 := Lib.hid hL1
      have h7' := Lib.hid h7
      clear h1 h2 h3 h5 h6 h7 h8 hL1
      refine yield_roundV (W1 := store8 A1 A.heap.size (ofR zs j)) trivial h7'.out HL1.out rfl ?a1 ?assign ?body
      case assign =>
        intro K0 hK0
        unfold arrV cells8
        go_simp
        gi_wp2
        exact hK0
      case body =>
        obtain ⟨h1, h2, h3, h5, h6, h7, h8⟩ := HH.out
        have es0 := hgA.size
        obtain ⟨W1, hW1⟩ : ∃ W1, store8 A1 A.heap.size (ofR zs j) = W1 := ⟨_, rfl⟩
        have hg2 : A1.grownBy W1 (some A.heap.size) := by rw [← hW1]; exact grownBy_set8 _ _ _
        have bS1 : Arr W1 A.heap.size (ofR zs j) := by rw [← hW1]; exact Arr.stored8 _ bS
        have ne0 : ∀ q, q < A.heap.size → some q ≠ some A.heap.size := fun q hq e => by have := Option.some.inj e; omega
        have l6 := (Array.getElem?_eq_some_iff.1 h6).1
        have e1 := (h1.kept hgA (by simp)).kept hg2 (ne0 _ h1.lt)
        have e2 := (h2.kept hgA (by simp)).kept hg2 (ne0 _ h2.lt)
        have e3 := (h3.kept hgA (by simp)).kept hg2 (ne0 _ h3.lt)
        have e5 := (h5.kept2 hgA (by simp) (by simp)).kept2 hg2 (ne0 _ (by omega)) (ne0 _ (by omega))
        have e6 := ((hg2.block _ (by omega) (ne0 _ l6)).trans (hgA.block _ l6 (by simp))).trans h6
        have e8 : Below w.heap.size w W1 := (h8.grown hgA h8.size (by simp)).grown hg2 (by have := h8.size; omega) (fun q e => by cases e; exact h8.size)
        have et := (hg2.block (w3.heap.size + 2) (by omega) (ne0 _ (by omega))).trans (hgA.block _ hsA (by simp))
        have es1 := hg2.size
        rw [hW1]
        intro Wb hgb hbusy
        have ne : ∀ q, q ≠ w3.heap.size + 1 → some q ≠ some (w3.heap.size + 1) := fun q hq e => hq (Option.some.inj e)
        have k1 := e1.kept hgb (ne _ (by omega))
        have k2 := e2.kept hgb (ne _ (by omega))
        have k3 := e3.kept hgb (ne _ (by omega))
        have k5 := e5.kept2 hgb (ne _ (by omega)) (ne _ (by omega))
        have k6 := (hgb.block _ (Array.getElem?_eq_some_iff.1 e6).1 (ne _ (by omega))).trans e6
        have k8 := e8.grown hgb e8.size (fun q e => by cases e; omega)
        have kt := (hgb.block (w3.heap.size + 2) (by omega) (ne _ (by omega))).trans et
        have kS := bS1.kept hgb (ne _ (by omega))
        have hsz := hgb.size
        have Hbusy := Lib.hid hbusy
        have c2 := k2.cell
        have hst := isSt_ofR hp j
        have H6 := Lib.hid k6
        have Ht := Lib.hid kt
        clear et e6 hW1 hbusy k6 kt h6 h7 h1 h2 h3 h5 h8 e1 e2 e3 e5 e8 hA1 bS hg2 bS1 cA0 cA1 cA2 cA3 cA4 cA5 cA6 cA7 fA0 fA1 fA2 fA3 fA4 fA5 fA6 fA7
        have cS0 := kS.cell (i := 0) (by omega)
        have cS1 := kS.cell (i := 1) (by omega)
        have cS2 := kS.cell (i := 2) (by omega)
        have cS3 := kS.cell (i := 3) (by omega)
        have cS4 := kS.cell (i := 4) (by omega)
        have cS5 := kS.cell (i := 5) (by omega)
        have cS6 := kS.cell (i := 6) (by omega)
        have cS7 := kS.cell (i := 7) (by omega)
        gi_wp2_with fail
        refine ⟨trivial, (callsIn_wide.2 (lasts_good ht k5 hst)).mono ?_⟩
        rintro e W5 ⟨he, hG5, hg5⟩
        have nm : ∀ q, q ≠ m → some q ≠ some m := fun q hq e => hq (Option.some.inj e)
        have r1 := k1.kept hg5 (nm _ (by omega))
        have r2 := k2.kept hg5 (nm _ (by omega))
        have r3 := k3.kept hg5 (nm _ (by omega))
        have r6 := Lib.hid ((hg5.block _ (Array.getElem?_eq_some_iff.1 H6.out).1 (nm _ (by omega))).trans H6.out)
        have r7 := Lib.hid ((hg5.block _ (Array.getElem?_eq_some_iff.1 Hbusy.out).1 (nm _ (by omega))).trans Hbusy.out)
        have r8 : Below w.heap.size w W5 := k8.grown hg5 k8.size (fun q e => by cases e; omega)
        have rt := Lib.hid ((hg5.block (w3.heap.size + 2) (by omega) (nm _ (by omega))).trans Ht.out)
        have rs := hg5.size
        have l7 := (Array.getElem?_eq_some_iff.1 r7.out).1
        have cC := r3.cell
        have fC := r3.frozen
        have hle := lastTo_le zs j
        clear cS0 cS1 cS2 cS3 cS4 cS5 cS6 cS7 k1 k2 k3 k5 k8 kS c2 H6 Hbusy Ht
        by_cases hl : Lasting zs (ofR zs j)
        · rw [decide_eq_true hl] at he
          subst he
          have Hls := Lib.hid (lastTo_yes hl)
          have hwr : IntKind.i64.wrap ((lastTo zs j : Int) + 1) = (lastTo zs j : Int) + 1 := by rw [IntKind.wrap_i64]; omega
          clear hl
          gi_wp2_with fail
          have gC := grownBy_setCell2 W5 (w2.heap.size + 1) 0 (.int .i64 ((lastTo zs j : Int) + 1))
          have nC : ∀ q, q ≠ w2.heap.size + 1 → some q ≠ some (w2.heap.size + 1) := fun q hq e => hq (Option.some.inj e)
          have x1 := r1.kept gC (nC _ (by omega))
          have x2 := r2.kept gC (nC _ (by omega))
          have x3 := r3.set (.int .i64 ((lastTo zs j : Int) + 1))
          have x5 := hG5.kept2 gC (nC _ (by omega)) (nC _ (by omega))
          have x6 := (gC.block _ (Array.getElem?_eq_some_iff.1 r6.out).1 (nC _ (by omega))).trans r6.out
          have x7 := (gC.block _ (Array.getElem?_eq_some_iff.1 r7.out).1 (nC _ (by omega))).trans r7.out
          have x8 : Below w.heap.size w _ := r8.grown gC r8.size (fun q e => by cases e; omega)
          have xt := (gC.block (w3.heap.size + 2) (by omega) (nC _ (by omega))).trans rt.out
          have xs : A.heap.size ≤ _ := Nat.le_trans (by omega) gC.size
          refine ⟨x7, ?_⟩
          have gR := fun o => grownBy_putObj' (W5.setCell ⟨w2.heap.size + 1, 0, none⟩ (.int .i64 ((lastTo zs j : Int) + 1))) (w3.heap.size + 1) o
          have nL : ∀ q, q ≠ w3.heap.size + 1 → some q ≠ some (w3.heap.size + 1) := fun q hq e => hq (Option.some.inj e)
          first
            | refine .inl ⟨rfl, ⟨x1.kept (gR _) (nL _ (by omega)), x2.kept (gR _) (nL _ (by omega)), ?_, x5.kept2 (gR _) (nL _ (by omega)) (nL _ (by omega)), ((gR _).block _ (Array.getElem?_eq_some_iff.1 x6).1 (nL _ (by omega))).trans x6, World.putObj_heap_same (Array.getElem?_eq_some_iff.1 x7).1, x8.grown (gR _) x8.size (fun q e => by cases e; omega)⟩, Nat.le_trans xs (gR _).size, ((gR _).block _ (by omega) (nL _ (by omega))).trans xt⟩
            | refine ⟨rfl, ⟨x1.kept (gR _) (nL _ (by omega)), x2.kept (gR _) (nL _ (by omega)), ?_, x5.kept2 (gR _) (nL _ (by omega)) (nL _ (by omega)), ((gR _).block _ (Array.getElem?_eq_some_iff.1 x6).1 (nL _ (by omega))).trans x6, World.putObj_heap_same (Array.getElem?_eq_some_iff.1 x7).1, x8.grown (gR _) x8.size (fun q e => by cases e; omega)⟩, Nat.le_trans xs (gR _).size, ((gR _).block _ (by omega) (nL _ (by omega))).trans xt⟩
          rw [Hls.out]
          exact x3.kept (gR _) (nL _ (by omega))
        · rw [decide_eq_false hl] at he
          subst he
          have Hls := Lib.hid (lastTo_no hl)
          clear hl
          gi_wp2_with fail
          have x1 := r1
          have x2 := r2
          have x3 := r3
          have x5 := hG5
          have x6 := r6.out
          have x7 := r7.out
          have x8 := r8
          have xt := rt.out
          have xs : A.heap.size ≤ W5.heap.size := by omega
          refine ⟨x7, ?_⟩
          have gR := fun o => grownBy_putObj' W5 (w3.heap.size + 1) o
          have nL : ∀ q, q ≠ w3.heap.size + 1 → some q ≠ some (w3.heap.size + 1) := fun q hq e => hq (Option.some.inj e)
          first
            | refine .inl ⟨rfl, ⟨x1.kept (gR _) (nL _ (by omega)), x2.kept (gR _) (nL _ (by omega)), ?_, x5.kept2 (gR _) (nL _ (by omega)) (nL _ (by omega)), ((gR _).block _ (Array.getElem?_eq_some_iff.1 x6).1 (nL _ (by omega))).trans x6, World.putObj_heap_same (Array.getElem?_eq_some_iff.1 x7).1, x8.grown (gR _) x8.size (fun q e => by cases e; omega)⟩, Nat.le_trans xs (gR _).size, ((gR _).block _ (by omega) (nL _ (by omega))).trans xt⟩
            | refine ⟨rfl, ⟨x1.kept (gR _) (nL _ (by omega)), x2.kept (gR _) (nL _ (by omega)), ?_, x5.kept2 (gR _) (nL _ (by omega)) (nL _ (by omega)), ((gR _).block _ (Array.getElem?_eq_some_iff.1 x6).1 (nL _ (by omega))).trans x6, World.putObj_heap_same (Array.getElem?_eq_some_iff.1 x7).1, x8.grown (gR _) x8.size (fun q e => by cases e; omega)⟩, Nat.le_trans xs (gR _).size, ((gR _).block _ (by omega) (nL _ (by omega))).trans xt⟩
          rw [Hls.out]
          exact x3.kept (gR _) (nL _ (by omega))
    case post =>
      rintro e W' ⟨⟨v, rfl⟩, ⟨h1, h2, h3, h5, h6, h7, h8⟩ | hx⟩
      · refine range_done2 h7 fun Wx hg => ?_
        have bWx := h3.kept hg (by simp; omega)
        have hDx := (hg.block _ (Array.getElem?_eq_some_iff.1 h6).1 (by simp)).trans h6
        have hBx : Below w.heap.size w Wx := h8.grown hg h8.size (fun q e => by cases e; omega)
        have cW := bWx.cell
        clear hE0 h1 h2 h3 h5 h6 h7 h8 hg
        gi_wp2
        refine retM1 hDx ⟨_, results_tmp2 rfl _ _ _, ?_⟩
        exact ⟨by rw [Hc.out, Hr.out]; rfl, below_shut hBx (by omega)⟩
      · exact hx.elim
  · have Hr := Lib.hid (show cntLR zs = 0 by unfold cntLR; rw [if_neg hc])
    have hq : (fewC zs != 0) = true := by simpa using hc
    have hp := fewC_bd zs
    clear hc
    go_enter Try.func56, Try.ntmps56
    go_wp2_with fail
    refine (checkStatesOf_c _ zs _ (hI.later hB0) hN hm).mono ?_
    rintro e w1 ⟨rfl, hb⟩
    go_wp2
    go_ret2
    exact ⟨by rw [Hr.out]; rfl, hB0.trans (hb.mono (by simp))⟩

end Go.Proofs.Ythggpmgjgibcoaa
