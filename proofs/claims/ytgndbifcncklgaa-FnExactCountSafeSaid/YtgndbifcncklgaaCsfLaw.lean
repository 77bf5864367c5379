/-
  CountSafe of the program; the law on it: at every argument the function answers as its model, writes into no argument, and its answer owns its memory.
  Conditions: of the program's contract, lists of at most 1048576 elements; of the law, none but the row's own.
-/
import Derived.Test.YtgndbifcncklgaaSwi
import Derived.Test.YtgndbifcncklgaaSfs
import Derived.Test.YtgndbifcncklgaaGnh
import Derived.Test.YtgndbifcncklgaaLaw
namespace Go.Proofs.Ytgndbifcncklgaa
section
open Go.RowKit Go.Shelf Go.Maps
attribute [local go_sem] Oper.semAt_some

theorem countP_grid (n : Nat) (g : Nat → Nat → Bool) : ∀ N : Nat, (List.range (N * n)).countP (fun q => g (q / n) (q % n)) = ((List.range N).map fun i => (List.range n).countP (g i)).sum
  | 0 => by simp
  | N + 1 => by
    rw [Nat.succ_mul, List.range_add, List.countP_append, countP_grid n g N, List.range_succ, List.map_append, List.sum_append, List.countP_map]
    congr 1
    simp only [List.map_cons, List.map_nil, List.sum_cons, List.sum_nil, Nat.add_zero]
    refine List.countP_congr fun p hp => ?_
    have hp := List.mem_range.1 hp
    have h1 : (N * n + p) / n = N := by rw [Nat.mul_comm, Nat.mul_add_div (by omega), Nat.div_eq_of_lt hp]; rfl
    have h2 : (N * n + p) % n = p := by rw [Nat.mul_comm, Nat.mul_add_mod, Nat.mod_eq_of_lt hp]
    simp only [Function.comp, h1, h2]
open Classical in
/-- how many states ahead of the place k of the numbers j are safe -/
noncomputable def csTo (zs : List Int) (r j k : Nat) : Nat := (List.range (j * zs.length + k)).countP fun q => decide (SafeW zs r (ofR zs (q / zs.length), q % zs.length))
section
variable {zs : List Int} {r j k : Nat}
theorem csTo_zero : csTo zs r 0 0 = 0 := by simp [csTo]
theorem cs_at (hk : k < zs.length) : (j * zs.length + k) / zs.length = j ∧ (j * zs.length + k) % zs.length = k := by
  constructor
  · rw [Nat.mul_comm, Nat.mul_add_div (by omega), Nat.div_eq_of_lt hk]; rfl
  · rw [Nat.mul_comm, Nat.mul_add_mod, Nat.mod_eq_of_lt hk]
theorem csTo_yes (hk : k < zs.length) (h : SafeW zs r (ofR zs j, k)) : csTo zs r j (k + 1) = csTo zs r j k + 1 := by
  obtain ⟨h1, h2⟩ := cs_at (j := j) hk
  unfold csTo
  rw [← Nat.add_assoc, List.range_succ, List.countP_append]
  simp [h1, h2, h]
theorem csTo_no (hk : k < zs.length) (h : ¬ SafeW zs r (ofR zs j, k)) : csTo zs r j (k + 1) = csTo zs r j k := by
  obtain ⟨h1, h2⟩ := cs_at (j := j) hk
  unfold csTo
  rw [← Nat.add_assoc, List.range_succ, List.countP_append]
  simp [h1, h2, h]
theorem csTo_next : csTo zs r (j + 1) 0 = csTo zs r j zs.length := by unfold csTo; rw [Nat.succ_mul, Nat.add_zero]
theorem csTo_le : csTo zs r j k ≤ j * zs.length + k := by
  have := List.countP_le_length (p := fun q => (open Classical in decide (SafeW zs r (ofR zs (q / zs.length), q % zs.length)))) (l := List.range (j * zs.length + k))
  simpa [csTo] using this
open Classical in
theorem csTo_all (hp : Pos zs) : csTo zs r (cntN zs) 0 = cntT (safB zs r) := by
  have h1 := countP_grid zs.length (fun i q => decide (SafeW zs r (ofR zs i, q))) (cntN zs)
  have h2 := countP_grid zs.length (fun i q => decide (SafeW zs r (ofL zs (i : Int), q))) (cntN zs)
  have h3 := ((perm_orders hp).map (fun x : List Int => (List.range zs.length).countP fun q => decide (SafeW zs r (x, q)))).sum_nat
  simp only [List.map_map, Function.comp_def] at h3
  unfold csTo cntT safB
  rw [Nat.add_zero, List.countP_map, cntW, Nat.mul_comm zs.length]
  refine (h1.trans (h3.trans h2.symm)).trans ?_
  refine List.countP_congr fun q _ => ?_
  exact Iff.rfl
end
/-- what stands ahead of the place k of the numbers j -/
structure CsI (w : World) (b bo mk m9 bw bv bc D : Nat) (zs : List Int) (r : Nat) (lp : Loop) (j k : Nat) (A : World) : Prop where
  bx : Boxed A bw 58 (.pointer (some ⟨b, 0, none⟩))
  bv : Boxed A bv 58 (.pointer (some ⟨b, 0, none⟩))
  bc : Boxed A bc 2 (.int .i64 (csTo zs r j k : Int))
  wat : Wat A b zs.length r bo mk
  out : Outl A bo zs m9
  know : ∃ K Bc, KMapW A zs mk Bc K ∧ KGoodW zs r K ∧ Bc + 2 * unkW zs K ≤ 2 * unkW zs (fun _ => none)
  df : A.heap[D]? = some (.deferred (some []))
  lop : A.heap[D + 1]? = some (.loop lp)
  be : Below w.heap.size w A
/-- the blocks lie below D, each by itself -/
structure CsL (w : World) (b bo mk bw bv bc D : Nat) : Prop where
  b1 : b < bv
  b2 : bo < bv
  b3 : mk < bv
  b4 : bv < bc
  b5 : bc < bw
  b6 : bw < D
  b7 : w.heap.size ≤ mk
  b8 : w.heap.size ≤ bv
  n1 : b ≠ mk
  n2 : bo ≠ mk
theorem CsI.kept {w : World} {b bo mk m9 bw bv bc D : Nat} {zs : List Int} {r : Nat} {lp : Loop} {j k : Nat} {A B : World} {row : Option Nat} (h : CsI w b bo mk m9 bw bv bc D zs r lp j k A) (hL : CsL w b bo mk bw bv bc D) (hg : A.grownBy B row) (hr : ∀ q, row = some q → D + 2 ≤ q) : CsI w b bo mk m9 bw bv bc D zs r lp j k B := by
  obtain ⟨l1, l2, l3, l4, l5, l6, l7, l8, _, _⟩ := hL
  have ne : ∀ q, q < D + 2 → some q ≠ row := fun q hq e => by have := hr q e.symm; omega
  obtain ⟨K, Bc, h1, h2, h3⟩ := h.know
  exact ⟨h.bx.kept hg (ne _ (by omega)), h.bv.kept hg (ne _ (by omega)), h.bc.kept hg (ne _ (by omega)), h.wat.kept hg (ne _ (by omega)), h.out.kept hg (ne _ (by omega)), ⟨K, Bc, h1.kept hg (ne _ (by omega)), h2, h3⟩, (hg.block _ (Array.getElem?_eq_some_iff.1 h.df).1 (ne _ (by omega))).trans h.df, (hg.block _ (Array.getElem?_eq_some_iff.1 h.lop).1 (ne _ (by omega))).trans h.lop, h.be.grown hg h.be.size (fun q e => by have := hr q e; omega)⟩

set_option maxRecDepth 100000 in
set_option maxHeartbeats 8000000 in
theorem i_CountSafe (p r : Int) (c0 : Value) (zs : List Int) (w : World) (_hp : I64 p) (_hr : I64 r) (hI : Ints w.heap.size w c0 zs) (hN : I64s zs) (hm : zs.length ≤ 1048576) :
    Calls Try.prog 20 #[.agg #[.int .i64 p, .int .i64 r], .agg #[c0]] w fun e w' => e = .returned (.tuple #[.int .i64 (csN p r zs), .int .i64 (wcC p r zs)]) ∧ Below w.heap.size w w' := by
  obtain ⟨a, cap, rfl⟩ := hI.shape
  have b0 := Box2.new w 30 (.int .i64 p) (.int .i64 r)
  have hB0 : Below w.heap.size w (w.alloc (.cells #[.int .i64 p, .int .i64 r] 30)) := (Below.refl _ w).alloc (Nat.le_refl _) _
  obtain ⟨W1, hW1⟩ : ∃ W1, (w.alloc (.cells #[.int .i64 p, .int .i64 r] 30)).alloc (.cells #[.slice a zs.length cap] 32) = W1 := ⟨_, rfl⟩
  have bG : Box2 W1 w.heap.size 30 (.int .i64 p) (.int .i64 r) := by rw [← hW1]; exact b0.alloc _
  have bT : Boxed W1 (w.heap.size + 1) 32 (.slice a zs.length cap) := by rw [← hW1]; exact boxed_at (by simp)
  have hB1 : Below w.heap.size w W1 := by rw [← hW1]; exact hB0.alloc (by simp) _
  clear b0 hB0
  have c0 := bG.c0
  have c1 := bG.c1
  have cT := bT.cell
  by_cases hc : wcC p r zs = 0
  · obtain ⟨m, rfl, rfl, hn6, hm5, _, ht, hcap⟩ := wc_ok hc
    have hps := pos_of ht
    have Hr := Lib.hid (show csN (zs.length : Int) (m : Int) zs = (csTo zs m (cntN zs) 0 : Int) by unfold csN; rw [if_pos hc, Int.toNat_natCast, csTo_all hps])
    have Hc := Lib.hid hc
    have hcn := cntL_cntN hps
    have hcN : cntN zs * zs.length ≤ 20000 := by
      have h3 : ((cntN zs * zs.length : Nat) : Int) ≤ 20000 := by rw [hcn] at hcap; rw [Int.natCast_mul, Int.mul_comm]; exact hcap
      omega
    have HcN := Lib.hid hcN
    clear hc hcN hcn
    refine (callsIn_wide (n := 14)).1 ?_
    refine callsIn_of_wp_marks Try.func20 rfl trivial ?_ rfl
    simp only [Try.ntmps20, List.size_toArray, List.length_cons, List.length_nil, Nat.reduceAdd, Nat.reduceSub, Array.replicate_succ, Array.replicate_zero, List.push_toArray, List.append_toArray, List.nil_append, List.cons_append]
    gi_wp2_with fail
    refine ⟨trivial, (callsIn_wide.2 (checkWatched_c _ _ _ zs _ (hI.later hB1) hN hm)).mono ?_⟩
    rintro e w1 ⟨he, hb⟩
    rw [Hc.out] at he
    subst he
    have hB2 := hB1.trans (hb.mono hB1.size)
    have bG2 := bG.later hb
    have bT2 := boxed_later bT hb
    have d0 := bG2.c0
    have d1 := bG2.c1
    have dT := bT2.cell
    clear c0 c1 cT hW1 bG bT hb hB1
    gi_wp2_with fail
    refine ⟨trivial, (callsIn_wide.2 (watcherOf_c zs.length m _ zs _ (hI.later hB2) ht)).mono ?_⟩
    rintro e w2 ⟨b, bo, mk, m9, rfl, hW, hO, hM, hmk, hb2⟩
    have hB3a := hB2.trans (hb2.mono hB2.size)
    have hsw2 := hB3a.size
    have hmk2 : w.heap.size ≤ mk := Nat.le_trans hB2.size hmk
    have hbl := hW.lt
    have hol := hO.lt
    have hml := (Array.getElem?_eq_some_iff.1 hM).1
    have hbm : b ≠ mk := fun e => by subst e; rw [show w2.heap[b]? = _ from hW] at hM; cases hM
    have hom : bo ≠ mk := fun e => by subst e; rw [show w2.heap[bo]? = _ from hO] at hM; cases hM
    have hKM := KMapW.new hM (zs := zs)
    clear d0 d1 dT bG2 bT2 hb2 hB2 hM
    gi_wp2_with fail
    obtain ⟨W2, hW3⟩ : ∃ W2, ((w2.alloc (.cells #[.pointer (some ⟨b, 0, none⟩)] 58)).alloc (.cells #[.int .i64 0] 2)) = W2 := ⟨_, rfl⟩
    have hB3 : Below w2.heap.size w2 W2 := by rw [← hW3]; exact (((Below.refl _ w2).alloc (Nat.le_refl _) _).alloc (by simp; try omega) _)
    have hs3 : w2.heap.size + 2 ≤ W2.heap.size := by rw [← hW3]; simp
    have bv : Boxed W2 (w2.heap.size) 58 (.pointer (some ⟨b, 0, none⟩)) := by rw [← hW3]; repeat first | (refine boxed_at ?_; (simp; done)) | refine Boxed.alloc ?_ _
    have bC : Boxed W2 (w2.heap.size + 1) 2 (.int .i64 0) := by rw [← hW3]; repeat first | (refine boxed_at ?_; (simp; done)) | refine Boxed.alloc ?_ _
    rw [hW3]
    clear hW3
    have hW2 := hW.later hB3
    have hO2 := hO.later hB3
    have hK2 := hKM.later hB3
    have hB3' := hB3a.trans (hB3.mono hB3a.size)
    refine ⟨trivial, (callsIn_wide.2 (statesW_c b W2)).mono ?_⟩
    rintro e w3 ⟨rfl, hw3⟩
    have hgn : Below W2.heap.size W2 w3 := by rw [hw3]; exact (Below.refl _ W2).alloc (Nat.le_refl _) _
    have bB : Boxed w3 W2.heap.size 58 (.pointer (some ⟨b, 0, none⟩)) := by rw [hw3]; exact Boxed.new W2 _ _
    have bv3 := boxed_later bv hgn
    have bC3 := boxed_later bC hgn
    have hW3 := hW2.later hgn
    have hO3 := hO2.later hgn
    have hK3 := hK2.later hgn
    have hB4 := hB3'.trans (hgn.mono hB3'.size)
    have hs4 : W2.heap.size + 1 ≤ w3.heap.size := by rw [hw3]; simp
    clear hw3 hgn hW2 hO2 hK2 bv bC hB3 hB3' hKM hW hO
    gi_wp2_with fail
    refine range_enter rfl (by omega) rfl trivial (enters_of Try.func100 (by kernel_rfl) rfl) ?_
    intro fn hfn
    have hL : CsL w b bo mk W2.heap.size w2.heap.size (w2.heap.size + 1) w3.heap.size := ⟨hbl, hol, hml, by omega, by omega, by omega, hmk2, hsw2, hbm, hom⟩
    have hs6 : w.heap.size ≤ w3.heap.size := hB4.size
    have HL := Lib.hid hL
    obtain ⟨W0, hW0⟩ : ∃ W0 : Loop → World, ∀ rec, (w3.alloc (.deferred (some []))).alloc (.loop rec) = W0 rec := ⟨_, fun _ => rfl⟩
    have hDL : (w3.alloc (.deferred (some []))).heap.size = w3.heap.size + 1 := World.size_alloc _ _
    have hsz0 : ∀ rec, (W0 rec).heap.size = w3.heap.size + 2 := fun rec => by rw [← hW0]; simp
    have hE0 : ∀ rec, CsI w b bo mk m9 W2.heap.size w2.heap.size (w2.heap.size + 1) w3.heap.size zs m rec 0 0 (W0 rec) := fun rec => by
      rw [← hW0]
      have hgA : w3.grownBy ((w3.alloc (.deferred (some []))).alloc (.loop rec)) none := (World.grownBy_alloc w3 _ none).trans (World.grownBy_alloc _ _ none)
      exact ⟨bB.kept hgA (by simp), bv3.kept hgA (by simp), by rw [csTo_zero]; exact bC3.kept hgA (by simp), hW3.kept hgA (by simp), hO3.kept hgA (by simp), ⟨_, 0, hK3.kept hgA (by simp), KGoodW.none_ zs m, by omega⟩,
        (Below.heap_alloc _ _ _ (by simp)).trans (World.alloc_heap_new _ _), by have := World.alloc_heap_new (w3.alloc (.deferred (some []))) (.loop rec); rw [hDL] at this; exact this, (hB4.alloc hs6 _).alloc (by simp; omega) _⟩
    rw [hW0]
    clear hW0 hDL bB bv3 bC3 hW3 hO3 hK3 hB4 hL hs4 hs3 hsw2 hbl hol hml hbm hom hmk hmk2 hB3a
    refine (statesW_at 13 (w3.heap.size + 1) W2.heap.size b bo m9 mk m zs _ ht (fun j k A => CsI w b bo mk m9 W2.heap.size w2.heap.size (w2.heap.size + 1) w3.heap.size zs m _ j k A) ?hInv ?hgrow ?hskip ?hnext ?hyield (hE0 _)).mono ?post
    case hInv => exact fun j k A h => ⟨h.bx, h.wat, h.out⟩
    case hgrow => exact fun j k A B row h hg hr => h.kept HL.out hg (fun q e => by have := hr q e; rw [hsz0] at this; omega)
    case hskip => exact fun j k A hk hne h => { h with bc := by rw [csTo_no hk (fun hs => hne hs.isW.2.2)]; exact h.bc }
    case hnext => exact fun j A h => { h with bc := by rw [csTo_next]; exact h.bc }
    case hyield =>
      rintro j k A hj hk hvis hC hsA
      rw [hsz0] at hsA ⊢
      obtain ⟨l1, l2, l3, l4, l5, l6, l7, l8, n1, n2⟩ := HL.out
      obtain ⟨A1, hA1⟩ : ∃ A1, A.alloc (.cells #[.int .i64 0, .int .u8 0, .int .u8 0, .int .u8 0, .int .u8 0, .int .u8 0, .int .u8 0, .int .u8 0, .int .u8 0] 66) = A1 := ⟨_, rfl⟩
      have bS : Wbx A1 A.heap.size ([], 0) := by rw [← hA1]; exact Wbx.new A ([], 0)
      have hgA : A.grownBy A1 none := by rw [← hA1]; exact World.grownBy_alloc _ _ _
      have hA1s : A.heap.size < A1.heap.size := by rw [← hA1]; simp
      have hgS := grownBy_set9 A1 A.heap.size (ofR zs j, k)
      have hC1 := hC.kept HL.out hgA (by simp)
      have hC2 := hC1.kept HL.out hgS (fun q e => by have : A.heap.size = q := (by simpa using e); omega)
      have HC := Lib.hid hC2
      have HL1 := Lib.hid hC2.lop
      have h7' := Lib.hid hC.lop
      have bX := bS.stored9 (ofR zs j, k)
      have HX := Lib.hid bX
      have old1 : ∀ q, q < A.heap.size → (store9 A1 A.heap.size (ofR zs j, k)).heap[q]? = A.heap[q]? := fun q hq => (hgS.block q (by omega) (fun e => by have := Option.some.inj e; omega)).trans (hgA.block q hq (by simp))
      have Old1 := Lib.hid old1
      have hsS := hgS.size
      have rc0 := bS.c0
      have rc1 := bS.cs (i := 0) (by omega)
      have rc2 := bS.cs (i := 1) (by omega)
      have rc3 := bS.cs (i := 2) (by omega)
      have rc4 := bS.cs (i := 3) (by omega)
      have rc5 := bS.cs (i := 4) (by omega)
      have rc6 := bS.cs (i := 5) (by omega)
      have rc7 := bS.cs (i := 6) (by omega)
      have rc8 := bS.cs (i := 7) (by omega)
      have rf0 := bS.frozen 0
      have rf1 := bS.frozen 1
      have rf2 := bS.frozen 2
      have rf3 := bS.frozen 3
      have rf4 := bS.frozen 4
      have rf5 := bS.frozen 5
      have rf6 := bS.frozen 6
      have rf7 := bS.frozen 7
      have rf8 := bS.frozen 8
      clear hC hC1 hC2 bX hgS old1 hE0 bS
      refine yield_roundW (W1 := store9 A1 A.heap.size (ofR zs j, k)) trivial h7'.out HL1.out rfl ?a1 ?assign ?body
      case assign =>
        intro K0 hK0
        simp only [wV, wC]
        go_simp
        gi_wp2
        exact hK0
      case body =>
        clear rc0 rc1 rc2 rc3 rc4 rc5 rc6 rc7 rc8 rf0 rf1 rf2 rf3 rf4 rf5 rf6 rf7 rf8 h7' HL1
        obtain ⟨W6, hW6⟩ : ∃ W6, store9 A1 A.heap.size (ofR zs j, k) = W6 := ⟨_, rfl⟩
        rw [hW6] at HC HX Old1 hsS ⊢
        clear hW6 hA1 hgA
        intro Wb hgb hbusy
        have nL : ∀ q, q ≠ w3.heap.size + 1 → some q ≠ some (w3.heap.size + 1) := fun q hq e => hq (Option.some.inj e)
        have hX := HX.out.kept hgb (nL _ (by omega))
        have kx := HC.out.bx.kept hgb (nL _ (by omega))
        have kv := HC.out.bv.kept hgb (nL _ (by omega))
        have kc := HC.out.bc.kept hgb (nL _ (by omega))
        have kw := HC.out.wat.kept hgb (nL _ (by omega))
        have ko := HC.out.out.kept hgb (nL _ (by omega))
        obtain ⟨K, Bc, hk1, hk2, hk3⟩ := HC.out.know
        have km := hk1.kept hgb (nL _ (by omega))
        have kd := Lib.hid ((hgb.block _ (Array.getElem?_eq_some_iff.1 HC.out.df).1 (nL _ (by omega))).trans HC.out.df)
        have kb := HC.out.be.grown hgb HC.out.be.size (fun q e => by cases e; omega)
        have hszb := hgb.size
        have Hq := Lib.hid (show ∀ q, w3.heap.size + 2 ≤ q → q < A.heap.size → Wb.heap[q]? = A.heap[q]? from fun q h1 h2 => (hgb.block q (by omega) (nL _ (by omega))).trans (Old1.out q h2))
        have Hbusy := Lib.hid hbusy
        have c7 := kv.cell
        have x0 := hX.c0
        have x1 := hX.cs (i := 0) (by omega)
        have x2 := hX.cs (i := 1) (by omega)
        have x3 := hX.cs (i := 2) (by omega)
        have x4 := hX.cs (i := 3) (by omega)
        have x5 := hX.cs (i := 4) (by omega)
        have x6 := hX.cs (i := 5) (by omega)
        have x7 := hX.cs (i := 6) (by omega)
        have x8 := hX.cs (i := 7) (by omega)
        have hst : IsW zs (ofR zs j, k) := ⟨isSt_ofR hps j, hk, hvis⟩
        have Hcap := Lib.hid (unkW_bd ht hcap (fun _ => none))
        clear HC HX Old1 hbusy hgb hk1 hX
        gi_wp2_with fail
        refine ⟨trivial, (callsIn_wide.2 (isSafe_c Wb (ofR zs j, k) b bo mk m9 Bc zs m K ht hn6 hm5 (by have := Hcap.out; omega) kw ko km hk2 hst)).mono ?_⟩
        rintro e W5 ⟨K2, Bc2, rm, hg2, hc2, hgr2, hres⟩
        have nm : ∀ q, q ≠ mk → some q ≠ some mk := fun q hq e => hq (Option.some.inj e)
        have rx := kx.kept hgr2 (nm _ (by omega))
        have rv := kv.kept hgr2 (nm _ (by omega))
        have rc := kc.kept hgr2 (nm _ (by omega))
        have rw' := kw.kept hgr2 (nm _ (by omega))
        have ro := ko.kept hgr2 (nm _ (by omega))
        have rd := Lib.hid ((hgr2.block _ (Array.getElem?_eq_some_iff.1 kd.out).1 (nm _ (by omega))).trans kd.out)
        have r7 := Lib.hid ((hgr2.block _ (Array.getElem?_eq_some_iff.1 Hbusy.out).1 (nm _ (by omega))).trans Hbusy.out)
        have rb := kb.grown hgr2 kb.size (fun q e => by cases e; omega)
        have rs := hgr2.size
        have Rq := Lib.hid (show ∀ q, w3.heap.size + 2 ≤ q → q < A.heap.size → W5.heap[q]? = A.heap[q]? from fun q h1 h2 => (hgr2.block q (by omega) (nm _ (by omega))).trans (Hq.out q h1 h2))
        have cC := rc.cell
        have fC := rc.frozen
        have hle := csTo_le (zs := zs) (r := m) (j := j) (k := k)
        have hmul : (j + 1) * zs.length ≤ cntN zs * zs.length := Nat.mul_le_mul_right _ hj
        have hle2 : csTo zs m j k ≤ 20000 := by rw [Nat.succ_mul] at hmul; have := HcN.out; omega
        clear x0 x1 x2 x3 x4 x5 x6 x7 x8 kx kv kc kw ko km kd kb c7 Hbusy Hq hgr2 hle hmul
        rcases hres with ⟨rfl, hs⟩ | ⟨rfl, hs⟩
        · have Hls := Lib.hid (csTo_yes (r := m) hk hs)
          have hwr : IntKind.i64.wrap ((csTo zs m j k : Int) + 1) = (csTo zs m j k : Int) + 1 := by rw [IntKind.wrap_i64]; omega
          clear hs
          gi_wp2_with fail
          have gC := grownBy_setCell2 W5 (w2.heap.size + 1) 0 (.int .i64 ((csTo zs m j k : Int) + 1))
          have nC : ∀ q, q ≠ w2.heap.size + 1 → some q ≠ some (w2.heap.size + 1) := fun q hq e => hq (Option.some.inj e)
          have yx := rx.kept gC (nC _ (by omega))
          have yv := rv.kept gC (nC _ (by omega))
          have yc := rc.set (.int .i64 ((csTo zs m j k : Int) + 1))
          have yw := rw'.kept gC (nC _ (by omega))
          have yo := ro.kept gC (nC _ (by omega))
          have ym := rm.kept gC (nC _ (by omega))
          have yd := (gC.block _ (Array.getElem?_eq_some_iff.1 rd.out).1 (nC _ (by omega))).trans rd.out
          have y7 := (gC.block _ (Array.getElem?_eq_some_iff.1 r7.out).1 (nC _ (by omega))).trans r7.out
          have yb := rb.grown gC rb.size (fun q e => by cases e; omega)
          have ys : A.heap.size ≤ _ := Nat.le_trans (by omega) gC.size
          have yq : ∀ q, w3.heap.size + 2 ≤ q → q < A.heap.size → _ = A.heap[q]? := fun q h1 h2 => (gC.block q (by omega) (nC _ (by omega))).trans (Rq.out q h1 h2)
          have gR := fun o => grownBy_putObj' (W5.setCell ⟨w2.heap.size + 1, 0, none⟩ (.int .i64 ((csTo zs m j k : Int) + 1))) (w3.heap.size + 1) o
          refine ⟨y7, ?_⟩
          refine ⟨rfl, ⟨yx.kept (gR _) (nL _ (by omega)), yv.kept (gR _) (nL _ (by omega)), ?_, yw.kept (gR _) (nL _ (by omega)), yo.kept (gR _) (nL _ (by omega)), ⟨K2, Bc2, ym.kept (gR _) (nL _ (by omega)), hg2, by omega⟩, ((gR _).block _ (Array.getElem?_eq_some_iff.1 yd).1 (nL _ (by omega))).trans yd, World.putObj_heap_same (Array.getElem?_eq_some_iff.1 y7).1, yb.grown (gR _) yb.size (fun q e => by cases e; omega)⟩, Nat.le_trans ys (gR _).size, fun q h1 h2 => ((gR _).block q (by omega) (nL _ (by omega))).trans (yq q h1 h2)⟩
          rw [Hls.out]
          exact yc.kept (gR _) (nL _ (by omega))
        · have Hls := Lib.hid (csTo_no (r := m) hk hs)
          clear hs
          gi_wp2_with fail
          have yx := rx
          have yv := rv
          have yc := rc
          have yw := rw'
          have yo := ro
          have ym := rm
          have yd := rd.out
          have y7 := r7.out
          have yb := rb
          have ys : A.heap.size ≤ W5.heap.size := by omega
          have yq := Rq.out
          have gR := fun o => grownBy_putObj' (W5) (w3.heap.size + 1) o
          refine ⟨y7, ?_⟩
          refine ⟨rfl, ⟨yx.kept (gR _) (nL _ (by omega)), yv.kept (gR _) (nL _ (by omega)), ?_, yw.kept (gR _) (nL _ (by omega)), yo.kept (gR _) (nL _ (by omega)), ⟨K2, Bc2, ym.kept (gR _) (nL _ (by omega)), hg2, by omega⟩, ((gR _).block _ (Array.getElem?_eq_some_iff.1 yd).1 (nL _ (by omega))).trans yd, World.putObj_heap_same (Array.getElem?_eq_some_iff.1 y7).1, yb.grown (gR _) yb.size (fun q e => by cases e; omega)⟩, Nat.le_trans ys (gR _).size, fun q h1 h2 => ((gR _).block q (by omega) (nL _ (by omega))).trans (yq q h1 h2)⟩
          rw [Hls.out]
          exact yc.kept (gR _) (nL _ (by omega))
    case post =>
      rintro e W' ⟨⟨v, rfl⟩, h⟩
      obtain ⟨l1, l2, l3, l4, l5, l6, l7, l8, _, _⟩ := HL.out
      refine range_done2 h.lop fun Wx hg => ?_
      have bWx := h.bc.kept hg (by simp; omega)
      have hDx := (hg.block _ (Array.getElem?_eq_some_iff.1 h.df).1 (by simp)).trans h.df
      have hBx : Below w.heap.size w Wx := h.be.grown hg h.be.size (fun q e => by cases e; omega)
      have cW := bWx.cell
      clear hE0 h hg
      gi_wp2
      refine retM1 hDx ⟨_, results_tmp2 rfl _ _ _, ?_⟩
      exact ⟨by rw [Hc.out, Hr.out]; rfl, below_shut hBx (by omega)⟩
  · have Hr := Lib.hid (show csN p r zs = 0 by unfold csN; rw [if_neg hc])
    have hq : (wcC p r zs != 0) = true := by simpa using hc
    obtain ⟨x, hx⟩ : ∃ x, wcC p r zs = x := ⟨_, rfl⟩
    have Hx := Lib.hid hx
    rw [hx] at hq
    clear hx hc
    go_enter Try.func20, Try.ntmps20
    go_wp2_with fail
    refine (checkWatched_c _ _ _ zs _ (hI.later hB1) hN hm).mono ?_
    rintro e w1 ⟨rfl, hb⟩
    rw [Hx.out]
    clear c0 c1 cT hW1
    go_wp2
    go_ret2
    exact ⟨by rw [Hr.out, Hx.out]; rfl, hB1.trans (hb.mono hB1.size)⟩

end

open Go.RowKit Go.Shelf

/-- a post that only goes on -/
def normQ (R : Act → World → Prop) : Exit → Act → World → Prop
  | .normal, a, w => R a w
  | _, _, _ => False
theorem normQ_of {R : Act → World → Prop} {a : Act} {w : World} (h : R a w) : normQ R .normal a w := h
theorem normQ_elim {R : Act → World → Prop} {e : Exit} {a : Act} {w : World} (h : normQ R e a w) : e = .normal ∧ R a w := by
  cases e <;> first | exact ⟨rfl, h⟩ | exact h.elim

set_option maxRecDepth 100000 in
set_option maxHeartbeats 8000000 in
theorem lawCountSafe_c (p0 r0 : Int) (c1 : Value) (zs1 : List Int) (w : World) (hp0 : I64 p0) (hr0 : I64 r0) (hI1 : Ints w.heap.size w c1 zs1) (hN1 : I64s zs1) (hL1 : zs1.length ≤ 9223372036854775807) :
    Calls Try.prog 3 #[.agg #[.int .i64 p0, .int .i64 r0], .agg #[c1]] w fun e w' => e = .returned (.bool true) ∧ Below w.heap.size w w' := by
  obtain ⟨a1, cap1, rfl⟩ := hI1.shape
  have hB0 : Below w.heap.size w ((w.alloc (.cells #[.int .i64 p0, .int .i64 r0] 23)).alloc (.cells #[.slice a1 zs1.length cap1] 26)) := (((Below.refl _ w).alloc (Nat.le_refl _) _).alloc (by simp; try omega) _)
  by_cases hs1 : 1048576 < zs1.length
  · skip
    have hm : szI zs1.length 1048576 = -1 := by unfold szI; rw [if_pos (by omega)]
    have Hm := Lib.hid hm
    clear hm
    go_enter Try.func3, Try.ntmps3
    go_wp2_with fail
    refine (szTasks_c _ _ _ _ _ (by omega) (by omega) hL1).mono ?_
    rintro e w1 ⟨he, hb⟩
    rw [Hm.out] at he
    subst he
    go_wp2
    go_ret
    exact ⟨rfl, hB0.trans (hb.mono (by simp; try omega))⟩
  have hk1 : zs1.length * 8 ≤ 140737488351232 := by omega
  have hm1 : zs1.length ≤ 1048576 := by omega
  have hm : szI zs1.length 1048576 = 1048576 - zs1.length := by unfold szI; rw [if_neg (by omega)]
  have hn1 : (0 : Int) ≤ 1048576 - zs1.length := by omega
  have Hm := Lib.hid hm
  clear hm
  go_enter Try.func3, Try.ntmps3
  go_wp2_with fail
  obtain ⟨W0, hW0⟩ : ∃ W0, ((w.alloc (.cells #[.int .i64 p0, .int .i64 r0] 23)).alloc (.cells #[.slice a1 zs1.length cap1] 26)) = W0 := ⟨_, rfl⟩
  have ba0 : Box2 W0 (w.heap.size) 23 (.int .i64 p0) (.int .i64 r0) := by rw [← hW0]; simpa using (Box2.new w 23 (.int .i64 p0) (.int .i64 r0)).alloc _
  have ba1 : Boxed W0 (w.heap.size + 1) 26 (.slice a1 zs1.length cap1) := by rw [← hW0]; simpa using Boxed.new (w.alloc (.cells #[.int .i64 p0, .int .i64 r0] 23)) 26 (.slice a1 zs1.length cap1)
  have hBW : Below w.heap.size w W0 := by rw [← hW0]; exact hB0
  have s0 : w.heap.size + 2 ≤ W0.heap.size := by rw [← hW0]; simp
  clear hB0
  rw [hW0]
  clear hW0
  refine (szTasks_c _ _ _ _ _ (by omega) (by omega) hL1).mono ?_
  rintro e W1 ⟨he, hb⟩
  rw [Hm.out] at he
  subst he
  clear Hm
  have s1 := hb.size
  replace ba0 := ba0.later hb
  replace ba1 := boxed_later ba1 hb
  replace hBW := hBW.trans (hb.mono (by omega))
  clear hb
  have k_ba0 := ba0.c0
  have k2_ba0 := ba0.c1
  have k_ba1 := ba1.cell
  go_wp2_with fail
  clear k_ba0
  clear k2_ba0
  clear k_ba1
  have hfw : Try.prog.follows Departure.mixedOrders = true := by kernel_rfl
  refine' wp_mono (Q := normQ (fun a' w' => (Box2 w' w.heap.size 23 (.int .i64 p0) (.int .i64 r0) ∧ Boxed w' (w.heap.size + 1) 26 (.slice a1 zs1.length cap1) ∧ Below w.heap.size w w') ∧ ∃ v : Value, a' = { tmps := #[Value.agg #[Value.int IntKind.i64 p0, Value.int IntKind.i64 r0], Value.agg #[Value.slice a1 zs1.length cap1], Value.pointer (some ⟨w.heap.size, 0, none⟩), Value.pointer (some ⟨w.heap.size + 1, 0, none⟩), Value.bool false, Value.int IntKind.i64 (1048576 - (zs1.length : Int)), Value.int IntKind.i64 (csN p0 r0 zs1), Value.int IntKind.i64 (wcC p0 r0 zs1), undef, undef, undef, Value.agg #[Value.slice a1 zs1.length cap1], Value.int IntKind.i64 1048576, Value.int IntKind.i64 (1048576 - (zs1.length : Int)), Value.int IntKind.i64 (1048576 - (zs1.length : Int)), Value.bool (decide (1048576 - (zs1.length : Int) < 0)), Value.tuple #[Value.int IntKind.i64 (csN p0 r0 zs1), Value.int IntKind.i64 (wcC p0 r0 zs1)], Value.agg #[Value.int IntKind.i64 p0, Value.int IntKind.i64 r0], Value.agg #[Value.int IntKind.i64 p0, Value.int IntKind.i64 r0], Value.agg #[Value.slice a1 zs1.length cap1], Value.agg #[v], Value.tuple #[Value.int IntKind.i64 (csN p0 r0 zs1), Value.int IntKind.i64 (wcC p0 r0 zs1)], Value.int IntKind.i64 (csN p0 r0 zs1), Value.int IntKind.i64 (wcC p0 r0 zs1), undef, undef, undef, undef, undef, undef, undef, undef, undef, undef, undef, undef, undef, undef, undef, undef, undef, undef, undef, undef, undef, undef], defers := [] })) ?gA ?gB
  case gA =>
    refine wp_region_held_drew (S := (fun w' => Box2 w' w.heap.size 23 (.int .i64 p0) (.int .i64 r0) ∧ Boxed w' (w.heap.size + 1) 26 (.slice a1 zs1.length cap1) ∧ Below w.heap.size w w')) hfw ⟨ba0, ba1, hBW.drew⟩ ?_
    intro hS0
    obtain ⟨Wd, hWd⟩ : ∃ Wd, W1.drew = Wd := ⟨_, rfl⟩
    rw [hWd] at hS0 ⊢
    clear hWd
    refine wpAnyH_take (i := 0) (v := ?vL10) rfl (by kernel_rfl) (by kernel_rfl) (by kernel_rfl) (fun _ _ _ h => h) (.inl ⟨by first | kernel_rfl | rfl, ?yL10⟩) hS0 ?_
    case yL10 =>
      intro w' hS
      (have k0 := hS.1.c0; have k1 := hS.1.c1; have k2 := hS.2.1.cell; clear hS)
      go_simp
      try with_reducible rfl
    refine wpAnyH_take (i := 2) (v := ?vL12) rfl (by kernel_rfl) (by kernel_rfl) (by kernel_rfl) (fun _ _ _ h => h) (.inl ⟨by first | kernel_rfl | rfl, ?yL12⟩) hS0 ?_
    case yL12 =>
      intro w' hS
      (have k0 := hS.1.c0; have k1 := hS.1.c1; have k2 := hS.2.1.cell; clear hS)
      go_simp
      try with_reducible rfl
    try simp only [Act.put, List.getElem_toArray, List.getElem_cons_zero, List.getElem_cons_succ, List.setIfInBounds_toArray, List.set_cons_zero, List.set_cons_succ]
    refine wpAnyH_ready (rs := [1]) (by kernel_rfl) (by simp) ?_
    refine AllReadyH.cons rfl (fun K' hK' => ?_) AllReadyH.nil
    rw [if_pos (by first | kernel_rfl | rfl)]
    go_simp
    refine (toGround_c p0 r0 _).mono ?_
    rintro e W2 ⟨rfl, hb⟩
    refine hK'.out _ _ ⟨hS0.1.later hb, boxed_later hS0.2.1 hb, hS0.2.2.trans (hb.mono hS0.2.2.size)⟩ fun hS1 => ?_
    clear hK' hb hS0
    refine wpAnyH_ready (rs := [3]) (by kernel_rfl) (by simp) ?_
    refine AllReadyH.cons rfl (fun K' hK' => ?_) AllReadyH.nil
    rw [if_pos (by first | kernel_rfl | rfl)]
    go_simp
    refine (toTasks_c _ zs1 _ (hI1.later hS1.2.2) hm1).mono ?_
    rintro e W3 ⟨v, rfl, ho, hb⟩
    refine hK'.out _ _ ⟨hS1.1.later hb, boxed_later hS1.2.1 hb, hS1.2.2.trans (hb.mono hS1.2.2.size)⟩ fun hS2 => ?_
    clear hK' hS1
    have g_t1 := Seg.new ho
    clear hb
    refine wpAnyH_ready (rs := [4]) (by kernel_rfl) (by simp) ?_
    refine AllReadyH.cons rfl (fun K' hK' => ?_) AllReadyH.nil
    rw [if_pos (by first | kernel_rfl | rfl)]
    go_simp
    refine (s_CountSafe p0 r0 _ zs1 _ hp0 hr0 g_t1.ints hN1 hm1).mono ?_
    rintro e W4 ⟨rfl, hb⟩
    refine hK'.out _ _ ⟨hS2.1.later hb, boxed_later hS2.2.1 hb, hS2.2.2.trans (hb.mono hS2.2.2.size)⟩ fun hS3 => ?_
    clear hK'
    refine wpAnyH_take (i := 5) (v := ?vL25) rfl (by kernel_rfl) (by kernel_rfl) (by kernel_rfl) (fun _ _ _ h => h) (.inl ⟨by first | kernel_rfl | rfl, ?yL25⟩) hS3 ?_
    case yL25 =>
      intro w' hS
      (clear hS)
      go_simp
      try with_reducible rfl
    refine wpAnyH_take (i := 6) (v := ?vL26) rfl (by kernel_rfl) (by kernel_rfl) (by kernel_rfl) (fun _ _ _ h => h) (.inl ⟨by first | kernel_rfl | rfl, ?yL26⟩) hS3 ?_
    case yL26 =>
      intro w' hS
      (clear hS)
      go_simp
      try with_reducible rfl
    refine wpAnyH_take (i := 7) (v := ?vL27) rfl (by kernel_rfl) (by kernel_rfl) (by kernel_rfl) (fun _ _ _ h => h) (.inl ⟨by first | kernel_rfl | rfl, ?yL27⟩) hS3 ?_
    case yL27 =>
      intro w' hS
      (clear hS)
      go_simp
      try with_reducible rfl
    refine wpAnyH_take (i := 8) (v := ?vL28) rfl (by kernel_rfl) (by kernel_rfl) (by kernel_rfl) (fun _ _ _ h => h) (.inl ⟨by first | kernel_rfl | rfl, ?yL28⟩) hS3 ?_
    case yL28 =>
      intro w' hS
      (clear hS)
      go_simp
      try with_reducible rfl
    refine wpAnyH_take (i := 9) (v := ?vL29) rfl (by kernel_rfl) (by kernel_rfl) (by kernel_rfl) (fun _ _ _ h => h) (.inl ⟨by first | kernel_rfl | rfl, ?yL29⟩) hS3 ?_
    case yL29 =>
      intro w' hS
      (clear hS)
      go_simp
      try with_reducible rfl
    try simp only [Act.put, List.getElem_toArray, List.getElem_cons_zero, List.getElem_cons_succ, List.setIfInBounds_toArray, List.set_cons_zero, List.set_cons_succ]
    refine wpAnyH_done (by kernel_rfl) ?_ _
    exact normQ_of ⟨hS3, v, rfl⟩
  rintro e a' W4 hn4
  obtain ⟨rfl, ⟨ba0, ba1, hBW⟩, v_t1, rfl⟩ := normQ_elim hn4
  have s4 : w.heap.size + 2 ≤ W4.heap.size := ba1.lt
  dsimp only
  have k_ba0 := ba0.c0
  have k2_ba0 := ba0.c1
  have k_ba1 := ba1.cell
  go_wp2_with fail
  clear k_ba0
  clear k2_ba0
  clear k_ba1
  refine (toTasks_c _ zs1 _ (hI1.later hBW) hm1).mono ?_
  rintro e W5 ⟨v_x1, rfl, ho, hb⟩
  have s5 := hb.size
  replace ba0 := ba0.later hb
  replace ba1 := boxed_later ba1 hb
  replace hBW := hBW.trans (hb.mono (by omega))
  have g_x1 := Seg.new ho
  clear ho hb
  obtain ⟨a_x1, cap_x1, rfl⟩ := g_x1.ints.shape
  have k_ba0 := ba0.c0
  have k2_ba0 := ba0.c1
  have k_ba1 := ba1.cell
  go_wp2_with fail
  clear k_ba0
  clear k2_ba0
  clear k_ba1
  obtain ⟨W6, hWn⟩ : ∃ W6, W5.alloc (.cells #[.slice a_x1 zs1.length cap_x1] 32) = W6 := ⟨_, rfl⟩
  have hb : Below W5.heap.size W5 W6 := by rw [← hWn]; exact (Below.refl _ _).alloc (Nat.le_refl _) _
  have bx1 : Boxed W6 W5.heap.size 32 (.slice a_x1 zs1.length cap_x1) := by rw [← hWn]; exact Boxed.new _ _ _
  have s6 : W5.heap.size + 1 ≤ W6.heap.size := by rw [← hWn]; simp
  rw [hWn]
  clear hWn
  replace g_x1 := g_x1.below hb
  replace ba0 := ba0.later hb
  replace ba1 := boxed_later ba1 hb
  replace hBW := hBW.trans (hb.mono (by omega))
  clear hb
  refine wp_region_held_drew (S := (fun w' => Box2 w' w.heap.size 23 (.int .i64 p0) (.int .i64 r0) ∧ Boxed w' (w.heap.size + 1) 26 (.slice a1 zs1.length cap1) ∧ Boxed w' W5.heap.size 32 (.slice a_x1 zs1.length cap_x1) ∧ Below W6.heap.size W6 w')) hfw ⟨ba0, ba1, bx1, (Below.refl _ _).drew⟩ ?_
  intro hS0
  obtain ⟨Wd, hWd⟩ : ∃ Wd, W6.drew = Wd := ⟨_, rfl⟩
  rw [hWd] at hS0 ⊢
  clear hWd
  refine wpAnyH_take (i := 0) (v := ?vL70) rfl (by kernel_rfl) (by kernel_rfl) (by kernel_rfl) (fun _ _ _ h => h) (.inl ⟨by first | kernel_rfl | rfl, ?yL70⟩) hS0 ?_
  case yL70 =>
    intro w' hS
    (have k0 := hS.1.c0; have k1 := hS.1.c1; have k2 := hS.2.2.1.cell; clear hS)
    go_simp
    try with_reducible rfl
  refine wpAnyH_take (i := 2) (v := ?vL72) rfl (by kernel_rfl) (by kernel_rfl) (by kernel_rfl) (fun _ _ _ h => h) (.inl ⟨by first | kernel_rfl | rfl, ?yL72⟩) hS0 ?_
  case yL72 =>
    intro w' hS
    (have k0 := hS.1.c0; have k1 := hS.1.c1; have k2 := hS.2.2.1.cell; clear hS)
    go_simp
    try with_reducible rfl
  try simp only [Act.put, List.getElem_toArray, List.getElem_cons_zero, List.getElem_cons_succ, List.setIfInBounds_toArray, List.set_cons_zero, List.set_cons_succ]
  refine wpAnyH_ready (rs := [1]) (by kernel_rfl) (by simp) ?_
  refine AllReadyH.cons rfl (fun K' hK' => ?_) AllReadyH.nil
  rw [if_pos (by first | kernel_rfl | rfl)]
  go_simp
  refine (toGround_c p0 r0 _).mono ?_
  rintro e W7 ⟨rfl, hb⟩
  refine hK'.out _ _ ⟨hS0.1.later hb, boxed_later hS0.2.1 hb, boxed_later hS0.2.2.1 hb, hS0.2.2.2.trans (hb.mono hS0.2.2.2.size)⟩ fun hS1 => ?_
  clear hK' hb hS0
  refine wpAnyH_ready (rs := [3]) (by kernel_rfl) (by simp) ?_
  refine AllReadyH.cons rfl (fun K' hK' => ?_) AllReadyH.nil
  rw [if_pos (by first | kernel_rfl | rfl)]
  go_simp
  refine (i_CountSafe p0 r0 _ zs1 _ hp0 hr0 (g_x1.below hS1.2.2.2).ints hN1 hm1).mono ?_
  rintro e W8 ⟨rfl, hb⟩
  refine hK'.out _ _ ⟨hS1.1.later hb, boxed_later hS1.2.1 hb, boxed_later hS1.2.2.1 hb, hS1.2.2.2.trans (hb.mono hS1.2.2.2.size)⟩ fun hS2 => ?_
  clear hK' hb hS1
  refine wpAnyH_take (i := 4) (v := ?vL84) rfl (by kernel_rfl) (by kernel_rfl) (by kernel_rfl) (fun _ _ _ h => h) (.inl ⟨by first | kernel_rfl | rfl, ?yL84⟩) hS2 ?_
  case yL84 =>
    intro w' hS
    (clear hS)
    go_simp
    try with_reducible rfl
  refine wpAnyH_take (i := 5) (v := ?vL85) rfl (by kernel_rfl) (by kernel_rfl) (by kernel_rfl) (fun _ _ _ h => h) (.inl ⟨by first | kernel_rfl | rfl, ?yL85⟩) hS2 ?_
  case yL85 =>
    intro w' hS
    (clear hS)
    go_simp
    try with_reducible rfl
  refine wpAnyH_take (i := 6) (v := ?vL86) rfl (by kernel_rfl) (by kernel_rfl) (by kernel_rfl) (fun _ _ _ h => h) (.inl ⟨by first | kernel_rfl | rfl, ?yL86⟩) hS2 ?_
  case yL86 =>
    intro w' hS
    (clear hS)
    go_simp
    try with_reducible rfl
  refine wpAnyH_take (i := 7) (v := ?vL87) rfl (by kernel_rfl) (by kernel_rfl) (by kernel_rfl) (fun _ _ _ h => h) (.inl ⟨by first | kernel_rfl | rfl, ?yL87⟩) hS2 ?_
  case yL87 =>
    intro w' hS
    (clear hS)
    go_simp
    try with_reducible rfl
  refine wpAnyH_take (i := 8) (v := ?vL88) rfl (by kernel_rfl) (by kernel_rfl) (by kernel_rfl) (fun _ _ _ h => h) (.inl ⟨by first | kernel_rfl | rfl, ?yL88⟩) hS2 ?_
  case yL88 =>
    intro w' hS
    (clear hS)
    go_simp
    try with_reducible rfl
  try simp only [Act.put, List.getElem_toArray, List.getElem_cons_zero, List.getElem_cons_succ, List.setIfInBounds_toArray, List.set_cons_zero, List.set_cons_succ]
  refine wpAnyH_done (by kernel_rfl) ?_ _
  obtain ⟨ba0, ba1, bx1, hb⟩ := hS2
  have s8 := hb.size
  replace g_x1 := g_x1.below hb
  replace hBW := hBW.trans (hb.mono (by omega))
  clear hb
  have k_ba0 := ba0.c0
  have k2_ba0 := ba0.c1
  have k_ba1 := ba1.cell
  have k_bx1 := bx1.cell
  go_wp2_with fail
  clear k_ba0
  clear k2_ba0
  clear k_ba1
  clear k_bx1
  have k_ba0 := ba0.c0
  have k2_ba0 := ba0.c1
  have k_ba1 := ba1.cell
  have k_bx1 := bx1.cell
  have p1 : w.heap.size + 1 < W8.heap.size := ba1.lt
  have p2 : W5.heap.size < W8.heap.size := bx1.lt
  go_region_held3 (fun w' => w'.cell? ⟨w.heap.size + 1, 0, none⟩ = some (.slice a1 zs1.length cap1) ∧ w'.cell? ⟨W5.heap.size, 0, none⟩ = some (.slice a_x1 zs1.length cap_x1) ∧ Below W8.heap.size W8 w')
    (first
      | exact ⟨k_ba1, k_bx1, (Below.refl _ _).drew⟩
      | (go_split_ands
         refine ⟨?_, ?_, ?_⟩
         · exact (hx.cell (p := ⟨w.heap.size + 1, 0, none⟩) (by show w.heap.size + 1 < _; omega)).trans (by assumption)
         · exact (hx.cell (p := ⟨W5.heap.size, 0, none⟩) (by show W5.heap.size < _; omega)).trans (by assumption)
         · exact Below.trans (by assumption) (hx.mono (by omega))))
    (first
      | (go_at_call 19; go_split_ands; have hBW2 : Below W8.heap.size W8 _ := (by assumption); have pW := hBW2.size; refine (toTasks_c _ zs1 _ ((hI1.later hBW).later hBW2) hm1).mono ?_; rintro e W9 ⟨v6, rfl, ho6, hx⟩)
      | (go_at_call 21; go_split_ands; have hBW2 : Below W8.heap.size W8 _ := (by assumption); have pW := hBW2.size; refine (eqTasks_d true _ _ zs1 zs1 _ (g_x1.ints.later hBW2) ho6.ints hk1 (by simp)).mono ?_; rintro e W10 ⟨rfl, hx⟩))
  go_split_ands
  have hb : Below W8.heap.size W8 W10 := (by assumption)
  clear k_ba0
  clear k2_ba0
  clear k_ba1
  clear k_bx1
  have s10 := hb.size
  replace g_x1 := g_x1.below hb
  replace ba0 := ba0.later hb
  replace ba1 := boxed_later ba1 hb
  replace bx1 := boxed_later bx1 hb
  replace hBW := hBW.trans (hb.mono (by omega))
  clear hb hx ho6 p1 p2
  have k_ba0 := ba0.c0
  have k2_ba0 := ba0.c1
  have k_ba1 := ba1.cell
  have k_bx1 := bx1.cell
  go_wp2_with fail
  clear k_ba0
  clear k2_ba0
  clear k_ba1
  clear k_bx1
  go_ret
  exact ⟨rfl, hBW⟩

open Go.ChangeShapes Go.WideShapes Go.ChangeAt Go.Joins Go.ChangeMaps

set_option maxRecDepth 100000 in
theorem countSafe_lifted (os : Os) (started : os.Started) (H : Type) (enc : TypeId × Value → H) :
    ReturnsInHanded {} Try.checked os 3 .any (Rows.fnExactCountSafeSpec.pre6 enc Try.prog Try.f3 Rows.fnExactCountSafeRow.domain false) (Rows.fnExactCountSafeSpec.post enc Try.prog Try.f3 false true false false) := by
  refine returnsInHanded_of_change (C := Try.checked) ownT started (by kernel_rfl) Try.func3
    (ChangeSpec.witness6 (enc := enc) (C := Try.checked) false ⟨#[], #[(.agg #[.int .i64 0, .int .i64 0]), (.agg #[.slice none 0 0])], []⟩ 8 (by kernel_rfl) (by kernel_rfl) (by kernel_rfl) (by kernel_rfl)) ?_
  intro W base args ds gs before hval0 hW hcnd _
  have hval : ∀ (j : Nat) t v, Try.f3.params[j]? = some t → args[j]? = some v → Value.okWide Try.prog W .any base t v := hval0
  have hW' := hW
  obtain ⟨p, q, hA0, hV, rfl, hfz, hnd⟩ := hW
  have hA : DataW.TrodAll enc Try.prog W 0 (fun _ => true) true Try.f3.params.toList args.toList ds p := hA0
  rw [Try.params3] at hA hval
  obtain ⟨v0, vs0, d0, ds0, p0, q0, hargs, rfl, rfl, h0, r0⟩ := trodAll_cons hA
  obtain ⟨v1, vs1, d1, ds1, p1, q1, rfl, rfl, rfl, h1, r1⟩ := trodAll_cons r0
  obtain ⟨rfl, rfl, rfl⟩ := trodAll_nil r1
  obtain rfl : args = #[v0, v1] := by cases args; simp_all
  obtain ⟨x0, y0, rfl, _, rfl, hx0, hy0⟩ := open_ground Try.underlying23 rfl rfl rfl rfl Try.underlying2 (by kernel_rfl) (by kernel_rfl) (hval 0 23 v0 rfl rfl) h0
  obtain ⟨c1, y1, n1, rfl, rfl, rfl, t1⟩ := open_agg1 Try.underlying26 rfl (by kernel_rfl) (by kernel_rfl) (hval 1 26 v1 rfl rfl) h1
  obtain ⟨zs1, hI1, hN1, hl1⟩ := ints_of_trod Try.underlying24 Try.underlying2 (by kernel_rfl) t1
  refine (lawCountSafe_c x0 y0 c1 zs1 W hx0 hy0 hI1 hN1 hl1).mono fun e W' ⟨he, hb⟩ => ?_
  subst he
  exact ⟨_, rfl, law_post rfl laidT (by kernel_rfl) (by kernel_rfl) Try.underlying4 hW' rfl hb⟩

set_option maxHeartbeats 20000000 in
theorem countSafe_closed : joinedFacts Try.prog 3 Try.f3 Rows.fnExactCountSafeSpec Rows.fnExactCountSafeRow = true := by
  unfold joinedFacts
  exact (and_mk (and_mk (and_mk (and_mk (and_mk (and_mk (and_mk (and_mk (and_mk (and_mk (and_mk (and_mk (and_mk (and_mk (and_mk (and_mk (and_mk (and_mk (and_mk (and_mk (and_mk (and_mk (and_mk (and_mk (and_mk (and_mk (and_mk (and_mk (and_mk (and_mk (and_mk (by as_aux_lemma => kernel_rfl) laidT) (by as_aux_lemma => kernel_rfl)) (by as_aux_lemma => kernel_rfl)) (by as_aux_lemma => kernel_rfl)) (by as_aux_lemma => kernel_rfl)) (by as_aux_lemma => kernel_rfl)) (by as_aux_lemma => kernel_rfl)) (by as_aux_lemma => kernel_rfl)) (by as_aux_lemma => kernel_rfl)) (by as_aux_lemma => kernel_rfl)) (by as_aux_lemma => kernel_rfl)) (by as_aux_lemma => kernel_rfl)) (by as_aux_lemma => kernel_rfl)) (by as_aux_lemma => kernel_rfl)) (by as_aux_lemma => kernel_rfl)) (by as_aux_lemma => kernel_rfl)) (by as_aux_lemma => kernel_rfl)) (by as_aux_lemma => kernel_rfl)) (by as_aux_lemma => kernel_rfl)) (by as_aux_lemma => kernel_rfl)) (by as_aux_lemma => kernel_rfl)) (by as_aux_lemma => kernel_rfl)) (by as_aux_lemma => kernel_rfl)) (by as_aux_lemma => kernel_rfl)) mayEnterT) (by rw [liftsFinalT]; rfl)) (by rw [makeT]; rfl)) (by as_aux_lemma => kernel_rfl)) (by as_aux_lemma => kernel_rfl)) (by as_aux_lemma => kernel_rfl)) (by as_aux_lemma => kernel_rfl))

set_option maxHeartbeats 20000000 in
theorem countSafe_holds : Rows.FnExactCountSafeSaid :=
  OpenClaim.holds_of_wide 3 Try.f3 rfl rfl rfl rfl rfl rfl rfl ⟨rfl, rfl, rfl, rfl, rfl⟩ rfl rfl rfl rfl rfl (by as_aux_lemma => kernel_rfl) Try.func3 countSafe_closed
    (of_decide_eq_true (by as_aux_lemma => kernel_rfl)) (by unfold Func.isWrapper; rw [if_neg (of_decide_eq_false (by as_aux_lemma => kernel_rfl))]; exact ⟨rfl, rfl⟩)
    (fun os started H enc _ => countSafe_lifted os started H enc)

end Go.Proofs.Ytgndbifcncklgaa
