/-
  The round of a rule in the program: roundOfCuts, TurnsByHeight, TurnsBySpeed.
  Conditions: lists of at most 1048576 elements.
-/
import Derived.Test.YtogpkaeodgokgaaGrW
import Derived.Test.YtogpkaeodgokgaaGrM
import Derived.Test.YtogpkaeodgokgaaGrU
namespace Go.Proofs.Ytogpkaeodgokgaa
open Go.RowKit Go.Shelf Go.Maps
attribute [local go_sem] Oper.semAt_some

theorem ownI_ne_ar {B b : Nat} {W : World} {v : Value} {zs ys : List Int} (h : OwnI B W v zs) (hb : ArI W b ys) : v.ownBlock ≠ some b := fun e => by
  obtain ⟨_, h2⟩ := h
  have hb' : W.heap[b]? = _ := hb
  rcases h2 with ⟨e2, _⟩ | ⟨g, cap, cur, e2, _, hh, _⟩
  · rw [e2] at e; simp [Value.ownBlock] at e
  · rw [e2] at e; simp [Value.ownBlock] at e; subst e; rw [hb'] at hh; simp at hh
theorem keep_row {v : Value} {b : Nat} (h : v.ownBlock ≠ some b) : some b ≠ v.ownBlock := fun e => h e.symm

/-- a loop over the days that a round leaves by a return -/
theorem work_loopX {bC bD D L N : Nat} {sv fv : Value} {x : Int} {rs : List Int} {fn : FuncId} {T : Array Value} {ps : Array Tmp} {asg bd : Code} {W0 : World} (hg : gardenOk rs = true) (hch : ChooseAt rs fv x) (hN : N ≤ 200) (n₀ : Nat) (hI : ∀ W, Below n₀ W0 W → Ints W.heap.size W sv rs)
    (I : Nat → World → Prop) (Jx : World → Prop)
    (hmove : ∀ (k : Nat) W W', I k W → Below W.heap.size W W' → I k W')
    (hstore : ∀ (k : Nat) W b ys, I k W → W0.heap.size ≤ b → ArI W b ys → ∀ zs, I k (stoI W b zs))
    (hsame : ∀ (k : Nat) W, I k W → Below n₀ W0 W)
    (hround : ∀ (k : Nat) (b4 b5 : Nat) W, k < N → W0.heap.size ≤ b4 → W0.heap.size ≤ b5 → EnvW bC bD b4 b5 D L sv fv x N rs (upG rs x k) (recOf fn T ps asg bd D .ready none) W → I k W → YieldAt Fence.wide 9 Try.prog L #[arI (upG rs x k), .int .i64 (dayG rs x k)] W fun e W' =>
      (e = .returned (.bool true) ∧ EnvW bC bD b4 b5 D L sv fv x N rs (upG rs x k) (recOf fn T ps asg bd D .ready none) W' ∧ I (k + 1) W') ∨ (e = .returned (.bool false) ∧ Jx W' ∧ W'.heap[L]? = some (.loop (recOf fn T ps asg bd D .done (some .ret)))))
    (hC : Cut3 W0 bC sv fv x) (hD : Boxed W0 bD 2 (.int .i64 N)) (hdef : W0.heap[D]? = some (.deferred (some []))) (hrec : W0.heap[L]? = some (.loop (recOf fn T ps asg bd D .ready none))) (h0 : I 0 W0) :
    CallsIn Fence.wide 10 Try.prog 133 #[.func (.yield L) #[] #[], .pointer (some ⟨bC, 0, none⟩), .pointer (some ⟨bD, 0, none⟩)] W0 fun e W' => (∃ v, e = .returned v) ∧
      ((W'.heap[D]? = some (.deferred (some [])) ∧ W'.heap[L]? = some (.loop (recOf fn T ps asg bd D .ready none)) ∧ I N W') ∨ (Jx W' ∧ W'.heap[L]? = some (.loop (recOf fn T ps asg bd D .done (some .ret))))) :=
  work_loop hg hch hN n₀ hI I (fun W' => Jx W' ∧ W'.heap[L]? = some (.loop (recOf fn T ps asg bd D .done (some .ret)))) hmove hstore hsame hround hC hD hdef hrec h0

/-- what a day of the round keeps besides: the results' variables and the map's -/
structure InvZ (w : World) (M6 m : Nat) (W : World) : Prop where
  r1 : Boxed W (w.heap.size + 1) 22 (.slice none 0 0)
  r2 : Boxed W (w.heap.size + 1 + 1) 2 (.int .i64 0)
  r3 : Boxed W (w.heap.size + 1 + 1 + 1) 2 (.int .i64 0)
  mv : Boxed W M6 132 (.map (some m))
  below : Below w.heap.size w W
theorem InvZ.later {w : World} {M6 m : Nat} {W W' : World} (h : InvZ w M6 m W) (hb : Below W.heap.size W W') : InvZ w M6 m W' :=
  ⟨boxed_later h.r1 hb, boxed_later h.r2 hb, boxed_later h.r3 hb, boxed_later h.mv hb, h.below.trans (hb.mono h.below.size)⟩
theorem InvZ.kept {w : World} {M6 m : Nat} {W W' : World} {row : Option Nat} (h : InvZ w M6 m W) (hg : W.grownBy W' row) (h0 : ∀ j, row = some j → w.heap.size + 4 ≤ j) (h1 : some M6 ≠ row) : InvZ w M6 m W' :=
  ⟨h.r1.kept hg (fun e => by have := h0 _ e.symm; omega), h.r2.kept hg (fun e => by have := h0 _ e.symm; omega), h.r3.kept hg (fun e => by have := h0 _ e.symm; omega), h.mv.kept hg h1, h.below.grown hg h.below.size (fun j e => by have := h0 j e; omega)⟩

/-- what a round knows of the world: the iterator's, the function's, the map's, the loop variable's cells -/
structure RndZ (w V : World) (M6 m bC bD b4 b5 D L bU : Nat) (sv fv : Value) (x : Int) (N : Nat) (rs hs : List Int) (rec : Loop) (n : Nat) (W : World) : Prop where
  E : EnvW bC bD b4 b5 D L sv fv x N rs hs rec W
  Z : InvZ w M6 m W
  M : CMapG W rs x m n
  U : ArI W bU hs
  B : Below w.heap.size V W
theorem RndZ.kept {w V : World} {M6 m bC bD b4 b5 D L bU : Nat} {sv fv : Value} {x : Int} {N : Nat} {rs hs : List Int} {rec : Loop} {n : Nat} {W W' : World} {row : Option Nat}
    (h : RndZ w V M6 m bC bD b4 b5 D L bU sv fv x N rs hs rec n W) (hg : W.grownBy W' row) (hv : w.heap.size ≤ V.heap.size) (h0 : ∀ j, row = some j → w.heap.size + 4 ≤ j)
    (h1 : some bC ≠ row) (h2 : some bD ≠ row) (h3 : some b4 ≠ row) (h4 : some b5 ≠ row) (h5 : some D ≠ row) (h6 : some L ≠ row) (h7 : some M6 ≠ row) (h8 : some m ≠ row) (h9 : some bU ≠ row) :
    RndZ w V M6 m bC bD b4 b5 D L bU sv fv x N rs hs rec n W' :=
  ⟨h.E.kept hg h1 h2 h3 h4 h5 h6, h.Z.kept hg h0 h7, h.M.kept hg h8, h.U.kept hg h9, h.B.grown hg (Nat.le_trans hv h.B.size) (fun j e => by have := h0 j e; omega)⟩
theorem RndZ.later {w V : World} {M6 m bC bD b4 b5 D L bU : Nat} {sv fv : Value} {x : Int} {N : Nat} {rs hs : List Int} {rec : Loop} {n : Nat} {W W' : World}
    (h : RndZ w V M6 m bC bD b4 b5 D L bU sv fv x N rs hs rec n W) (hb : Below W.heap.size W W') (hv : w.heap.size ≤ V.heap.size) :
    RndZ w V M6 m bC bD b4 b5 D L bU sv fv x N rs hs rec n W' :=
  ⟨h.E.later hb, h.Z.later hb, h.M.later hb, h.U.later hb, h.B.trans (hb.mono (Nat.le_trans hv h.B.size))⟩
/-- the end of a round -/
theorem RndZ.ends {w V : World} {M6 m bC bD b4 b5 D L bU : Nat} {sv fv : Value} {x : Int} {N : Nat} {rs hs : List Int} {rec : Loop} {n : Nat} {W : World}
    (h : RndZ w V M6 m bC bD b4 b5 D L bU sv fv x N rs hs rec n W) (hv : w.heap.size ≤ V.heap.size) (h0 : w.heap.size + 4 ≤ L)
    (h1 : bC ≠ L) (h2 : bD ≠ L) (h3 : b4 ≠ L) (h4 : b5 ≠ L) (h5 : D ≠ L) (h7 : M6 ≠ L) (h8 : m ≠ L) (r2 : Loop) :
    EnvW bC bD b4 b5 D L sv fv x N rs hs r2 (W.putObj L (.loop r2)) ∧ InvZ w M6 m (W.putObj L (.loop r2)) ∧ CMapG (W.putObj L (.loop r2)) rs x m n ∧ Below w.heap.size V (W.putObj L (.loop r2)) := by
  have hg := grownBy_putObj' W L (.loop r2)
  have hl := (Array.getElem?_eq_some_iff.1 h.E.rec_).1
  refine ⟨⟨h.E.c.kept hg (by simpa using h1), h.E.d.kept hg (by simpa using h2), h.E.r.kept hg (by simpa using h3), h.E.h.kept hg (by simpa using h4), (hg.block D (Array.getElem?_eq_some_iff.1 h.E.def_).1 (by simpa using h5)).trans h.E.def_, World.putObj_heap_same hl⟩,
    h.Z.kept hg (fun j e => by cases e; omega) (by simpa using h7), h.M.kept hg (by simpa using h8), h.B.grown hg (Nat.le_trans hv h.B.size) (fun j e => by cases e; omega)⟩

set_option maxRecDepth 100000 in
set_option maxHeartbeats 16000000 in
theorem roundOfCuts_c (c0 fv : Value) (rs : List Int) (x : Int) (w : World) (hI : Ints w.heap.size w c0 rs) (hg : gardenOk rs = true) (hch : ChooseAt rs fv x) :
    Calls Try.prog 105 #[.agg #[c0, fv, .int .i64 x]] w (GivesI w (rdT rs x) fun v => .tuple #[v, .int .i64 (rdD rs x), .int .i64 (rdC rs x)]) := by
  obtain ⟨i0, hi, hz0, hz1, hz2⟩ := info_parts Try.infoI
  obtain ⟨a, cap, rfl⟩ := hI.shape
  have hl8 := gardenOk_len hg
  have hmk : ∀ w, (Instr.makeMap 132 none).run Try.prog w = .ok (.map (some w.heap.size)) (w.alloc (.map #[] 0)) := fun _ => rfl
  obtain ⟨A1, hA1⟩ : ∃ A1, (((((w.alloc (.cells #[.slice a rs.length cap, fv, .int .i64 x] 98)).alloc (.cells #[.slice none 0 0] 22)).alloc (.cells #[.int .i64 0] 2)).alloc (.cells #[.int .i64 0] 2)).alloc (.cells #[.slice none 0 0] 22)) = A1 := ⟨_, rfl⟩
  have hs1 : A1.heap.size = w.heap.size + 5 := by rw [← hA1]; simp
  have hBa : Below w.heap.size w A1 := by rw [← hA1]; exact (((((Below.refl _ w).alloc (Nat.le_refl _) _).alloc (by simp) _).alloc (by simp; omega) _).alloc (by simp; omega) _).alloc (by simp; omega) _
  have aC : Cut3 A1 w.heap.size (.slice a rs.length cap) fv x := by rw [← hA1]; exact ((((Cut3.new _ _ _ _).alloc _).alloc _).alloc _).alloc _
  have a1 : Boxed A1 (w.heap.size + 1) 22 (.slice none 0 0) := by rw [← hA1]; repeat first | (refine boxed_at ?_; (simp; done)) | refine Boxed.alloc ?_ _
  have a2 : Boxed A1 (w.heap.size + 1 + 1) 2 (.int .i64 0) := by rw [← hA1]; repeat first | (refine boxed_at ?_; (simp; done)) | refine Boxed.alloc ?_ _
  have a3 : Boxed A1 (w.heap.size + 1 + 1 + 1) 2 (.int .i64 0) := by rw [← hA1]; repeat first | (refine boxed_at ?_; (simp; done)) | refine Boxed.alloc ?_ _
  have a5 : Boxed A1 (w.heap.size + 1 + 1 + 1 + 1) 22 (.slice none 0 0) := by rw [← hA1]; repeat first | (refine boxed_at ?_; (simp; done)) | refine Boxed.alloc ?_ _
  have hb1 : Below A1.heap.size A1 (A1.alloc (.map #[] 0)) := (Below.refl _ _).alloc (Nat.le_refl _) _
  have hM0 : CMapG (A1.alloc (.map #[] 0)) rs x A1.heap.size 0 := CMapG.new rs x (World.alloc_heap_new _ _)
  obtain ⟨A2, hput, hM1, hg2⟩ := hM0.put hg (fun i hi => by omega) (by omega)
  have ez : arI (stG rs x 0) = .agg #[.int .i64 0, .int .i64 0, .int .i64 0, .int .i64 0, .int .i64 0, .int .i64 0, .int .i64 0, .int .i64 0] := by
    unfold arI ceI
    rw [show stG rs x 0 = List.replicate rs.length 0 from rfl]
    simp only [nth_zeros]
  rw [ez] at hput
  have hs2 : A1.heap.size + 1 ≤ A2.heap.size := by have := hg2.size; simpa using this
  have aC2 := (aC.later hb1).kept hg2 (by simp; omega)
  have b1 := (boxed_later a1 hb1).kept hg2 (by simp; omega)
  have b2 := (boxed_later a2 hb1).kept hg2 (by simp; omega)
  have b3 := (boxed_later a3 hb1).kept hg2 (by simp; omega)
  have b5 := (boxed_later a5 hb1).kept hg2 (by simp; omega)
  have hBb : Below w.heap.size w A2 := (hBa.trans (hb1.mono (by omega))).grown hg2 (by simp; omega) (fun j e => by cases e; omega)
  have Hch := Lib.hid hch
  rw [hs1] at hput hM1 hs2
  have hput2 : (Instr.mapUpdate 132 (.map (some (w.heap.size + 5))) (.agg #[.int .i64 0, .int .i64 0, .int .i64 0, .int .i64 0, .int .i64 0, .int .i64 0, .int .i64 0, .int .i64 0]) (.int .i64 0)).run Try.prog (A1.alloc (.map #[] 0)) = .ok () A2 := hput
  have k0 := aC2.c0
  have k1 := aC2.c1
  have k2 := aC2.c2
  have hlC : w.heap.size < A2.heap.size := by omega
  clear hch aC a1 a2 a3 a5 hb1 hM0 hput hg2 ez hBa
  refine (callsIn_wide (n := 11)).1 ?_
  refine callsIn_of_wp_marks Try.func105 rfl trivial ?_ rfl
  simp only [Try.ntmps105, List.size_toArray, List.length_cons, List.length_nil, Nat.reduceAdd, Nat.reduceSub, Array.replicate_succ, Array.replicate_zero, List.push_toArray, List.append_toArray, List.nil_append, List.cons_append]
  gi_wp2_with fail
  obtain ⟨m, hm0⟩ : ∃ m, w.heap.size + 5 = m := ⟨_, rfl⟩
  have hmw : w.heap.size + 5 ≤ m := by omega
  have hmw2 : m ≤ w.heap.size + 5 := by omega
  rw [hm0] at hM1 hs2 ⊢
  obtain ⟨A3, hA3⟩ : ∃ A3, A2.alloc (.cells #[.map (some m)] 132) = A3 := ⟨_, rfl⟩
  have hb3 : Below A2.heap.size A2 A3 := by rw [← hA3]; exact (Below.refl _ _).alloc (Nat.le_refl _) _
  have bM : Boxed A3 A2.heap.size 132 (.map (some m)) := by rw [← hA3]; exact Boxed.new _ _ _
  have hs3 : A2.heap.size + 1 ≤ A3.heap.size := by rw [← hA3]; simp
  have hM3 := hM1.later hb3
  have aC3 := aC2.later hb3
  have Z3 : InvZ w A2.heap.size m A3 := ⟨boxed_later b1 hb3, boxed_later b2 hb3, boxed_later b3 hb3, bM, hBb.trans (hb3.mono hBb.size)⟩
  have b5' := boxed_later b5 hb3
  try rw [hA3]
  clear hA3 hA1 hput2 hmk hs1 hb3 bM hM1 aC2 b1 b2 b3 b5 hBb hm0 k0 k1 k2 hlC
  refine ⟨trivial, (callsIn_wide.2 (work_c _ _ _ _ _)).mono ?_⟩
  rintro e w4 ⟨rfl, hw4⟩
  have hb4 : Below A3.heap.size A3 w4 := by rw [hw4]; exact ((Below.refl _ _).alloc (Nat.le_refl _) _).alloc (by simp) _
  have bC : Cut3 w4 A3.heap.size (.slice a rs.length cap) fv x := by rw [hw4]; exact (Cut3.new _ _ _ _).alloc _
  have bD : Boxed w4 (A3.heap.size + 1) 2 (.int .i64 (200 : Nat)) := by rw [hw4]; repeat first | (refine boxed_at ?_; (simp; done)) | refine Boxed.alloc ?_ _
  have hs4 : A3.heap.size + 2 ≤ w4.heap.size := by rw [hw4]; simp
  have Z4 := Z3.later hb4
  have hM4 := hM3.later hb4
  have b6 := boxed_later b5' hb4
  clear hw4 hb4 Z3 hM3 b5' aC3
  gi_wp2_with fail
  refine range_enter rfl (by omega) rfl trivial (enters_of Try.func133 (by kernel_rfl) rfl) ?_
  intro fn hfn
  obtain ⟨V0, hV0⟩ : ∃ V0 : Loop → World, ∀ rec, (w4.alloc (.deferred (some []))).alloc (.loop rec) = V0 rec := ⟨_, fun _ => rfl⟩
  have hDL : (w4.alloc (.deferred (some []))).heap.size = w4.heap.size + 1 := World.size_alloc _ _
  have hsz0 : ∀ rec, (V0 rec).heap.size = w4.heap.size + 2 := fun rec => by rw [← hV0]; simp
  have hbn : ∀ rec, Below w4.heap.size w4 (V0 rec) := fun rec => by rw [← hV0]; exact ((Below.refl _ _).alloc (Nat.le_refl _) _).alloc (by simp) _
  have hdf : ∀ rec, (V0 rec).heap[w4.heap.size]? = some (.deferred (some [])) := fun rec => by rw [← hV0]; exact (Below.heap_alloc _ _ _ (by simp)).trans (World.alloc_heap_new _ _)
  have hrc : ∀ rec, (V0 rec).heap[w4.heap.size + 1]? = some (.loop rec) := fun rec => by rw [← hV0]; have := World.alloc_heap_new (w4.alloc (.deferred (some []))) (.loop rec); rw [hDL] at this; exact this
  rw [hV0]
  clear hV0 hDL
  have Hs0 := Lib.hid hsz0
  have Hbn := Lib.hid hbn
  have hw4s := Z4.below.size
  refine (work_loopX (N := 200) hg Hch.out (by omega) w.heap.size (fun W hW => hI.later (Z4.below.trans (((hbn _).mono hw4s).trans hW)))
    (fun k W => roundG rs x k = none ∧ InvZ w A2.heap.size m W ∧ CMapG W rs x m (k + 1) ∧ (∃ v, Boxed W (w.heap.size + 1 + 1 + 1 + 1) 22 v ∧ OwnI (w4.heap.size + 2) W v (cutsG rs x k)) ∧ Below w.heap.size (V0 _) W)
    (fun W => rdC rs x = 0 ∧ W.heap[w4.heap.size]? = some (.deferred (some [])) ∧ (∃ v, Boxed W (w.heap.size + 1) 22 v ∧ OwnI (w4.heap.size + 2) W v (rdT rs x)) ∧ Boxed W (w.heap.size + 1 + 1) 2 (.int .i64 (rdD rs x)) ∧ Boxed W (w.heap.size + 1 + 1 + 1) 2 (.int .i64 0) ∧ Below w.heap.size w W)
    ?hmove ?hstore ?hsame ?hround (bC.later (hbn _)) (boxed_later bD (hbn _)) (hdf _) (hrc _) ⟨rfl, Z4.later (hbn _), hM4.later (hbn _), ⟨_, boxed_later b6 (hbn _), ownI_nil _ _⟩, Below.refl _ _⟩).mono ?post
  case hmove =>
    rintro k W W' ⟨h0, Z, hM, ⟨v, bv, ov⟩, hB⟩ hb
    exact ⟨h0, Z.later hb, hM.later hb, ⟨v, boxed_later bv hb, ov.below hb⟩, hB.trans (hb.mono (by have := hB.size; rw [Hs0.out] at this; omega))⟩
  case hstore =>
    rintro k W b ys ⟨h0, Z, hM, ⟨v, bv, ov⟩, hB⟩ hb hA zs
    rw [Hs0.out] at hb
    have hgs := grownBy_stoI W b zs
    exact ⟨h0, Z.kept hgs (fun j e => by cases e; omega) (by simp; omega), hM.kept hgs (by simp; omega), ⟨v, bv.kept hgs (by simp; omega), ov.kept hgs (.inr (ownI_ne_ar ov hA))⟩, below_stoI zs hB (by omega) (by rw [Hs0.out]; omega)⟩
  case hsame =>
    rintro k W ⟨_, _, _, _, hB⟩
    exact hB
  case hround =>
    rintro k b4 b5 W hk hb4 hb5 E ⟨h0, Z, hM, ⟨v, bv, ov⟩, hB⟩
    rw [Hs0.out] at hb4 hb5
    have hsW : w4.heap.size + 2 ≤ W.heap.size := by have := hB.size; rw [Hs0.out] at this; omega
    have hcb := dayG_bd rs x k
    have hny : ∀ i : Nat, i < 8 → nth (stG rs x (k + 1)) i = if dayG rs x k = (i : Int) then 0 else nth (upG rs x k) i := fun i _ => by rw [stG_succ]; exact nth_cutAt hcb.1 i
    have hsuc := cutsG_succ rs x k
    have hcl := cutsG_length rs x k
    obtain ⟨up, hup⟩ : ∃ up, upG rs x k = up := ⟨_, rfl⟩
    obtain ⟨cv, hcv⟩ : ∃ cv, dayG rs x k = cv := ⟨_, rfl⟩
    rw [hup] at E hny ⊢
    rw [hcv] at hcb hny hsuc ⊢
    have Hny := Lib.hid hny
    have Hsuc := Lib.hid hsuc
    have Hcb := Lib.hid hcb
    have H0 := Lib.hid h0
    have hcl2 : (cutsG rs x k).length ≤ 200 := by omega
    clear hup hcv hny hsuc hcb h0 hcl
    have HH := Lib.hid (And.intro bv (And.intro hB (And.intro E (And.intro Z (And.intro hM ov)))))
    have hRW := Lib.hid E.rec_
    obtain ⟨A2', hA2⟩ : ∃ A2', W.alloc (.cells #[.int .i64 0, .int .i64 0, .int .i64 0, .int .i64 0, .int .i64 0, .int .i64 0, .int .i64 0, .int .i64 0] 90) = A2' := ⟨_, rfl⟩
    have bS : ArI A2' W.heap.size [] := by rw [← hA2]; exact ArI.new W []
    have hbW : Below W.heap.size W (stoI A2' W.heap.size up) := by rw [← hA2]; exact below_stoI up ((Below.refl _ _).alloc (Nat.le_refl _) _) (Nat.le_refl _) (Nat.le_refl _)
    have HbW := Lib.hid hbW
    have hL1 := Lib.hid ((hbW.block _ (by omega)).trans hRW.out)
    have HbS := Lib.hid (ArI.storedI up bS)

    have cA0 := bS.cell (i := 0) (by omega)
    have cA1 := bS.cell (i := 1) (by omega)
    have cA2 := bS.cell (i := 2) (by omega)
    have cA3 := bS.cell (i := 3) (by omega)
    have cA4 := bS.cell (i := 4) (by omega)
    have cA5 := bS.cell (i := 5) (by omega)
    have cA6 := bS.cell (i := 6) (by omega)
    have cA7 := bS.cell (i := 7) (by omega)
    have fA0 := bS.frozen 0
    have fA1 := bS.frozen 1
    have fA2 := bS.frozen 2
    have fA3 := bS.frozen 3
    have fA4 := bS.frozen 4
    have fA5 := bS.frozen 5
    have fA6 := bS.frozen 6
    have fA7 := bS.frozen 7

    clear hbW E bv hB Z hM ov
    refine yield_roundG (W1 := stoI A2' W.heap.size up) trivial hRW.out hL1.out rfl ?a1 ?assign ?body
    case assign =>
      intro K0 hK0
      unfold arI ceI
      go_simp
      gi_wp2
      exact hK0
    case body =>
      obtain ⟨bv, hB, E, Z, hM, ov⟩ := HH.out
      have hbW := HbW.out
      have bS1 := HbS.out
      obtain ⟨W1, hW1⟩ : ∃ W1, stoI A2' W.heap.size up = W1 := ⟨_, rfl⟩
      rw [hW1] at hbW bS1
      rw [hW1]
      have hVw : w.heap.size ≤ w4.heap.size + 2 := by omega
      intro Wb hgb hbusy
      have bv3 := (boxed_later bv hbW).kept hgb (by simp; omega)
      have hovne : v.ownBlock ≠ some (w4.heap.size + 1) := fun e => by have := (ov.blk _ e).1; omega
      have ov3 := (ov.below hbW).kept hgb (.inr hovne)
      have E2 := E.later hbW
      have B2 := hB.trans (hbW.mono (by omega))
      have R3 : RndZ w (V0 _) A2.heap.size m A3.heap.size (A3.heap.size + 1) b4 b5 w4.heap.size (w4.heap.size + 1) W.heap.size (.slice a rs.length cap) fv x 200 rs up _ (k + 1) Wb :=
        ⟨⟨E2.c.kept hgb (by simp; omega), E2.d.kept hgb (by simp; omega), E2.r.kept hgb (by simp; omega), E2.h.kept hgb (by simp; omega), (hgb.block _ (Array.getElem?_eq_some_iff.1 E2.def_).1 (by simp)).trans E2.def_, hbusy⟩,
          (Z.later hbW).kept hgb (fun j e => by cases e; omega) (by simp; omega), (hM.later hbW).kept hgb (by simp; omega), bS1.kept hgb (by simp; omega), B2.grown hgb (by have := B2.size; rw [Hs0.out] at this; omega) (fun j e => by cases e; omega)⟩
      have hv2 := hgb.size
      have hsb : W.heap.size + 1 ≤ Wb.heap.size := R3.U.lt
      have hbusy2 := Lib.hid hbusy
      have HR := Lib.hid R3
      have c3 := bv3.cell
      have f3 := bv3.frozen
      clear hW1 HbW HbS hL1 hRW HH bS hA2 cA0 fA0 cA1 fA1 cA2 fA2 cA3 fA3 cA4 fA4 cA5 fA5 cA6 fA6 cA7 fA7 bv hB E Z hM ov hbW bS1 E2 B2 hovne R3 hgb hbusy
      gi_wp2_with (gi_at_builtin; refine wpListIn_append_own _ rfl _ _ 22 rfl (w4.heap.size + 2) 2 i0 (.int .i64 0) 1 8 Try.underlying22 hi hz0 hz1 hz2 rfl (by decide) _ _ _ rfl (World.ownsRow.alloc ov3 _) ⟨Wb.heap.size, 0, none⟩ 1 1 [.int .i64 cv] rfl rfl (Go.cell_one_new _ _ _) (by simp [Value.oneCell']) (by unfold maxLen; omega) (by omega) (by simp; omega) ?_)
      intro v' w6 hown' hgrow _
      have ho2 := ownI_snoc hown'
      rw [← Hsuc.out] at ho2
      obtain ⟨g', cap', rfl, hg1, hg2⟩ := ho2.shape (by rw [cutsG_length]; omega)
      have hccl : k + 1 ≤ cap' := by
        obtain ⟨_, h2⟩ := ho2
        rcases h2 with ⟨e, _⟩ | ⟨g, c, cur, e, _, _, h3, _⟩
        · simp at e
        · rw [cutsG_length] at h3
          simp only [Value.slice.injEq] at e
          omega
      obtain ⟨r1, r2, r3, r4⟩ := appended bv3 (by omega) ov3 ho2 hgrow
      have hgr : Wb.grownBy w6 v.ownBlock := (World.grownBy_alloc _ _ _).trans hgrow
      have neV : ∀ q, q < w4.heap.size + 2 → some q ≠ v.ownBlock := fun q hq e => by have := (ov3.blk q e.symm).1; omega
      have R6 := HR.out.kept hgr (by rw [Hs0.out]; omega) (fun j e => by have := (ov3.blk j e).1; omega) (neV _ (by omega)) (neV _ (by omega)) (keep_row (ownI_ne_ar ov3 HR.out.E.r)) (keep_row (ownI_ne_ar ov3 HR.out.E.h)) (neV _ (by omega)) (neV _ (by omega)) (neV _ (by omega)) (neV _ (by omega)) (keep_row (ownI_ne_ar ov3 HR.out.U))
      have s6 := hgr.size
      have cc1 := r1.cell
      have ff1 := r1.frozen
      have hlen := cutsG_length rs x (k + 1)
      rw [hlen] at r2 r3 ⊢
      have R7 := R6.kept (grownBy_setCell2 w6 (w.heap.size + 1 + 1 + 1 + 1) 0 (.slice (some ⟨g', 0, none⟩) (k + 1) cap')) (by rw [Hs0.out]; omega) (fun j e => by cases e; omega) (by simp; omega) (by simp; omega) (by simp; omega) (by simp; omega) (by simp; omega) (by simp; omega) (by simp; omega) (by simp; omega) (by simp; omega)
      have HR7 := Lib.hid R7
      have HR2 := Lib.hid (And.intro r2 r3)
      have s7 := (grownBy_setCell2 w6 (w.heap.size + 1 + 1 + 1 + 1) 0 (.slice (some ⟨g', 0, none⟩) (k + 1) cap')).size
      clear r2 r3 R7 R6 r4 neV hgr c3 f3 hown' hgrow bv3 ov3 ho2 hlen HR hg1 hg2
      iterate 3 (first | gi_guarded | gi_step | gi_upon | gi_in | gi_back)
      obtain ⟨Wf, hWf⟩ : ∃ Wf, w6.setCell ⟨w.heap.size + 1 + 1 + 1 + 1, 0, none⟩ (.slice (some ⟨g', 0, none⟩) (k + 1) cap') = Wf := ⟨_, rfl⟩
      rw [hWf] at HR7 HR2 s7 ⊢
      have U8 := HR7.out.U
      have hlU := U8.lt

      have cU0 := U8.cell (i := 0) (by omega)
      have cU1 := U8.cell (i := 1) (by omega)
      have cU2 := U8.cell (i := 2) (by omega)
      have cU3 := U8.cell (i := 3) (by omega)
      have cU4 := U8.cell (i := 4) (by omega)
      have cU5 := U8.cell (i := 5) (by omega)
      have cU6 := U8.cell (i := 6) (by omega)
      have cU7 := U8.cell (i := 7) (by omega)

      clear hWf cc1 ff1 r1 U8
      gi_wp2_with fail
      refine ⟨trivial, ((callsIn_wide.2 (without_c up (stG rs x (k + 1)) cv _ Hcb.out.1 (by have := Hcb.out.2; omega) Hny.out)).inRound _).mono ?_⟩
      rintro e w8 ⟨rfl, hb8⟩
      have R9 := HR7.out.later hb8 (by rw [Hs0.out]; omega)
      obtain ⟨r2, r3⟩ := HR2.out
      have HR3 := Lib.hid (And.intro (boxed_later r2 hb8) (r3.below hb8))
      have s8 := hb8.size
      have HR9 := Lib.hid R9
      obtain ⟨st, hst⟩ : ∃ st, stG rs x (k + 1) = st := ⟨_, rfl⟩
      rw [hst]
      have Hst := Lib.hid hst
      obtain ⟨A9, hA9⟩ : ∃ A9, w8.alloc (.cells #[.int .i64 0, .int .i64 0, .int .i64 0, .int .i64 0, .int .i64 0, .int .i64 0, .int .i64 0, .int .i64 0] 90) = A9 := ⟨_, rfl⟩
      have bP : ArI A9 w8.heap.size [] := by rw [← hA9]; exact ArI.new w8 []
      have hb9 : Below w8.heap.size w8 (stoI A9 w8.heap.size st) := by rw [← hA9]; exact below_stoI st ((Below.refl _ _).alloc (Nat.le_refl _) _) (Nat.le_refl _) (Nat.le_refl _)
      have Hb9 := Lib.hid hb9
      have HbP := Lib.hid (ArI.storedI st bP)

      have cP0 := bP.cell (i := 0) (by omega)
      have cP1 := bP.cell (i := 1) (by omega)
      have cP2 := bP.cell (i := 2) (by omega)
      have cP3 := bP.cell (i := 3) (by omega)
      have cP4 := bP.cell (i := 4) (by omega)
      have cP5 := bP.cell (i := 5) (by omega)
      have cP6 := bP.cell (i := 6) (by omega)
      have cP7 := bP.cell (i := 7) (by omega)
      have fP0 := bP.frozen 0
      have fP1 := bP.frozen 1
      have fP2 := bP.frozen 2
      have fP3 := bP.frozen 3
      have fP4 := bP.frozen 4
      have fP5 := bP.frozen 5
      have fP6 := bP.frozen 6
      have fP7 := bP.frozen 7

      clear hst hb8 R9 r2 r3 bP hb9 HR7 HR2 cU0 cU1 cU2 cU3 cU4 cU5 cU6 cU7
      unfold arI ceI
      go_simp
      iterate 7 (first | gi_guarded | gi_step | gi_upon | gi_in | gi_back)
      obtain ⟨W9, hW9⟩ : ∃ W9, stoI A9 w8.heap.size st = W9 := ⟨_, rfl⟩
      rw [hW9] at Hb9 HbP
      unfold stoI at hW9
      rw [hW9]
      have bP9 := HbP.out
      have R9 := HR9.out.later Hb9.out (by rw [Hs0.out]; omega)
      have s9 := Hb9.out.size
      have HR := Lib.hid R9
      have bc9 := boxed_later HR3.out.1 Hb9.out
      have oc9 := HR3.out.2.below Hb9.out
      have cM := R9.Z.mv.cell
      have cC := bc9.cell
      have hlk := R9.M.look hg (by omega)
      have hlM := R9.Z.mv.lt
      have hlC := bc9.lt
      have hlP := bP9.lt

      have cQ0 := bP9.cell (i := 0) (by omega)
      have cQ1 := bP9.cell (i := 1) (by omega)
      have cQ2 := bP9.cell (i := 2) (by omega)
      have cQ3 := bP9.cell (i := 3) (by omega)
      have cQ4 := bP9.cell (i := 4) (by omega)
      have cQ5 := bP9.cell (i := 5) (by omega)
      have cQ6 := bP9.cell (i := 6) (by omega)
      have cQ7 := bP9.cell (i := 7) (by omega)

      rw [Hst.out] at hlk
      unfold arI ceI at hlk
      have Hoc := Lib.hid oc9
      have Hbc := Lib.hid bc9
      have hbl := oc9.blk
      clear hW9 HR9 HR3 R9 bP9 Hb9 HbP hA9 oc9 bc9 cP0 fP0 cP1 fP1 cP2 fP2 cP3 fP3 cP4 fP4 cP5 fP5 cP6 fP6 cP7 fP7
      rcases hlk with ⟨q, hq, he, hl⟩ | ⟨hne, hl⟩
      · have hrd2 := Lib.hid (rd_some H0.out (backG_of H0.out (show q ≤ k by omega) (he.trans Hst.out.symm)) hk)
        have hqk : (q : Int) < (k : Int) + 1 := by omega
        have hcd := ints_drop (n := q) (show Ints _ _ (.slice (some ⟨g', 0, none⟩) (cutsG rs x (k + 1)).length cap') (cutsG rs x (k + 1)) by rw [cutsG_length]; exact Hoc.out.ints) (by rw [cutsG_length]; omega)
        rw [List.length_drop, cutsG_length] at hcd
        have hcl3 : ((cutsG rs x (k + 1)).drop q).length = k + 1 - q := by rw [List.length_drop, cutsG_length]
        have Hcd := Lib.hid hcd
        have Hcl2 := Lib.hid hcl3
        have hkc : ¬ cap' = q := by omega
        have hkc2 : (q : Int) ≤ (cap' : Int) := by omega
        have hkc3 : (k : Int) + 1 ≤ (cap' : Int) := by omega
        clear he hcd hcl3
        gi_wp2_with fail
        refine ⟨trivial, ((callsIn_wide.2 (clone_c _ ((cutsG rs x (k + 1)).drop q) _ (by simpa using Hcd.out) (by rw [Hcl2.out]; omega) (by rw [Hcl2.out]; omega))).inRound _).mono ?_⟩
        rintro e w10 ⟨vo, rfl, hoo, hb10⟩
        simp only [id]
        have R10 := HR.out.later hb10 (by rw [Hs0.out]; omega)
        obtain ⟨g2, cap2, hvo, hg2, hg3⟩ := hoo.shape (by rw [Hcl2.out]; omega)
        rw [Hcl2.out] at hvo
        subst hvo
        have q1 := R10.Z.r1.cell
        have q2 := R10.Z.r2.cell
        have q3 := R10.Z.r3.cell
        have g1 := R10.Z.r1.frozen
        have g2' := R10.Z.r2.frozen
        have g3 := R10.Z.r3.frozen
        have s10 := hb10.size
        have HR10 := Lib.hid R10
        have Hoo := Lib.hid hoo
        clear hl cM cC cQ0 cQ1 cQ2 cQ3 cQ4 cQ5 cQ6 cQ7 R10 hoo hb10
        gi_wp2
        have R := HR10.out
        have ho := Hoo.out
        have hob := ho.blk
        have hd1 := (KeepsOthers.setCell w10 ⟨w.heap.size + 1, 0, none⟩ (.slice (some ⟨g2, 0, none⟩) (k + 1 - q) cap2)).same w4.heap.size _ R.E.def_ rfl
        have hd2 := (KeepsOthers.setCell _ ⟨w.heap.size + 1 + 1, 0, none⟩ (.int .i64 (q : Int))).same w4.heap.size _ hd1 rfl
        have hd3 := (KeepsOthers.setCell _ ⟨w.heap.size + 1 + 1 + 1, 0, none⟩ (.int .i64 0)).same w4.heap.size _ hd2 rfl
        have hl1 := (KeepsOthers.setCell w10 ⟨w.heap.size + 1, 0, none⟩ (.slice (some ⟨g2, 0, none⟩) (k + 1 - q) cap2)).same (w4.heap.size + 1) _ R.E.rec_ rfl
        have hl2 := (KeepsOthers.setCell _ ⟨w.heap.size + 1 + 1, 0, none⟩ (.int .i64 (q : Int))).same (w4.heap.size + 1) _ hl1 rfl
        have hl3 := (KeepsOthers.setCell _ ⟨w.heap.size + 1 + 1 + 1, 0, none⟩ (.int .i64 0)).same (w4.heap.size + 1) _ hl2 rfl
        have gs1 := grownBy_setCell2 w10 (w.heap.size + 1) 0 (.slice (some ⟨g2, 0, none⟩) (k + 1 - q) cap2)
        have gs2 := grownBy_setCell2 (w10.setCell ⟨w.heap.size + 1, 0, none⟩ (.slice (some ⟨g2, 0, none⟩) (k + 1 - q) cap2)) (w.heap.size + 1 + 1) 0 (.int .i64 (q : Int))
        have gs3 := grownBy_setCell2 ((w10.setCell ⟨w.heap.size + 1, 0, none⟩ (.slice (some ⟨g2, 0, none⟩) (k + 1 - q) cap2)).setCell ⟨w.heap.size + 1 + 1, 0, none⟩ (.int .i64 (q : Int))) (w.heap.size + 1 + 1 + 1) 0 (.int .i64 0)
        have e1 := ((R.Z.r1.set (.slice (some ⟨g2, 0, none⟩) (k + 1 - q) cap2)).kept gs2 (by simp)).kept gs3 (by simp; try omega)
        have e2 := ((R.Z.r2.kept gs1 (by simp)).set (.int .i64 (q : Int))).kept gs3 (by simp)
        have e3 := ((R.Z.r3.kept gs1 (by simp; try omega)).kept gs2 (by simp)).set (.int .i64 0)
        have eo := ((ho.kept gs1 (.inr fun e => by have := (hob _ e).1; omega)).kept gs2 (.inr fun e => by have := (hob _ e).1; omega)).kept gs3 (.inr fun e => by have := (hob _ e).1; omega)
        have eB := ((R.Z.below.setCell (p := ⟨w.heap.size + 1, 0, none⟩) (by simp) (.slice (some ⟨g2, 0, none⟩) (k + 1 - q) cap2)).setCell (p := ⟨w.heap.size + 1 + 1, 0, none⟩) (by simp; omega) (.int .i64 (q : Int))).setCell (p := ⟨w.heap.size + 1 + 1 + 1, 0, none⟩) (by simp; omega) (.int .i64 0)
        have hrw := hrd2.out
        refine ⟨hl3, .inr ⟨rfl, ⟨hrw.2.2, (World.putObj_heap_other (by omega)).trans hd3, ⟨_, e1.kept (grownBy_putObj' _ _ _) (by simp; omega), ?_⟩, ?_, e3.kept (grownBy_putObj' _ _ _) (by simp; omega), ?_⟩, World.putObj_heap_same (Array.getElem?_eq_some_iff.1 hl3).1⟩⟩
        · rw [hrw.1]; exact (eo.kept (grownBy_putObj' _ _ _) (.inr fun e => by have := (hob _ e).1; omega)).base (by omega)
        · rw [hrw.2.1]; exact e2.kept (grownBy_putObj' _ _ _) (by simp; omega)
        · exact eB.grown (grownBy_putObj' _ _ _) eB.size (fun j e => by cases e; omega)
      · have Hne := Lib.hid hne
        obtain ⟨W10, hrun, hM10, hg10⟩ := HR.out.M.put hg (fun i hi e => hne i hi (e.trans Hst.out)) (by omega)
        rw [Hst.out, show ((k + 1 : Nat) : Int) = (k : Int) + 1 by omega] at hrun
        unfold arI ceI at hrun
        have R10 : RndZ w _ A2.heap.size m A3.heap.size (A3.heap.size + 1) b4 b5 w4.heap.size (w4.heap.size + 1) W.heap.size (.slice a rs.length cap) fv x 200 rs up _ (k + 1 + 1) W10 :=
          have R := HR.out
          ⟨R.E.kept hg10 (by simp; omega) (by simp; omega) (by simp; omega) (by simp; omega) (by simp; omega) (by simp; omega), R.Z.kept hg10 (fun j e => by cases e; omega) (by simp; omega), hM10, R.U.kept hg10 (by simp; omega), R.B.grown hg10 (Nat.le_trans (by rw [Hs0.out]; omega) R.B.size) (fun j e => by cases e; omega)⟩
        have bc10 := Hbc.out.kept hg10 (by simp; omega)
        have oc10 := Hoc.out.kept hg10 (.inr fun e => by have := (hbl _ e).1; omega)
        have hrn := roundG_next H0.out (backG_none (fun j hj e => hne j (by omega) (e.trans Hst.out)))
        have HH2 := Lib.hid (And.intro R10 (And.intro bc10 (And.intro oc10 hrn)))
        clear R10 bc10 oc10 hrn hM10 hg10 hne
        gi_wp2
        obtain ⟨R10, bc10, oc10, hrn⟩ := HH2.out
        have ob10 := oc10.blk
        have he := R10.ends (by rw [Hs0.out]; omega) (by omega) (by omega) (by omega) (by omega) (by omega) (by omega) (by omega) (by omega)
        exact ⟨R10.E.rec_, .inl ⟨rfl, (he _).1, hrn, (he _).2.1, (he _).2.2.1, ⟨_, bc10.kept (grownBy_putObj' _ _ _) (by simp; omega), oc10.kept (grownBy_putObj' _ _ _) (.inr fun e => by have := (ob10 _ e).1; omega)⟩, (he _).2.2.2⟩⟩
  case post =>
    rintro e W2 ⟨⟨v, rfl⟩, ⟨hdef2, hrec2, h0, Z, hM, ⟨vc, bv, ov⟩, hB⟩ | ⟨⟨h0, hdef2, ⟨vr, bv, ov⟩, br2, br3, hB⟩, hrec2⟩⟩
    · have H := Lib.hid (rd_none h0)
      refine range_doneG hrec2 fun Wx hgx => ?_
      have Zx := Z.kept hgx (fun j e => by cases e; omega) (by simp; omega)
      have hdef3 := (hgx.block _ (Array.getElem?_eq_some_iff.1 hdef2).1 (by simp)).trans hdef2
      have q1 := Zx.r1.cell
      have q2 := Zx.r2.cell
      have q3 := Zx.r3.cell
      have g1 := Zx.r1.frozen
      have g2 := Zx.r2.frozen
      have g3 := Zx.r3.frozen
      gi_wp2
      have hK1 := (KeepsOthers.setCell Wx ⟨w.heap.size + 1, 0, none⟩ (.slice none 0 0)).same w4.heap.size _ hdef3 rfl
      have hK2 := (KeepsOthers.setCell _ ⟨w.heap.size + 1 + 1, 0, none⟩ (.int .i64 0)).same w4.heap.size _ hK1 rfl
      have hK3 := (KeepsOthers.setCell _ ⟨w.heap.size + 1 + 1 + 1, 0, none⟩ (.int .i64 3)).same w4.heap.size _ hK2 rfl
      have e1 := (boxed_shut (((Zx.r1.set (.slice none 0 0)).kept (grownBy_setCell2 _ (w.heap.size + 1 + 1) 0 (.int .i64 0)) (by simp)).kept (grownBy_setCell2 _ (w.heap.size + 1 + 1 + 1) 0 (.int .i64 3)) (by simp; try omega)) hK3).cell
      have e2 := (boxed_shut (((Zx.r2.kept (grownBy_setCell2 _ (w.heap.size + 1) 0 (.slice none 0 0)) (by simp)).set (.int .i64 0)).kept (grownBy_setCell2 _ (w.heap.size + 1 + 1 + 1) 0 (.int .i64 3)) (by simp)) hK3).cell
      have e3 := (boxed_shut (((Zx.r3.kept (grownBy_setCell2 _ (w.heap.size + 1) 0 (.slice none 0 0)) (by simp; omega)).kept (grownBy_setCell2 _ (w.heap.size + 1 + 1) 0 (.int .i64 0)) (by simp; try omega)).set (.int .i64 3)) hK3).cell
      refine retM1 hK3 ⟨.tuple #[.slice none 0 0, .int .i64 0, .int .i64 3], by simp [results, Try.results105, go_sem, e1, e2, e3], ⟨.slice none 0 0, by rw [H.out.2.1, H.out.2.2], by rw [H.out.1]; exact ownI_nil _ _, ?_⟩⟩
      exact below_shut (((Zx.below.setCell (p := ⟨w.heap.size + 1, 0, none⟩) (by simp) _).setCell (p := ⟨w.heap.size + 1 + 1, 0, none⟩) (by simp; omega) _).setCell (p := ⟨w.heap.size + 1 + 1 + 1, 0, none⟩) (by simp; omega) _) hw4s
    · refine range_jumpG hrec2 fun Wx hgx => ?_
      have bx := bv.kept hgx (by simp; omega)
      have bx2 := br2.kept hgx (by simp; omega)
      have bx3 := br3.kept hgx (by simp; omega)
      have hovne : vr.ownBlock ≠ some (w4.heap.size + 1) := fun e => by have := (ov.blk _ e).1; omega
      have ox := ov.kept hgx (.inr hovne)
      have hBx := hB.grown hgx hB.size (fun j e => by cases e; omega)
      have hdef3 := (hgx.block _ (Array.getElem?_eq_some_iff.1 hdef2).1 (by simp)).trans hdef2
      have s1 := boxed_shut bx hdef3
      have s2 := boxed_shut bx2 hdef3
      have s3 := boxed_shut bx3 hdef3
      have q1 := s1.cell
      have q2 := s2.cell
      have q3 := s3.cell
      gi_wp2
      exact retM1 hdef3 ⟨.tuple #[vr, .int .i64 (rdD rs x), .int .i64 0], by simp [results, Try.results105, go_sem, q1, q2, q3], ⟨vr, by first | rfl | rw [h0], (ox.base (by omega)).shut hdef3, below_shut hBx hw4s⟩⟩


set_option maxRecDepth 100000 in
set_option maxHeartbeats 8000000 in
theorem i_TurnsByHeight (c0 : Value) (rs : List Int) (w : World) (hI : Ints w.heap.size w c0 rs) (_hN : I64s rs) (hm : rs.length ≤ 1048576) :
    Calls Try.prog 54 #[.agg #[c0]] w (GivesI w (thT rs) fun v => .tuple #[v, .int .i64 (thD rs), .int .i64 (thC rs)]) := by
  obtain ⟨a, cap, rfl⟩ := hI.shape
  have hB0 : Below w.heap.size w (w.alloc (.cells #[.slice a rs.length cap] 48)) := (Below.refl _ w).alloc (Nat.le_refl _) _
  cases hg : gardenOk rs
  · have H := Lib.hid (th_one hg)
    go_enter Try.func54, Try.ntmps54
    go_wp2_with fail
    refine (isGarden_d false _ rs _ (hI.later hB0) (by omega) hg).mono ?_
    rintro e w1 ⟨rfl, hb⟩
    go_wp2
    go_ret3
    exact ⟨.slice none 0 0, ret_vii H.out.2.2.symm H.out.1.symm, by rw [H.out.2.1]; exact ownI_nil _ _, hB0.trans (hb.mono (by simp))⟩
  · have H := Lib.hid (th_none hg)
    go_enter Try.func54, Try.ntmps54
    go_wp2_with fail
    refine (isGarden_d true _ rs _ (hI.later hB0) (by omega) hg).mono ?_
    rintro e w1 ⟨rfl, hb⟩
    have hB1 := hB0.trans (hb.mono (by simp))
    have bG : Boxed w1 w.heap.size 48 (.slice a rs.length cap) := boxed_later (Boxed.new _ _ _) hb
    have kG := bG.cell
    clear hb hB0
    go_wp2_with fail
    refine (cutterByHeight_c _ _ _ _).mono ?_
    rintro e w2 ⟨rfl, hb2⟩
    have hB2 := hB1.trans (hb2.mono hB1.size)
    go_wp2_with fail
    refine (roundOfCuts_c _ _ rs 0 _ (hI.later hB2) hg (chooseAt0 hg)).mono ?_
    rintro e w3 ⟨v, rfl, ho, hb3⟩
    go_wp2
    go_ret3
    exact ⟨v, ret_vii H.out.2.2.symm H.out.1.symm, by rw [H.out.2.1]; exact ho.base hB2.size, hB2.trans (hb3.mono hB2.size)⟩

set_option maxRecDepth 100000 in
set_option maxHeartbeats 8000000 in
theorem i_TurnsBySpeed (c0 : Value) (rs : List Int) (x : Int) (w : World) (hI : Ints w.heap.size w c0 rs) (_hN : I64s rs) (hm : rs.length ≤ 1048576) (_hx : I64 x) :
    Calls Try.prog 56 #[.agg #[c0], .int .i64 x] w (GivesI w (tsT rs x) fun v => .tuple #[v, .int .i64 (tsD rs x), .int .i64 (tsC rs x)]) := by
  obtain ⟨a, cap, rfl⟩ := hI.shape
  have hB0 : Below w.heap.size w (w.alloc (.cells #[.slice a rs.length cap] 48)) := (Below.refl _ w).alloc (Nat.le_refl _) _
  cases hg : gardenOk rs
  · have H := Lib.hid (ts_one (x := x) hg)
    go_enter Try.func56, Try.ntmps56
    go_wp2_with fail
    refine (isGarden_d false _ rs _ (hI.later hB0) (by omega) hg).mono ?_
    rintro e w1 ⟨rfl, hb⟩
    go_wp2
    go_ret3
    exact ⟨.slice none 0 0, ret_vii H.out.2.2.symm H.out.1.symm, by rw [H.out.2.1]; exact ownI_nil _ _, hB0.trans (hb.mono (by simp))⟩
  · cases hx : inB x 1 1000
    · have H := Lib.hid (ts_two hg hx)
      have Hx := Lib.hid hx
      clear hx
      go_enter Try.func56, Try.ntmps56
      go_wp2_with fail
      refine (isGarden_d true _ rs _ (hI.later hB0) (by omega) hg).mono ?_
      rintro e w1 ⟨rfl, hb⟩
      go_wp2_with fail
      refine (isSpeedNumber_d false _ _ Hx.out).mono ?_
      rintro e w2 ⟨rfl, rfl⟩
      go_wp2
      go_ret3
      exact ⟨.slice none 0 0, ret_vii H.out.2.2.symm H.out.1.symm, by rw [H.out.2.1]; exact ownI_nil _ _, hB0.trans (hb.mono (by simp))⟩
    · have H := Lib.hid (ts_none hg hx)
      have hx2 := inB_true.1 hx
      have Hx := Lib.hid hx
      clear hx
      go_enter Try.func56, Try.ntmps56
      go_wp2_with fail
      refine (isGarden_d true _ rs _ (hI.later hB0) (by omega) hg).mono ?_
      rintro e w1 ⟨rfl, hb⟩
      have hB1 := hB0.trans (hb.mono (by simp))
      have bG : Boxed w1 w.heap.size 48 (.slice a rs.length cap) := boxed_later (Boxed.new _ _ _) hb
      have kG := bG.cell
      clear hb hB0
      go_wp2_with fail
      refine (isSpeedNumber_d true _ _ Hx.out).mono ?_
      rintro e w2 ⟨rfl, rfl⟩
      go_wp2_with fail
      refine (cutterBySpeed_c _ _ _ x _).mono ?_
      rintro e w2 ⟨rfl, hb2⟩
      have hB2 := hB1.trans (hb2.mono hB1.size)
      go_wp2_with fail
      refine (roundOfCuts_c _ _ rs x _ (hI.later hB2) hg (chooseAt1 hg hx2.1)).mono ?_
      rintro e w3 ⟨v, rfl, ho, hb3⟩
      go_wp2
      go_ret3
      exact ⟨v, ret_vii H.out.2.2.symm H.out.1.symm, by rw [H.out.2.1]; exact ho.base hB2.size, hB2.trans (hb3.mono hB2.size)⟩


end Go.Proofs.Ytogpkaeodgokgaa
