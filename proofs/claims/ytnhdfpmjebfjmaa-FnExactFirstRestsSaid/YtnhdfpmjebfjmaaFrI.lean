/-
  FirstRests of the program.
  Conditions: lists of at most 1048576 elements.
-/
import Derived.Test.YtnhdfpmjebfjmaaCor
import Derived.Test.YtnhdfpmjebfjmaaFrS
namespace Go.Proofs.Ytnhdfpmjebfjmaa
open Go.RowKit Go.Shelf
attribute [local go_sem] Oper.semAt_some

set_option maxRecDepth 100000 in
set_option maxHeartbeats 8000000 in
theorem cloneC_c (sv : Value) (cs : List (Int × Int)) (w : World) (hI : Cls w.heap.size w sv cs) (h0 : 0 < cs.length) (hl : cs.length ≤ 8) :
    Calls Try.prog 56 #[sv] w (GivesC w cs id) := by
  obtain ⟨a, cap, rfl⟩ := hI.shape
  obtain ⟨i0, hi, hz0, hz1, hz2⟩ := info_parts2 Try.infoC
  obtain ⟨b, off, rfl, hb, hc⟩ := hI.at_ h0
  have hB0 : Below w.heap.size w (w.alloc (.cells #[] 73)) := (Below.refl _ w).alloc (Nat.le_refl _) _
  clear hc
  have hnil : ∀ W, (binOp .eql 26 (.slice (some ⟨b, off, none⟩) cs.length cap) (.slice none 0 0)).run Try.prog W = .ok (.bool false) W := fun W => Lib.run_eql_slice_nil W _ _ _ _ _ _ _ Try.underlying26
  have ho0 : World.ownsRow (w.alloc (.cells #[] 73)) w.heap.size 73 2 (.slice (some ⟨w.heap.size, 0, none⟩) 0 0) 0 ((flat []).map (.int .i64)) := World.ownsRow_made w #[] 0 (Nat.le_refl _) (by unfold maxLen; omega) rfl
  go_enter Try.func56, Try.ntmps56
  go_wp2_with (at_builtin; refine wpList_append_own _ rfl _ _ 26 rfl w.heap.size 73 i0 (.agg #[.int .i64 0, .int .i64 0]) 2 16 Try.underlying26 hi hz0 hz1 hz2 rfl (by decide) _ _ _ rfl ho0 ⟨b, off, none⟩ cs.length cap ((flat cs).map (.int .i64)) rfl (by rw [List.length_map, flat_length]) (cls_src (hI.below hB0) rfl) (cells_one _) (by unfold maxLen; omega) (by omega) (by simp) ?_)
  intro v' w1 hown' hgrow _
  have ho : OwnC w.heap.size w1 v' cs.length (flat cs) := by simpa [flat] using ownC_app (n := 0) (m := cs.length) (xs := flat []) (ys := flat cs) (by simpa using hown')
  have hB : Below w.heap.size w w1 := hB0.grown hgrow (by simp) (fun j e => by simp [Value.ownBlock] at e; omega)
  clear hown' hgrow
  go_wp2
  go_ret
  exact ⟨_, rfl, ho, hB⟩

section
variable {F : Fence} {n : Nat} {P : Program}
theorem range_jumpK {l fn dd : Nat} {tmps : Array Value} {ps : Array Tmp} {assign body c : Code} {Q : Exit → Act → World → Prop} {a : Act} {v : Value} {W : World}
    (hl : W.heap[l]? = some (.loop (recOf fn tmps ps assign body dd .done (some c)))) (h : ∀ Wx, W.grownBy Wx (some l) → c.wpIn F n P Q a Wx) : rangePost F n P l Q a (.returned v) W := range_jump hl (h _ (grownBy_putObj' _ _ _))
end

/-- what the loop over the lists keeps, before a list is there -/
structure EnvA (n₀ bT D L : Nat) (rec : Loop) (wI w : World) (W : World) : Prop where
  r2 : Boxed W (n₀ + 1) 26 (.slice none 0 0)
  r3 : Boxed W (n₀ + 2) 2 (.int .i64 0)
  def_ : W.heap[D]? = some (.deferred (some []))
  rec_ : W.heap[L]? = some (.loop rec)
  low : Below n₀ w W
  kps : Kps (fun j => j < n₀ ∨ j = bT) wI W
theorem EnvA.later {n₀ bT D L A : Nat} {rec : Loop} {wI w W W' : World} (h : EnvA n₀ bT D L rec wI w W) (hb : Below A W W') (h1 : n₀ + 2 < A) (h3 : bT < A) (h4 : D < A) (h5 : L < A) : EnvA n₀ bT D L rec wI w W' :=
  ⟨(hb.block _ (by omega)).trans h.r2, (hb.block _ h1).trans h.r3, (hb.block D h4).trans h.def_, (hb.block L h5).trans h.rec_, h.low.trans (hb.mono (by omega)), h.kps.trans ⟨hb.size, fun j hj _ => hb.block j (by omega)⟩⟩
/-- .. a list has come -/
structure EnvB (n₀ bT D L : Nat) (q : List (Int × Int)) (rec : Loop) (wI w : World) (W : World) : Prop where
  r2 : ∃ v, Boxed W (n₀ + 1) 26 v ∧ OwnC n₀ W v q.length (flat q)
  r3 : Boxed W (n₀ + 2) 2 (.int .i64 0)
  def_ : W.heap[D]? = some (.deferred (some []))
  rec_ : W.heap[L]? = some (.loop rec)
  low : Below n₀ w W
  kps : Kps (fun j => j < n₀ ∨ j = bT) wI W

theorem fr_stores {n₀ : Nat} {w W : World} {u v : Value} {x y : Value} (hR : Boxed W (n₀ + 1) 26 u) (hK : Boxed W (n₀ + 2) 2 x) (hB : Below n₀ w W) :
    Boxed ((W.setCell ⟨n₀ + 1, 0, none⟩ v).setCell ⟨n₀ + 1 + 1, 0, none⟩ y) (n₀ + 1) 26 v ∧ Boxed ((W.setCell ⟨n₀ + 1, 0, none⟩ v).setCell ⟨n₀ + 1 + 1, 0, none⟩ y) (n₀ + 2) 2 y ∧
    Below n₀ w ((W.setCell ⟨n₀ + 1, 0, none⟩ v).setCell ⟨n₀ + 1 + 1, 0, none⟩ y) ∧ W.heap.size ≤ ((W.setCell ⟨n₀ + 1, 0, none⟩ v).setCell ⟨n₀ + 1 + 1, 0, none⟩ y).heap.size ∧
    ∀ j, j ≠ n₀ + 1 → j ≠ n₀ + 2 → j < W.heap.size → ((W.setCell ⟨n₀ + 1, 0, none⟩ v).setCell ⟨n₀ + 1 + 1, 0, none⟩ y).heap[j]? = W.heap[j]? := by
  have g1 := grownBy_setCell2 W (n₀ + 1) 0 v
  have g2 := grownBy_setCell2 (W.setCell ⟨n₀ + 1, 0, none⟩ v) (n₀ + 1 + 1) 0 y
  have hK1 : Boxed (W.setCell ⟨n₀ + 1, 0, none⟩ v) (n₀ + 1 + 1) 2 x := hK.kept g1 (by simp)
  refine ⟨(hR.set v).kept g2 (by simp), hK1.set y, ((hB.setCell (p := ⟨n₀ + 1, 0, none⟩) (by show n₀ ≤ n₀ + 1; omega) v).setCell (p := ⟨n₀ + 1 + 1, 0, none⟩) (by show n₀ ≤ n₀ + 1 + 1; omega) y), Nat.le_trans g1.size g2.size, fun j e1 e2 hj => ?_⟩
  exact (g2.block j (Nat.lt_of_lt_of_le hj g1.size) (by simp; omega)).trans (g1.block j hj (by simp; omega))

theorem EnvA.leave {n₀ bT D L : Nat} {rec : Loop} {wI w W w5 : World} {q : List (Int × Int)} {v : Value} (h : EnvA n₀ bT D L rec wI w W) (busy : Obj) (recX : Loop) (hb5 : Below (W.putObj L busy).heap.size (W.putObj L busy) w5)
    (ho5 : OwnC (W.putObj L busy).heap.size w5 v q.length (flat q)) (h1 : n₀ + 2 < bT) (h3 : D = bT + 1) (h4 : L = bT + 2) :
    Boxed w5 (n₀ + 1) 26 (.slice none 0 0) ∧ Boxed w5 (n₀ + 2) 2 (.int .i64 0) ∧
    ((w5.setCell ⟨n₀ + 1, 0, none⟩ v).setCell ⟨n₀ + 1 + 1, 0, none⟩ (.int .i64 0)).heap[L]? = some busy ∧
    EnvB n₀ bT D L q recX wI w (((w5.setCell ⟨n₀ + 1, 0, none⟩ v).setCell ⟨n₀ + 1 + 1, 0, none⟩ (.int .i64 0)).putObj L (.loop recX)) ∧
    Kps (fun j => bT + 3 ≤ j) W (((w5.setCell ⟨n₀ + 1, 0, none⟩ v).setCell ⟨n₀ + 1 + 1, 0, none⟩ (.int .i64 0)).putObj L (.loop recX)) := by
  have hlt := (Array.getElem?_eq_some_iff.1 h.rec_).1
  have g1 := grownBy_putObj' W L busy
  have hs1 : (W.putObj L busy).heap.size = W.heap.size := by simp [World.putObj]
  have r2 := boxed_later (h.r2.kept g1 (by simp; omega)) hb5
  have r3 := boxed_later (h.r3.kept g1 (by simp; omega)) hb5
  have hl5 : w5.heap[L]? = some busy := (hb5.block L (by omega)).trans (World.putObj_heap_same hlt)
  have hp0 : Below n₀ W (W.putObj L busy) := ⟨rfl, rfl, rfl, g1.size, fun j hj => World.putObj_heap_other (by omega)⟩
  have hn0 : n₀ ≤ (W.putObj L busy).heap.size := by have := h.r2.lt; omega
  have hlow : Below n₀ w w5 := (h.low.trans hp0).trans (hb5.mono hn0)
  obtain ⟨q1, q2, q3, q4, q5⟩ := fr_stores (v := v) (y := .int .i64 0) r2 r3 hlow
  have hl6 := (q5 L (by omega) (by omega) (Array.getElem?_eq_some_iff.1 hl5).1).trans hl5
  obtain ⟨W2, hW2⟩ : ∃ W2, (w5.setCell ⟨n₀ + 1, 0, none⟩ v).setCell ⟨n₀ + 1 + 1, 0, none⟩ (.int .i64 0) = W2 := ⟨_, rfl⟩
  rw [hW2] at q1 q2 q3 q4 q5 hl6 ⊢
  have g3 := grownBy_putObj' W2 L (.loop recX)
  have h5s := hb5.size
  have blk5 : ∀ j, j ≠ n₀ + 1 → j ≠ n₀ + 2 → j ≠ L → j < w5.heap.size → (W2.putObj L (.loop recX)).heap[j]? = w5.heap[j]? := fun j e1 e2 e3 hj => (World.putObj_heap_other e3).trans (q5 j e1 e2 hj)
  have blk : ∀ j, j ≠ n₀ + 1 → j ≠ n₀ + 2 → j ≠ L → j < W.heap.size → (W2.putObj L (.loop recX)).heap[j]? = W.heap[j]? := fun j e1 e2 e3 hj => (blk5 j e1 e2 e3 (by omega)).trans ((hb5.block j (by omega)).trans (World.putObj_heap_other e3))
  have hsz : W.heap.size ≤ (W2.putObj L (.loop recX)).heap.size := by have := g3.size; omega
  refine ⟨r2, r3, hl6, ⟨⟨v, q1.kept g3 (by simp; omega), (ho5.of_block fun j hj => blk5 j ?_ ?_ ?_ (ho5.blk j hj).2).base (by have := h.r2.lt; omega)⟩, q2.kept g3 (by simp; omega), (blk D (by omega) (by omega) (by omega) (Array.getElem?_eq_some_iff.1 h.def_).1).trans h.def_, World.putObj_heap_same (Array.getElem?_eq_some_iff.1 hl6).1, ?_, ?_⟩, ⟨hsz, fun j hj hl => blk j (by omega) (by omega) (by omega) hl⟩⟩
  · have := (ho5.blk j hj).1; have := h.r2.lt; omega
  · have := (ho5.blk j hj).1; have := h.r3.lt; omega
  · have := (ho5.blk j hj).1; omega
  · exact q3.trans ⟨rfl, rfl, rfl, g3.size, fun j hj => World.putObj_heap_other (by omega)⟩
  · exact h.kps.trans ⟨hsz, fun j hj hl => blk j (by omega) (by omega) (by omega) hl⟩

theorem first_loop {n₀ bT D L gN fn : Nat} {T : Array Value} {ps : Array Tmp} {asg bd : Code} {w W0 : World} {E : List (List (Int × Int))} (gs : List Int) (a : Option Addr) (cap : Nat) (h1 : n₀ + 2 < bT) (h3 : D = bT + 1) (h4 : L = bT + 2) (hA : bT + 3 ≤ W0.heap.size)
    (hI : Ints n₀ W0 (.slice a (gs.length + 1) cap) ((gN : Int) :: gs)) (hT : Boxed W0 bT 29 (.slice a (gs.length + 1) cap)) (hcp : CapOk (.slice a (gs.length + 1) cap) (gs.length + 1)) (h8 : gs.length + 1 ≤ 8)
    (hg : 1 ≤ gN ∧ gN ≤ 40) (hgs : ∀ x ∈ gs, 1 ≤ x ∧ x ≤ 40) (hE : E = Rst.ext [((0 : Int), (gN : Int))] gs)
    (hround : ∀ (q : List (Int × Int)) (sv : Value) (W : World), E.head? = some q → OwnC (bT + 3) W sv q.length (flat q) → bT + 3 ≤ W.heap.size → EnvA n₀ bT D L (recOf fn T ps asg bd D .ready none) W0 w W → YieldAt Fence.wide 9 Try.prog L #[sv] W fun e W' => e = .returned (.bool false) ∧ EnvB n₀ bT D L q (recOf fn T ps asg bd D .done (some .ret)) W0 w W' ∧ Kps (fun j => bT + 3 ≤ j) W W')
    (h0 : EnvA n₀ bT D L (recOf fn T ps asg bd D .ready none) W0 w W0) :
    CallsIn Fence.wide 10 Try.prog 89 #[.func (.yield L) #[] #[], .pointer (some ⟨bT, 0, none⟩)] W0 fun e W' => (∃ v, e = .returned v) ∧ ((E.head? = none ∧ EnvA n₀ bT D L (recOf fn T ps asg bd D .ready none) W0 w W') ∨ ∃ q, E.head? = some q ∧ EnvB n₀ bT D L q (recOf fn T ps asg bd D .done (some .ret)) W0 w W') := by
  refine (callsIn_wide.2 (zero_c (A := bT + 3) (n₀ := n₀) (w0 := W0) (S0 := fun j => j < n₀ ∨ j = bT) (E := E) (I := fun k W => k = 0 ∧ EnvA n₀ bT D L (recOf fn T ps asg bd D .ready none) W0 w W) (Jx := fun W => ∃ q, E.head? = some q ∧ EnvB n₀ bT D L q (recOf fn T ps asg bd D .done (some .ret)) W0 w W) ?_ (fun j hj => .inl hj) (.inr rfl) gN gs a cap W0 hI hT hcp h8 hg hgs hE hA ⟨rfl, h0⟩)).mono ?_
  · refine ⟨fun k W h => h.2.kps, fun W ⟨_, _, h⟩ => h.kps, fun k W W' h hs hb => ⟨h.1, h.2.later hb (by omega) (by omega) (by omega) (by omega)⟩, ?_⟩
    rintro k q v W hq hs hc ⟨rfl, h⟩
    have hq2 : E.head? = some q := by rw [List.head?_eq_getElem?]; exact hq
    obtain ⟨fn', tmps, asg', body, hy, hR⟩ := hround q v W hq2 hc hs h
    refine ⟨fn', tmps, asg', body, hy, hR.mono ?_⟩
    rintro e W' ⟨he, h5, h6⟩
    exact ⟨h6, .inr ⟨he, q, hq2, h5⟩⟩
  · rintro e W' ⟨hv, ⟨hl, h5⟩ | h5⟩
    · exact ⟨hv, .inl ⟨by rw [List.eq_nil_of_length_eq_zero hl]; rfl, h5⟩⟩
    · exact ⟨hv, .inr h5⟩

set_option maxRecDepth 100000 in
set_option maxHeartbeats 8000000 in
theorem i_FirstRests (c0 : Value) (zs : List Int) (w : World) (hI : Ints w.heap.size w c0 zs) (_hN : I64s zs) (hm : zs.length ≤ 1048576) (hcp : CapOk c0 zs.length) :
    Calls Try.prog 16 #[.agg #[c0]] w (GivesC w (frR zs) fun v => .tuple #[v, .int .i64 (frC zs)]) := by
  obtain ⟨a, cap, rfl⟩ := hI.shape
  obtain ⟨w0, hw0⟩ : ∃ w0, ((w.alloc (.cells #[.slice a zs.length cap] 29)).alloc (.cells #[.slice none 0 0] 26)).alloc (.cells #[.int .i64 0] 2) = w0 := ⟨_, rfl⟩
  have bT0 : Boxed w0 w.heap.size 29 (.slice a zs.length cap) := by rw [← hw0]; exact ((Boxed.new _ _ _).alloc _).alloc _
  have bR0 : Boxed w0 (w.heap.size + 1) 26 (.slice none 0 0) := by rw [← hw0]; exact Boxed.alloc (boxed_at (by simp)) _
  have bK0 : Boxed w0 (w.heap.size + 2) 2 (.int .i64 0) := by rw [← hw0]; exact boxed_at (by simp)
  have hB0 : Below w.heap.size w w0 := by rw [← hw0]; exact (((Below.refl _ w).alloc (Nat.le_refl _) _).alloc (by simp) _).alloc (by simp; omega) _
  refine (callsIn_wide (n := 11)).1 ?_
  cases ht : tasksOk zs
  · have H := Lib.hid (fr_one ht)
    have Ht := Lib.hid ht
    clear ht
    have kT := bT0.cell
    refine callsIn_of_wp_marks Try.func16 rfl trivial ?_ rfl
    simp only [Try.ntmps16, List.size_toArray, List.length_cons, List.length_nil, Nat.reduceAdd, Nat.reduceSub, Array.replicate_succ, Array.replicate_zero, List.push_toArray, List.append_toArray, List.nil_append, List.cons_append]
    gi_wp2_with fail
    refine ⟨trivial, (callsIn_wide.2 (isTasks_c _ zs _ (hI.later hB0) (by omega))).mono ?_⟩
    rintro e w1 ⟨he, hb⟩
    rw [Ht.out] at he
    subst he
    have bR1 := boxed_later bR0 hb
    have bK1 := boxed_later bK0 hb
    have hB1 := hB0.trans (hb.mono hB0.size)
    have cR := bR1.cell
    have fR := bR1.frozen
    have cK := bK1.cell
    have fK := bK1.frozen
    clear hb kT
    gi_wp2
    obtain ⟨q1, q2, q3, _⟩ := fr_stores (v := .slice none 0 0) (y := .int .i64 1) bR1 bK1 hB1
    have c1 := q1.cell
    have c2 := q2.cell
    refine retM0 ⟨.tuple #[.slice none 0 0, .int .i64 1], by simp [results, Try.f16, go_sem, c1, c2], ?_⟩
    exact ⟨_, ret_vi2 H.out.1.symm, by rw [H.out.2]; exact ownC_nil _ _, q3⟩
  have Ht := Lib.hid ht
  have hl8 := tasksOk_len ht
  by_cases hbig : 5 < zs.length
  · have H := Lib.hid (fr_three ht hbig)
    have hbi : (5 : Int) < (zs.length : Int) := by omega
    clear ht
    have kT := bT0.cell
    refine callsIn_of_wp_marks Try.func16 rfl trivial ?_ rfl
    simp only [Try.ntmps16, List.size_toArray, List.length_cons, List.length_nil, Nat.reduceAdd, Nat.reduceSub, Array.replicate_succ, Array.replicate_zero, List.push_toArray, List.append_toArray, List.nil_append, List.cons_append]
    gi_wp2_with fail
    refine ⟨trivial, (callsIn_wide.2 (isTasks_c _ zs _ (hI.later hB0) (by omega))).mono ?_⟩
    rintro e w1 ⟨he, hb⟩
    rw [Ht.out] at he
    subst he
    have bR1 := boxed_later bR0 hb
    have bK1 := boxed_later bK0 hb
    have bT1 := boxed_later bT0 hb
    have hB1 := hB0.trans (hb.mono hB0.size)
    have cR := bR1.cell
    have fR := bR1.frozen
    have cK := bK1.cell
    have fK := bK1.frozen
    have cT := bT1.cell
    clear hb kT
    gi_wp2
    obtain ⟨q1, q2, q3, _⟩ := fr_stores (v := .slice none 0 0) (y := .int .i64 3) bR1 bK1 hB1
    have c1 := q1.cell
    have c2 := q2.cell
    refine retM0 ⟨.tuple #[.slice none 0 0, .int .i64 3], by simp [results, Try.f16, go_sem, c1, c2], ?_⟩
    exact ⟨_, ret_vi2 H.out.1.symm, by rw [H.out.2]; exact ownC_nil _ _, q3⟩
  have hbi : (zs.length : Int) ≤ 5 := by omega
  have hzb : ∀ k, k < zs.length → 1 ≤ nth zs k ∧ nth zs k ≤ 40 := fun k hk => tasksOk_nth ht hk
  obtain ⟨g, gs, rfl⟩ : ∃ g gs, zs = g :: gs := by
    cases zs with
    | nil => simp at hl8
    | cons g gs => exact ⟨g, gs, rfl⟩
  have hgb := hzb 0 (by simp)
  rw [show nth (g :: gs) 0 = g from rfl] at hgb
  have hgs : ∀ x ∈ gs, 1 ≤ x ∧ x ≤ 40 := fun x hx => by
    obtain ⟨j, hj, rfl⟩ := List.getElem_of_mem hx
    have := hzb (j + 1) (by simp; omega)
    simpa [nth, List.getElem?_eq_getElem hj] using this
  obtain ⟨gN, rfl⟩ : ∃ gN : Nat, g = (gN : Int) := ⟨g.toNat, by omega⟩
  obtain ⟨E, hE⟩ : ∃ E, Rst.ext [((0 : Int), (gN : Int))] gs = E := ⟨_, rfl⟩
  have hhd : (Rst.ext [] ((gN : Int) :: gs)).head? = E.head? := by rw [← hE]; exact Rst.ext_head hgb.1 (fun x hx => (hgs x hx).1)
  have hlq : ∀ q, E.head? = some q → q.length = gs.length + 1 := fun q hq => by
    have hm : q ∈ Rst.ext [((0 : Int), (gN : Int))] gs := by rw [hE]; exact List.mem_of_mem_head? (by rw [hq]; rfl)
    obtain ⟨_, rs, e, hm2, _⟩ := Rst.ext_ap (List.pairwise_singleton _ _) hm
    rw [e, ← hm2]; simp
  have H0 := Lib.hid (fun h => fr_four ht hbig (hhd.trans h))
  have H1 := Lib.hid (fun q h => fr_none (q := q) ht hbig (hhd.trans h))
  have hl8' : gs.length + 1 ≤ 8 := hl8.2
  have Hlq := Lib.hid hlq
  have Hgs := Lib.hid hgs
  have HE := Lib.hid hE
  have Hcp := Lib.hid hcp
  have HI := Lib.hid hI
  have hlc : ((gN : Int) :: gs).length = gs.length + 1 := rfl
  clear ht hgs hzb hE hcp hI hlq hhd
  obtain ⟨b, off, rfl, hb8, _⟩ := HI.out.at_ (show 0 < ((gN : Int) :: gs).length by simp)
  rw [hlc] at hw0 bT0
  have kT := bT0.cell
  refine callsIn_of_wp_marks Try.func16 rfl trivial ?_ rfl
  simp only [Try.ntmps16, List.size_toArray, List.length_cons, List.length_nil, Nat.reduceAdd, Nat.reduceSub, Array.replicate_succ, Array.replicate_zero, List.push_toArray, List.append_toArray, List.nil_append, List.cons_append]
  gi_wp2_with fail
  refine ⟨trivial, (callsIn_wide.2 (isTasks_c _ _ _ (HI.out.later hB0) (by omega))).mono ?_⟩
  rintro e w1 ⟨he, hb⟩
  rw [Ht.out] at he
  subst he
  have bR1 := boxed_later bR0 hb
  have bK1 := boxed_later bK0 hb
  have bT1 := boxed_later bT0 hb
  have hB1 := hB0.trans (hb.mono hB0.size)
  have cT := bT1.cell
  have s1 := bK1.lt
  clear hb kT
  clear hw0
  gi_wp2_with fail
  refine ⟨trivial, (callsIn_wide.2 (apartFromZero_c _ _)).mono ?_⟩
  rintro e w3 ⟨rfl, hw3⟩
  have bT : Boxed w3 w1.heap.size 29 (.slice (some ⟨b, off, none⟩) (gs.length + 1) cap) := by rw [hw3]; exact Boxed.new _ _ _
  have hs3 : w3.heap.size = w1.heap.size + 1 := by rw [hw3]; exact World.size_alloc _ _
  have bR3 : Boxed w3 (w.heap.size + 1) 26 (.slice none 0 0) := by rw [hw3]; exact bR1.alloc _
  have bK3 : Boxed w3 (w.heap.size + 2) 2 (.int .i64 0) := by rw [hw3]; exact bK1.alloc _
  have hB3 : Below w.heap.size w w3 := by rw [hw3]; exact hB1.alloc hB1.size _
  clear hw3
  gi_wp2_with fail
  refine range_enter rfl (by omega) rfl trivial (enters_of Try.func89 (by kernel_rfl) rfl) ?_
  intro fn hfn
  have hDL : (w3.alloc (.deferred (some []))).heap.size = w3.heap.size + 1 := World.size_alloc _ _
  have hE0 : ∀ rec, EnvA w.heap.size w1.heap.size w3.heap.size (w3.heap.size + 1) rec ((w3.alloc (.deferred (some []))).alloc (.loop rec)) w ((w3.alloc (.deferred (some []))).alloc (.loop rec)) := fun rec =>
    ⟨(bR3.alloc _).alloc _, (bK3.alloc _).alloc _, (Below.heap_alloc _ _ _ (by simp)).trans (World.alloc_heap_new _ _), by have := World.alloc_heap_new (w3.alloc (.deferred (some []))) (.loop rec); rw [hDL] at this; exact this, (hB3.alloc hB3.size _).alloc (by rw [hDL]; have := hB3.size; omega) _, Kps.refl _ _⟩
  refine (first_loop gs (some ⟨b, off, none⟩) cap s1 (by omega) (by omega) (by simp; omega) ?hI ?hT Hcp.out hl8' (by omega) Hgs.out HE.out.symm ?hround (hE0 _)).mono ?post
  case hI => exact (HI.out.below hB3).below (((Below.refl _ _).alloc hB3.size _).alloc (by rw [hDL]; have := hB3.size; omega) _)
  case hT => exact (bT.alloc _).alloc _
  case hround =>
    intro q sv W hq ho hsz hEk
    refine yield_round trivial hEk.rec_ rfl ?a1 ?assign ?body
    case assign =>
      intro K0 hK0
      go_simp
      gi_wp2
      exact hK0
    case body =>
      have hlen := Hlq.out q hq
      have ow : ∀ o, OwnC (w1.heap.size + 3) (W.putObj (w3.heap.size + 1) o) sv q.length (flat q) := fun o => ho.kept (grownBy_putObj' W (w3.heap.size + 1) o) (by
        right; intro he; have := (ho.blk _ he).1; omega)
      have HO := Lib.hid ow
      have HEk := Lib.hid hEk
      have Hlen := Lib.hid hlen
      have hs3a : w3.heap.size ≤ w1.heap.size + 1 ∧ w1.heap.size + 1 ≤ w3.heap.size := by omega
      clear ow ho hEk hE0 hs3 hDL hlen
      gi_wp2_with fail
      refine ⟨trivial, ((callsIn_wide.2 (cloneC_c _ q _ ((HO.out _).prs) (by rw [Hlen.out]; omega) (by rw [Hlen.out]; omega))).inRound _).mono ?_⟩
      rintro e w5 ⟨v, rfl, ho5, hb5⟩
      obtain ⟨g5, c5, rfl, _, _⟩ := ho5.shape (by rw [Hlen.out]; omega)
      have hlv := fun recX => HEk.out.leave _ recX hb5 ho5 (by omega) (by omega) (by omega)
      have p2 := (hlv (recOf 0 #[] #[] .skip .skip 0 .ready none)).1
      have p3 := (hlv (recOf 0 #[] #[] .skip .skip 0 .ready none)).2.1
      have Hlv := Lib.hid hlv
      have cR := p2.cell
      have fR := p2.frozen
      have cK := p3.cell
      have fK := p3.frozen
      clear hlv hb5 ho5
      gi_wp2
      exact ⟨(Hlv.out (recOf 0 #[] #[] .skip .skip 0 .ready none)).2.2.1, rfl, (Hlv.out _).2.2.2.1, (Hlv.out _).2.2.2.2⟩
  case post =>
    rintro e W' ⟨⟨v, rfl⟩, ⟨hn, hE⟩ | ⟨q, hq, hE⟩⟩
    · refine range_doneK hE.rec_ fun Wx hg => ?_
      have hD := (hg.block _ (Array.getElem?_eq_some_iff.1 hE.def_).1 (by simp)).trans hE.def_
      have bR4 := hE.r2.kept hg (by simp; omega)
      have bK4 := hE.r3.kept hg (by simp; omega)
      have hlo := hE.low.grown hg (by have := hE.low.size; omega) (fun j e => by cases e; have := hB3.size; omega)
      have H := Lib.hid (H0.out hn)
      have hs3a : w1.heap.size + 1 ≤ w3.heap.size := by omega
      have cR := bR4.cell
      have fR := bR4.frozen
      have cK := bK4.cell
      have fK := bK4.frozen
      clear hE hE0 hs3 hDL
      gi_wp2
      obtain ⟨q1, q2, q3, _, q5⟩ := fr_stores (v := .slice none 0 0) (y := .int .i64 4) bR4 bK4 hlo
      have hD2 := (q5 w3.heap.size (by omega) (by omega) (Array.getElem?_eq_some_iff.1 hD).1).trans hD
      have c1 := (boxed_shut q1 hD2).cell
      have c2 := (boxed_shut q2 hD2).cell
      refine retM1 hD2 ⟨.tuple #[.slice none 0 0, .int .i64 4], by simp [results, Try.f16, go_sem, c1, c2], ?_⟩
      exact ⟨_, ret_vi2 H.out.1.symm, by rw [H.out.2]; exact ownC_nil _ _, below_shut q3 (by have := hB3.size; omega)⟩
    · refine range_jumpK hE.rec_ fun Wx hg => ?_
      have hD := (hg.block _ (Array.getElem?_eq_some_iff.1 hE.def_).1 (by simp)).trans hE.def_
      obtain ⟨v, q1, o1⟩ := hE.r2
      have q2 := hE.r3.kept hg (by simp; omega)
      have q4 := q1.kept hg (by simp; omega)
      have hlo := hE.low.grown hg (by have := hE.low.size; omega) (fun j e => by cases e; have := hB3.size; omega)
      have H := Lib.hid (H1.out q hq)
      have o2 : OwnC w.heap.size Wx v q.length (flat q) := o1.kept hg (by
        right; intro he
        obtain ⟨_, h2⟩ := o1
        rcases h2 with ⟨e0, _⟩ | ⟨g, cp, cur, e0, _, hg0, _⟩
        · rw [e0] at he; cases he
        · rw [e0] at he
          have hgq : g = w3.heap.size + 1 := Option.some.inj he
          subst hgq
          have := hE.rec_
          rw [hg0] at this
          cases this)
      have hs3a : w1.heap.size + 1 ≤ w3.heap.size := by omega
      clear hE hE0 hs3 hDL
      gi_wp2
      have c1 := (boxed_shut q4 hD).cell
      have c2 := (boxed_shut q2 hD).cell
      refine retM1 hD ⟨.tuple #[v, .int .i64 0], by simp [results, Try.f16, go_sem, c1, c2], ?_⟩
      exact ⟨v, ret_vi2 H.out.1.symm, by rw [H.out.2]; exact o2.shut hD, below_shut hlo (by have := hB3.size; omega)⟩

end Go.Proofs.Ytnhdfpmjebfjmaa
