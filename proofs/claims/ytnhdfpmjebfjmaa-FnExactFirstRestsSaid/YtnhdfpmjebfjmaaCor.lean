/-
  CountRests of the program.
  Conditions: lists of at most 1048576 elements.
-/
import Derived.Test.YtnhdfpmjebfjmaaApz
import Derived.Test.YtnhdfpmjebfjmaaNuS
import Derived.Test.YtnhdfpmjebfjmaaKnow
import Derived.Test.YtnhdfpmjebfjmaaRegI
namespace Go.Proofs.Ytnhdfpmjebfjmaa
open Go.RowKit Go.Shelf
attribute [local go_sem] Oper.semAt_some

section
variable {F : Fence} {n : Nat} {P : Program}
theorem range_doneK {l fn dd : Nat} {tmps : Array Value} {ps : Array Tmp} {assign body : Code} {Q : Exit → Act → World → Prop} {a : Act} {v : Value} {W : World}
    (hl : W.heap[l]? = some (.loop (recOf fn tmps ps assign body dd .ready none))) (h : ∀ Wx, W.grownBy Wx (some l) → Q .normal a Wx) : rangePost F n P l Q a (.returned v) W := range_done hl (h _ (grownBy_putObj' _ _ _))
end

/-- what the loop over the lists keeps: k lists have been counted -/
structure EnvK (n₀ b8 bC D L gN k : Nat) (rec : Loop) (sv : Value) (wI w : World) (W : World) : Prop where
  c : Boxed W bC 2 (.int .i64 ((k * gN : Nat) : Int))
  t : Boxed W b8 29 sv
  def_ : W.heap[D]? = some (.deferred (some []))
  rec_ : W.heap[L]? = some (.loop rec)
  low : Below n₀ w W
  kps : Kps (fun j => j < n₀ ∨ j = bC + 1) wI W
theorem EnvK.later {n₀ b8 bC D L gN k A : Nat} {rec : Loop} {sv : Value} {wI w W W' : World} (h : EnvK n₀ b8 bC D L gN k rec sv wI w W) (hb : Below A W W') (h1 : n₀ ≤ A) (h2 : b8 < A) (h3 : bC + 1 < A) (h4 : D < A) (h5 : L < A) : EnvK n₀ b8 bC D L gN k rec sv wI w W' :=
  ⟨(hb.block bC (by omega)).trans h.c, (hb.block b8 h2).trans h.t, (hb.block D h4).trans h.def_, (hb.block L h5).trans h.rec_, h.low.trans (hb.mono h1), h.kps.trans ⟨hb.size, fun j hj _ => hb.block j (by omega)⟩⟩

theorem EnvK.round {n₀ b8 bC D L gN k : Nat} {rec : Loop} {sv : Value} {wI w W : World} (h : EnvK n₀ b8 bC D L gN k rec sv wI w W) (busy : Obj) (v : Nat) (hv : v = (k + 1) * gN) (h1 : n₀ ≤ b8) (h2 : b8 < bC) (h3 : D = bC + 2) (h4 : L = bC + 3) :
    EnvK n₀ b8 bC D L gN (k + 1) rec sv wI w (((W.putObj L busy).drew.setCell ⟨bC, 0, none⟩ (.int .i64 (v : Int))).putObj L (.loop rec)) ∧
    Kps (fun j => bC + 4 ≤ j) W (((W.putObj L busy).drew.setCell ⟨bC, 0, none⟩ (.int .i64 (v : Int))).putObj L (.loop rec)) := by
  subst hv
  have hlt := (Array.getElem?_eq_some_iff.1 h.rec_).1
  have g1 := grownBy_putObj' W L busy
  have g2 := grownBy_setCell2 (W.putObj L busy).drew bC 0 (.int .i64 (((k + 1) * gN : Nat) : Int))
  have g3 := grownBy_putObj' ((W.putObj L busy).drew.setCell ⟨bC, 0, none⟩ (.int .i64 (((k + 1) * gN : Nat) : Int))) L (.loop rec)
  have blk : ∀ j, j ≠ L → j ≠ bC → j < W.heap.size → (((W.putObj L busy).drew.setCell ⟨bC, 0, none⟩ (.int .i64 (((k + 1) * gN : Nat) : Int))).putObj L (.loop rec)).heap[j]? = W.heap[j]? := fun j e1 e2 hj =>
    ((g3.block j (Nat.lt_of_lt_of_le hj (Nat.le_trans g1.size g2.size)) (by simp; omega)).trans (g2.block j (Nat.lt_of_lt_of_le hj g1.size) (by simp; omega))).trans (g1.block j hj (by simp; omega))
  have hsz : W.heap.size ≤ (((W.putObj L busy).drew.setCell ⟨bC, 0, none⟩ (.int .i64 (((k + 1) * gN : Nat) : Int))).putObj L (.loop rec)).heap.size := Nat.le_trans g1.size (Nat.le_trans g2.size g3.size)
  have c0 : Boxed (W.putObj L busy) bC 2 (.int .i64 ((k * gN : Nat) : Int)) := h.c.kept g1 (by simp; omega)
  have c1 : Boxed (W.putObj L busy).drew bC 2 (.int .i64 ((k * gN : Nat) : Int)) := c0
  have ht := h.t
  have hd := h.def_
  refine ⟨⟨(c1.set _).kept g3 (by simp; omega), (blk b8 (by omega) (by omega) ht.lt).trans ht, (blk D (by omega) (by omega) (Array.getElem?_eq_some_iff.1 hd).1).trans hd, World.putObj_heap_same (Nat.lt_of_lt_of_le hlt (Nat.le_trans g1.size g2.size)), ?_, ?_⟩, ⟨hsz, fun j hj hl => blk j (by omega) (by omega) hl⟩⟩
  · exact h.low.trans ⟨rfl, rfl, rfl, hsz, fun j hj => by
      by_cases hl : j < W.heap.size
      · exact blk j (by omega) (by omega) hl
      · omega⟩
  · exact h.kps.trans ⟨hsz, fun j hj hl => blk j (by omega) (by omega) hl⟩

theorem rest_loop {n₀ b8 bC D L gN : Nat} {rec : Loop} {sv : Value} {w W0 : World} {E : List (List (Int × Int))} (gs : List Int) (a : Option Addr) (cap : Nat) (h1 : n₀ ≤ b8) (h2 : b8 < bC) (h3 : D = bC + 2) (h4 : L = bC + 3) (hA : bC + 4 ≤ W0.heap.size)
    (hI : Ints n₀ W0 (.slice a (gs.length + 1) cap) ((gN : Int) :: gs)) (hT : Boxed W0 (bC + 1) 29 (.slice a (gs.length + 1) cap)) (hcp : CapOk (.slice a (gs.length + 1) cap) (gs.length + 1)) (h8 : gs.length + 1 ≤ 8)
    (hg : 1 ≤ gN ∧ gN ≤ 40) (hgs : ∀ x ∈ gs, 1 ≤ x ∧ x ≤ 40) (hE : E = Rst.ext [((0 : Int), (gN : Int))] gs)
    (hround : ∀ (k : Nat) (q : Value) (W : World), k < E.length → EnvK n₀ b8 bC D L gN k rec sv W0 w W → YieldAt Fence.wide 9 Try.prog L #[q] W fun e W' => e = .returned (.bool true) ∧ EnvK n₀ b8 bC D L gN (k + 1) rec sv W0 w W' ∧ Kps (fun j => bC + 4 ≤ j) W W')
    (h0 : EnvK n₀ b8 bC D L gN 0 rec sv W0 w W0) :
    CallsIn Fence.wide 10 Try.prog 89 #[.func (.yield L) #[] #[], .pointer (some ⟨bC + 1, 0, none⟩)] W0 fun e W' => (∃ v, e = .returned v) ∧ EnvK n₀ b8 bC D L gN E.length rec sv W0 w W' := by
  refine (callsIn_wide.2 (zero_c (A := bC + 4) (n₀ := n₀) (w0 := W0) (S0 := fun j => j < n₀ ∨ j = bC + 1) (E := E) (I := fun k W => EnvK n₀ b8 bC D L gN k rec sv W0 w W) (Jx := fun _ => False) ?_ (fun j hj => .inl hj) (.inr rfl) gN gs a cap W0 hI hT hcp h8 hg hgs hE hA h0)).mono ?_
  · refine ⟨fun k W h => h.kps, fun W h => h.elim, fun k W W' h hs hb => h.later hb (by omega) (by omega) (by omega) (by omega) (by omega), ?_⟩
    intro k q v W hq hs hc h
    obtain ⟨fn, tmps, asg, body, hy, hR⟩ := hround k v W (Array.getElem?_eq_some_iff.1 (by simpa using hq)).1 h
    refine ⟨fn, tmps, asg, body, hy, hR.mono ?_⟩
    rintro e W' ⟨he, h5, h6⟩
    exact ⟨h6, .inl ⟨he, h5⟩⟩
  · rintro e W' ⟨hv, h5 | h5⟩
    · exact ⟨hv, h5⟩
    · exact h5.elim

set_option maxRecDepth 100000 in
set_option maxHeartbeats 8000000 in
theorem i_CountRests (c0 : Value) (zs : List Int) (w : World) (hI : Ints w.heap.size w c0 zs) (hN : I64s zs) (hm : zs.length ≤ 1048576) (hcp : CapOk c0 zs.length) :
    Calls Try.prog 23 #[.agg #[c0]] w fun e w' => e = .returned (.tuple #[.int .i64 (crR zs), .int .i64 (crC zs)]) ∧ Below w.heap.size w w' := by
  obtain ⟨a, cap, rfl⟩ := hI.shape
  refine (callsIn_wide (n := 11)).1 ?_
  have hB0 : Below w.heap.size w (w.alloc (.cells #[.slice a zs.length cap] 29)) := (Below.refl _ w).alloc (Nat.le_refl _) _
  cases ht : tasksOk zs
  · have H := Lib.hid (cr_one ht)
    have Hc := Lib.hid (show countC zs = 1 ∧ countR zs = 0 by unfold countC countR; rw [ht]; exact ⟨rfl, rfl⟩)
    clear ht
    refine callsIn_of_wp_marks Try.func23 rfl trivial ?_ rfl
    simp only [Try.ntmps23, List.size_toArray, List.length_cons, List.length_nil, Nat.reduceAdd, Nat.reduceSub, Array.replicate_succ, Array.replicate_zero, List.push_toArray, List.append_toArray, List.nil_append, List.cons_append]
    gi_wp2_with fail
    refine ⟨trivial, (callsIn_wide.2 (i_CountStates _ zs _ (hI.later hB0) hN hm)).mono ?_⟩
    rintro e w1 ⟨he, hb⟩
    rw [Hc.out.1, Hc.out.2] at he
    subst he
    gi_wp2
    refine retM0 ⟨_, results_tmp2 rfl _ _ _, ?_⟩
    exact ⟨ret_i2d H.out.2.symm H.out.1.symm, hB0.trans (hb.mono (by simp))⟩
  · by_cases hbig : 20000 < cntL zs
    · have H := Lib.hid (cr_three ht hbig)
      have Hc := Lib.hid (show countC zs = 0 ∧ countR zs = cntL zs by unfold countC countR; rw [ht]; exact ⟨rfl, rfl⟩)
      obtain ⟨pr, hpr⟩ : ∃ pr, cntL zs = pr := ⟨_, rfl⟩
      rw [hpr] at hbig Hc
      clear ht hpr
      refine callsIn_of_wp_marks Try.func23 rfl trivial ?_ rfl
      simp only [Try.ntmps23, List.size_toArray, List.length_cons, List.length_nil, Nat.reduceAdd, Nat.reduceSub, Array.replicate_succ, Array.replicate_zero, List.push_toArray, List.append_toArray, List.nil_append, List.cons_append]
      gi_wp2_with fail
      refine ⟨trivial, (callsIn_wide.2 (i_CountStates _ zs _ (hI.later hB0) hN hm)).mono ?_⟩
      rintro e w1 ⟨he, hb⟩
      rw [Hc.out.1, Hc.out.2] at he
      subst he
      gi_wp2
      refine retM0 ⟨_, results_tmp2 rfl _ _ _, ?_⟩
      exact ⟨ret_i2d H.out.2.symm H.out.1.symm, hB0.trans (hb.mono (by simp))⟩
    · have H := Lib.hid (cr_none ht hbig)
      have Hc := Lib.hid (show countC zs = 0 ∧ countR zs = cntL zs by unfold countC countR; rw [ht]; exact ⟨rfl, rfl⟩)
      have hl8 := tasksOk_len ht
      have hzb : ∀ k, k < zs.length → 1 ≤ nth zs k ∧ nth zs k ≤ 40 := fun k hk => tasksOk_nth ht hk
      obtain ⟨pr, hpr⟩ : ∃ pr, cntL zs = pr := ⟨_, rfl⟩
      rw [hpr] at hbig Hc
      obtain ⟨g, gs, rfl⟩ : ∃ g gs, zs = g :: gs := by
        cases zs with
        | nil => simp at hl8
        | cons g gs => exact ⟨g, gs, rfl⟩
      have hgb := hzb 0 (by simp)
      rw [show nth (g :: gs) 0 = g from rfl] at hgb
      have hgs : ∀ x ∈ gs, 1 ≤ x ∧ x ≤ 40 := fun x hx => by
        obtain ⟨j, hj, rfl⟩ := List.getElem_of_mem hx
        have := hzb (j + 1) (by simp; omega)
        simpa [nth, List.getElem?_eq_getElem hj] using this
      obtain ⟨gN, rfl⟩ : ∃ gN : Nat, g = (gN : Int) := ⟨g.toNat, by omega⟩
      have hsum : Rst.cnt [] ((gN : Int) :: gs) = gN * (Rst.ext [((0 : Int), (gN : Int))] gs).length := by
        rw [Rst.cnt_all hgb.1 (fun x hx => (hgs x hx).1), Rst.ext_len, Int.toNat_natCast]
      have hEl : (Rst.ext [((0 : Int), (gN : Int))] gs).length ≤ 163840000000 := by
        rw [Rst.ext_len]
        refine Nat.le_trans (cnt_le hgs) ?_
        have : gs.length ≤ 7 := by simp at hl8; omega
        exact Nat.le_trans (Nat.pow_le_pow_right (by omega) this) (by decide)
      obtain ⟨E, hE⟩ : ∃ E, Rst.ext [((0 : Int), (gN : Int))] gs = E := ⟨_, rfl⟩
      rw [hE] at hsum hEl
      have hl8' : gs.length + 1 ≤ 8 := hl8.2
      have Hsum := Lib.hid hsum
      have Hgs := Lib.hid hgs
      have HE := Lib.hid hE
      have Hcp := Lib.hid hcp
      have HI := Lib.hid hI
      have hlc : ((gN : Int) :: gs).length = gs.length + 1 := rfl
      clear ht hpr hsum hgs hzb hE hcp hI
      obtain ⟨b, off, rfl, hb8, hc8⟩ := HI.out.at_ (show 0 < ((gN : Int) :: gs).length by simp)
      have cg8 := hc8 0 (by simp)
      rw [show nth ((gN : Int) :: gs) 0 = (gN : Int) from rfl, Nat.add_zero] at cg8
      have Cg := Lib.hid cg8
      clear cg8 hc8
      refine callsIn_of_wp_marks Try.func23 rfl trivial ?_ rfl
      simp only [Try.ntmps23, List.size_toArray, List.length_cons, List.length_nil, Nat.reduceAdd, Nat.reduceSub, Array.replicate_succ, Array.replicate_zero, List.push_toArray, List.append_toArray, List.nil_append, List.cons_append]
      gi_wp2_with fail
      refine ⟨trivial, (callsIn_wide.2 (i_CountStates _ _ _ (HI.out.later hB0) hN hm)).mono ?_⟩
      rintro e w1 ⟨he, hb⟩
      rw [Hc.out.1, Hc.out.2] at he
      subst he
      have b1 : Boxed w1 w.heap.size 29 (.slice (some ⟨b, off, none⟩) (gs.length + 1) cap) := boxed_later (Boxed.new _ _ _) hb
      have k1 := b1.cell
      have hB1 := hB0.trans (hb.mono (by simp))
      have s1 := b1.lt
      clear hB0 hb
      gi_wp2_with fail
      obtain ⟨w2, hw2⟩ : ∃ w2, w1.alloc (.cells #[.int .i64 0] 2) = w2 := ⟨_, rfl⟩
      have bC : Boxed w2 w1.heap.size 2 (.int .i64 0) := by rw [← hw2]; exact Boxed.new _ _ _
      have hs2 : w2.heap.size = w1.heap.size + 1 := by rw [← hw2]; exact World.size_alloc _ _
      have b2 : Boxed w2 w.heap.size 29 (.slice (some ⟨b, off, none⟩) (gs.length + 1) cap) := by rw [← hw2]; exact b1.alloc _
      have hB2 : Below w.heap.size w w2 := by rw [← hw2]; exact hB1.alloc hB1.size _
      rw [hw2]
      clear hw2 k1 b1
      refine ⟨trivial, (callsIn_wide.2 (apartFromZero_c _ _)).mono ?_⟩
      rintro e w3 ⟨rfl, hw3⟩
      have bT : Boxed w3 w2.heap.size 29 (.slice (some ⟨b, off, none⟩) (gs.length + 1) cap) := by rw [hw3]; exact Boxed.new _ _ _
      have hs3 : w3.heap.size = w2.heap.size + 1 := by rw [hw3]; exact World.size_alloc _ _
      have bC3 : Boxed w3 w1.heap.size 2 (.int .i64 0) := by rw [hw3]; exact bC.alloc _
      have b3 : Boxed w3 w.heap.size 29 (.slice (some ⟨b, off, none⟩) (gs.length + 1) cap) := by rw [hw3]; exact b2.alloc _
      have hB3 : Below w.heap.size w w3 := by rw [hw3]; exact hB2.alloc hB2.size _
      clear hw3 bC b2 hB2
      gi_wp2_with fail
      refine range_enter rfl (by omega) rfl trivial (enters_of Try.func89 (by kernel_rfl) rfl) ?_
      intro fn hfn
      have hDL : (w3.alloc (.deferred (some []))).heap.size = w3.heap.size + 1 := World.size_alloc _ _
      have hE0 : ∀ rec, EnvK w.heap.size w.heap.size w1.heap.size w3.heap.size (w3.heap.size + 1) gN 0 rec (.slice (some ⟨b, off, none⟩) (gs.length + 1) cap) ((w3.alloc (.deferred (some []))).alloc (.loop rec)) w ((w3.alloc (.deferred (some []))).alloc (.loop rec)) := fun rec =>
        ⟨by simpa using (bC3.alloc _).alloc _, (b3.alloc _).alloc _, (Below.heap_alloc _ _ _ (by simp)).trans (World.alloc_heap_new _ _), by have := World.alloc_heap_new (w3.alloc (.deferred (some []))) (.loop rec); rw [hDL] at this; exact this, (hB3.alloc hB3.size _).alloc (by rw [hDL]; have := hB3.size; omega) _, Kps.refl _ _⟩
      refine (rest_loop gs (some ⟨b, off, none⟩) cap (Nat.le_refl _) s1 (by omega) (by omega) (by simp; omega) ?hI ?hT Hcp.out hl8' (by omega) Hgs.out HE.out.symm ?hround (hE0 _)).mono ?post
      case hI => exact (HI.out.below hB3).below (((Below.refl _ _).alloc hB3.size _).alloc (by rw [hDL]; have := hB3.size; omega) _)
      case hT => rw [← hs2]; exact (bT.alloc _).alloc _
      case hround =>
        intro k q W hk hEk
        refine yield_round trivial hEk.rec_ rfl ?a1 ?assign ?body
        case assign =>
          intro K0 hK0
          go_simp
          gi_wp2
          exact hK0
        case body =>
          have hfw : Try.prog.follows Departure.mixedOrders = true := by kernel_rfl
          have hR := fun o => hEk.round o ((k + 1) * gN) rfl (Nat.le_refl _) s1 (by omega) (by omega)
          have HR := Lib.hid hR
          have hlt := (Array.getElem?_eq_some_iff.1 hEk.rec_).1
          have hl1 : ∀ o, (W.putObj (w3.heap.size + 1) o).heap[w3.heap.size + 1]? = some o := fun o => World.putObj_heap_same hlt
          have Hl1 := Lib.hid hl1
          have Hl2 := Lib.hid (fun o => (Array.getElem?_eq_some_iff.1 (hl1 o)).1)
          have bt : ∀ o, Boxed (W.putObj (w3.heap.size + 1) o).drew w.heap.size 29 (.slice (some ⟨b, off, none⟩) (gs.length + 1) cap) := fun o => by
            have h := hEk.t.kept (grownBy_putObj' W (w3.heap.size + 1) o) (by simp; omega)
            exact h
          have bc : ∀ o, Boxed (W.putObj (w3.heap.size + 1) o).drew w1.heap.size 2 (.int .i64 ((k * gN : Nat) : Int)) := fun o => by
            have h := hEk.c.kept (grownBy_putObj' W (w3.heap.size + 1) o) (by simp; omega)
            exact h
          have cgk : ∀ o, (W.putObj (w3.heap.size + 1) o).cell? ⟨b, off, none⟩ = some (.int .i64 (gN : Int)) := fun o =>
            (World.cell?_of_block (w := w) (a := ⟨b, off, none⟩) (((grownBy_putObj' W (w3.heap.size + 1) o).block b (by have := hEk.t.lt; omega) (by simp; omega)).trans (hEk.low.block b hb8))).trans Cg.out
          obtain ⟨cv, hcv⟩ : ∃ cv, k * gN = cv := ⟨_, rfl⟩
          have hcb : cv + gN ≤ 6553600000000 := by
            have h1 : (k + 1) * gN ≤ 163840000000 * 40 := Nat.mul_le_mul (by omega) (by omega)
            rw [Nat.add_mul, hcv] at h1
            omega
          have hc2 : (k + 1) * gN = cv + gN := by rw [Nat.add_mul, hcv]; omega
          rw [hc2] at hR
          rw [hcv] at bc
          have hwr : IntKind.i64.wrap ((cv : Int) + (gN : Int)) = (cv : Int) + (gN : Int) := by rw [IntKind.wrap_i64]; omega
          have hcc : ((cv + gN : Nat) : Int) = (cv : Int) + (gN : Int) := by omega
          rw [hcc] at hR
          have HR := Lib.hid hR
          have ccA : ∀ o, (W.putObj (w3.heap.size + 1) o).drew.cell? ⟨w1.heap.size, 0, none⟩ = some (.int .i64 (cv : Int)) := fun o => (bc o).cell
          have ccF : ∀ o, (W.putObj (w3.heap.size + 1) o).drew.frozen? ⟨w1.heap.size, 0, none⟩ = false := fun o => (bc o).frozen
          have Hbt := Lib.hid bt
          have Hcg := Lib.hid cgk
          have Hbc := Lib.hid bc
          have hs2a : w2.heap.size ≤ w1.heap.size + 1 ∧ w1.heap.size + 1 ≤ w2.heap.size := by omega
          have hs3a : w3.heap.size ≤ w2.heap.size + 1 ∧ w2.heap.size + 1 ≤ w3.heap.size := by omega
          clear hR hEk hl1 bt bc cgk hcv hc2 hcc hE0 hs2 hs3 hDL
          gi_wp2_with fail
          refine wpIn_region_heldI (fun w' => Boxed w' w.heap.size 29 (.slice (some ⟨b, off, none⟩) (gs.length + 1) cap) ∧ w'.cell? ⟨b, off, none⟩ = some (.int .i64 (gN : Int))) hfw ⟨Hbt.out _, Hcg.out _⟩ ?_
          intro hS0
          refine anyIH_take (i := 1) (v := ?v1) (by kernel_rfl) rfl (by kernel_rfl) (by kernel_rfl) (by kernel_rfl) (fun _ _ _ h => h) (.inl ⟨by rfl, ?y1⟩) hS0 ?_
          case y1 =>
            intro w' hS
            (have q0 := hS.1.cell; have q1 := hS.2; clear hS)
            go_simp
            try with_reducible rfl
          refine anyIH_take (i := 2) (v := ?v2) (by kernel_rfl) rfl (by kernel_rfl) (by kernel_rfl) (by kernel_rfl) (fun _ _ _ h => h) (.inl ⟨by rfl, ?y2⟩) hS0 ?_
          case y2 =>
            intro w' hS
            (have q0 := hS.1.cell; have q1 := hS.2; clear hS)
            go_simp
            try with_reducible rfl
          refine anyIH_take (i := 3) (v := ?v3) (by kernel_rfl) rfl (by kernel_rfl) (by kernel_rfl) (by kernel_rfl) (fun _ _ _ h => h) (.inl ⟨by rfl, ?y3⟩) hS0 ?_
          case y3 =>
            intro w' hS
            (have q0 := hS.1.cell; have q1 := hS.2; clear hS)
            go_simp
            try with_reducible rfl
          refine anyIH_take (i := 4) (v := ?v4) (by kernel_rfl) rfl (by kernel_rfl) (by kernel_rfl) (by kernel_rfl) (fun _ _ _ h => h) (.inl ⟨by rfl, ?y4⟩) hS0 ?_
          case y4 =>
            intro w' hS
            (have q0 := hS.1.cell; have q1 := hS.2; clear hS)
            go_simp
            try with_reducible rfl
          refine anyIH_one (i := 0) (by kernel_rfl) rfl (fun K' hK' => ?_)
          rw [if_pos (by rfl)]
          go_simp
          refine hK'.out _ _ hS0 fun hS1 => ?_
          refine anyIH_take (i := 5) (v := ?vx5) (by kernel_rfl) rfl (by kernel_rfl) (by kernel_rfl) (by kernel_rfl) (fun _ _ _ h => h) (.inl ⟨by rfl, ?yx5⟩) hS1 ?_
          case yx5 =>
            intro w' hS
            (clear hS)
            go_simp
            try with_reducible rfl
          refine anyIH_one (i := 6) (by kernel_rfl) rfl (fun K' hK' => ?_)
          rw [if_pos (by rfl)]
          go_simp
          refine hK'.out _ _ ⟨(Hbt.out _).kept (grownBy_setCell2 _ _ _ _) (by simp; omega), (World.cell?_of_block (a := ⟨b, off, none⟩) ((grownBy_setCell2 _ w1.heap.size 0 _).block b (World.block_lt_of_cell? _ _ hS0.2) (by simp; omega))).trans hS0.2⟩ fun hS5 => ?_
          refine anyIH_done (by kernel_rfl) ?_ _
          refine ⟨?_, rfl, HR.out _⟩
          exact ((grownBy_setCell2 _ w1.heap.size 0 _).block _ (Hl2.out _) (by simp; omega)).trans (Hl1.out _)
      case post =>
        rintro e W' ⟨⟨v, rfl⟩, hE⟩
        refine range_doneK hE.rec_ fun Wx hg => ?_
        have hD := (hg.block _ (Array.getElem?_eq_some_iff.1 hE.def_).1 (by simp)).trans hE.def_
        have bX := hE.c.kept hg (by simp; omega)
        have hlo := hE.low.grown hg (by have := hE.low.size; omega) (fun j e => by cases e; have := hB3.size; omega)
        have cX := bX.cell
        have hs3a : w1.heap.size + 2 ≤ w3.heap.size := by omega
        clear hE hE0 hs2 hs3 hDL
        gi_wp2
        refine retM1 hD ⟨_, results_tmp2 rfl _ _ _, ?_⟩
        exact ⟨ret_i2d (by rw [H.out.2, Hsum.out, Nat.mul_comm]; simp) H.out.1.symm, below_shut hlo (by have := hB3.size; omega)⟩

end Go.Proofs.Ytnhdfpmjebfjmaa
