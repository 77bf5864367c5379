/-
  The model's slots by deadlines.
  Conditions: jobs with a whole period of at most 240.
-/
import Derived.Test.YtbhpflhopajbfaaQsm
import Derived.Test.YtbhpflhopajbfaaWhS
import Derived.Test.YtbhpflhopajbfaaSort
namespace Go.Proofs.Ytbhpflhopajbfaa
open Go.RowKit Go.Shelf
attribute [local go_sem] Oper.semAt_some

section
variable {P : Program}
/-- the ordinary way out alone -/
def onlyQ (R : Act → World → Prop) : Exit → Act → World → Prop
  | .normal, a, w => R a w
  | _, _, _ => False
theorem wp_thruQ {α β : Type} (AA : α → β → Act) (R : α → β → World → Prop) {c : Code} {Q : Exit → Act → World → Prop} {a : Act} {w : World}
    (h : c.wp P (onlyQ fun a' w' => ∃ x y, a' = AA x y ∧ R x y w') a w) (hq : ∀ x y w', R x y w' → Q .normal (AA x y) w') : c.wp P Q a w :=
  wp_mono h fun e a' w' hp => by
    cases e with
    | normal => obtain ⟨x, y, rfl, hr⟩ := hp; exact hq x y w' hr
    | panic ch => exact hp.elim
    | exit id => exact hp.elim
    | goto l => exact hp.elim
    | ret => exact hp.elim
    | outgrown => exact hp.elim
end

theorem ownI_emptyQ {B : Nat} (w : World) (h : B ≤ w.heap.size) : OwnI B (w.alloc (.cells #[] 2)) (.slice (some ⟨w.heap.size, 0, none⟩) 0 0) [] := World.ownsRow_made w #[] 0 h (by unfold maxLen; omega) rfl
/-- the slot at which the first one is late, -1 for none -/
def slV (ls ps ds : List Int) (N : Nat) : Int := if lateV ls ps ds = -1 then -1 else ((edN ls ps ds N : Nat) : Int)
/-- the three lists and what lies besides -/
structure SlE (bj gl gd : Nat) (cl cp cd : Value) (K : Nat) (w : World) (u : Value) (out Ls Ds : List Int) (W : World) : Prop where
  box : Box3 W bj 37 cl cp cd
  out : OwnI w.heap.size W u out
  l : OwnI w.heap.size W (.slice (some ⟨gl, 0, none⟩) K K) Ls
  d : OwnI w.heap.size W (.slice (some ⟨gd, 0, none⟩) K K) Ds
  ul : u.ownBlock ≠ some gl
  ud : u.ownBlock ≠ some gd
  below : Below w.heap.size w W
  jl : bj ≠ gl
  jd : bj ≠ gd
  ld : gl ≠ gd
  bw : w.heap.size ≤ bj
theorem cells_blk {W : World} {b i : Nat} {v : Value} (h : W.cell? ⟨b, i, none⟩ = some v) : b < W.heap.size := World.block_lt_of_cell? W _ h
section
variable {bj gl gd K : Nat} {cl cp cd u : Value} {w W : World} {out Ls Ds : List Int}
theorem SlE.drew (h : SlE bj gl gd cl cp cd K w u out Ls Ds W) : SlE bj gl gd cl cp cd K w u out Ls Ds W.drew :=
  ⟨h.box, World.ownsRow.drew h.out, World.ownsRow.drew h.l, World.ownsRow.drew h.d, h.ul, h.ud, h.below.drew, h.jl, h.jd, h.ld, h.bw⟩
theorem SlE.setL (h : SlE bj gl gd cl cp cd K w u out Ls Ds W) (i : Nat) (x : Int) : SlE bj gl gd cl cp cd K w u out (Ls.set i x) Ds (W.setCell ⟨gl, i, none⟩ (.int .i64 x)) := by
  obtain ⟨r1, r2⟩ := h.l.stored i x
  exact ⟨h.box.other h.jl _, h.out.kept r2 (.inr h.ul), r1, h.d.kept r2 (.inr (by simp [Value.ownBlock]; exact h.ld.symm)), h.ul, h.ud, h.below.setCell (p := ⟨gl, i, none⟩) (h.l.blk gl rfl).1 _, h.jl, h.jd, h.ld, h.bw⟩
theorem SlE.setD (h : SlE bj gl gd cl cp cd K w u out Ls Ds W) (i : Nat) (x : Int) : SlE bj gl gd cl cp cd K w u out Ls (Ds.set i x) (W.setCell ⟨gd, i, none⟩ (.int .i64 x)) := by
  obtain ⟨r1, r2⟩ := h.d.stored i x
  exact ⟨h.box.other h.jd _, h.out.kept r2 (.inr h.ud), h.l.kept r2 (.inr (by simp [Value.ownBlock]; exact h.ld)), r1, h.ul, h.ud, h.below.setCell (p := ⟨gd, i, none⟩) (h.d.blk gd rfl).1 _, h.jl, h.jd, h.ld, h.bw⟩
theorem SlE.app {v' : Value} {w1 : World} {out2 : List Int} (h : SlE bj gl gd cl cp cd K w u out Ls Ds W) (ho : OwnI w.heap.size w1 v' out2) (hg : W.grownBy w1 u.ownBlock) (hB : Below w.heap.size w w1)
    (hat : v'.ownBlock = u.ownBlock ∨ ∀ j, v'.ownBlock = some j → W.heap.size ≤ j) : SlE bj gl gd cl cp cd K w v' out2 Ls Ds w1 := by
  have hl := (h.l.blk gl rfl).2
  have hd := (h.d.blk gd rfl).2
  have hne : ∀ g, u.ownBlock ≠ some g → g < W.heap.size → v'.ownBlock ≠ some g := fun g h1 h2 e => by
    rcases hat with h3 | h3
    · exact h1 (h3.symm.trans e)
    · have := h3 g e; omega
  exact ⟨h.box.kept hg (fun e => by
      obtain ⟨cur, hc⟩ := int_cells h.out e.symm
      rw [show W.heap[bj]? = _ from h.box] at hc
      injection hc with hc
      simp at hc), ho, h.l.kept hg (.inr (fun e => h.ul e.symm)), h.d.kept hg (.inr (fun e => h.ud e.symm)), hne gl h.ul hl, hne gd h.ud hd, hB, h.jl, h.jd, h.ld, h.bw⟩
end

set_option maxRecDepth 100000 in
set_option maxHeartbeats 32000000 in
theorem l04Slots_c (cl cp cd : Value) (ls ps ds : List Int) (w : World) (hI : Jobs3 w.heap.size w cl cp cd ls ps ds) (hc : jobCode ls ps ds = 0) :
    Calls Try.prog 73 #[.agg #[cl, cp, cd]] w (GivesI w (edL ls ps ds (wholeN ps)) fun v => .tuple #[v, .int .i64 (slV ls ps ds (wholeN ps)), .int .i64 (lateV ls ps ds)]) := by
  obtain ⟨i0, hi, hz0, hz1, hz2⟩ := info_parts Try.infoI2
  obtain ⟨al, capl, rfl⟩ := hI.l.shape
  obtain ⟨ap, capp, rfl⟩ := hI.p.shape
  obtain ⟨ad, capd, rfl⟩ := hI.d.shape
  obtain ⟨ht, hw⟩ := jobCode0 hc
  have HP := Lib.hid (jobsP ht)
  have h8 := HP.out.len8
  have h1 := HP.out.len1
  have Hc := Lib.hid hc
  have hfw : Try.prog.follows Departure.mixedOrders = true := by kernel_rfl
  have hB0 := below_jobs w (.slice al ls.length capl) (.slice ap ps.length capp) (.slice ad ds.length capd)
  clear hc ht
  obtain ⟨N, hN⟩ : ∃ N, wholeN ps = N := ⟨_, rfl⟩
  have HN := Lib.hid hN
  rw [hN] at hw ⊢
  clear hN
  go_enter Try.func73, Try.ntmps73
  go_wp2_with fail
  refine (l04Whole_v _ _ _ ls ps ds _ (hI.later hB0) Hc.out).mono ?_
  rintro e w1 ⟨rfl, hb⟩
  have hB1 := hB0.trans (hb.mono (by simp))
  have bj := (Box3.new w 37 (.slice al ls.length capl) (.slice ap ps.length capp) (.slice ad ds.length capd)).later hb
  rw [HN.out]
  clear hb hB0
  go_wp2_with fail
  obtain ⟨W2, hW2⟩ : ∃ W2, w1.alloc (.cells #[] 2) = W2 := ⟨_, rfl⟩
  have hoU : OwnI w.heap.size W2 (.slice (some ⟨w1.heap.size, 0, none⟩) 0 0) [] := by rw [← hW2]; exact ownI_emptyQ w1 hB1.size
  have hB2 : Below w.heap.size w W2 := by rw [← hW2]; exact hB1.alloc hB1.size _
  have bj2 : Box3 W2 w.heap.size 37 (.slice al ls.length capl) (.slice ap ps.length capp) (.slice ad ds.length capd) := by rw [← hW2]; exact bj.alloc _
  have hsz2 : w1.heap.size < W2.heap.size := by rw [← hW2]; simp
  rw [hW2]
  clear hW2 bj
  have k0 := bj2.c0
  have hjW2 := bj2.lt
  have hs12 := hB1.size
  refine' wp_thruQ (α := Nat) (β := Nat) _ (fun gl gd w' => Below W2.heap.size W2 w' ∧ W2.heap.size ≤ gl ∧ W2.heap.size ≤ gd ∧ gl ≠ gd ∧ OwnI w.heap.size w' (.slice (some ⟨gl, 0, none⟩) ls.length ls.length) (List.replicate ls.length 0) ∧ OwnI w.heap.size w' (.slice (some ⟨gd, 0, none⟩) ls.length ls.length) (List.replicate ls.length 0)) _ _
  rotate_left
  · refine wp_region_held_drew (S := fun w' => Below W2.heap.size W2 w') hfw (Below.refl _ _).drew ?_
    intro hS0
    refine wpAnyH_take (i := 0) (v := ?v0) rfl (by kernel_rfl) (by kernel_rfl) (by kernel_rfl) (fun _ _ _ h => h) (.inl ⟨by first | kernel_rfl | rfl, ?y0⟩) hS0 ?_
    case y0 =>
      intro w' hS
      (have k0 := (hS.cell (p := ⟨w.heap.size, 0, none⟩) hjW2).trans k0; clear hS)
      go_simp
      try with_reducible rfl
    refine wpAnyH_take (i := 1) (v := ?v1) rfl (by kernel_rfl) (by kernel_rfl) (by kernel_rfl) (fun _ _ _ h => h) (.inl ⟨by first | kernel_rfl | rfl, ?y1⟩) hS0 ?_
    case y1 =>
      intro w' hS
      (have k0 := (hS.cell (p := ⟨w.heap.size, 0, none⟩) hjW2).trans k0; clear hS)
      go_simp
      try with_reducible rfl
    refine wpAnyH_take (i := 2) (v := ?v2) rfl (by kernel_rfl) (by kernel_rfl) (by kernel_rfl) (fun _ _ _ h => h) (.inl ⟨by first | kernel_rfl | rfl, ?y2⟩) hS0 ?_
    case y2 =>
      intro w' hS
      (have k0 := (hS.cell (p := ⟨w.heap.size, 0, none⟩) hjW2).trans k0; clear hS)
      go_simp
      try with_reducible rfl
    refine wpAnyH_take (i := 4) (v := ?v4) rfl (by kernel_rfl) (by kernel_rfl) (by kernel_rfl) (fun _ _ _ h => h) (.inl ⟨by first | kernel_rfl | rfl, ?y4⟩) hS0 ?_
    case y4 =>
      intro w' hS
      (have k0 := (hS.cell (p := ⟨w.heap.size, 0, none⟩) hjW2).trans k0; clear hS)
      go_simp
      try with_reducible rfl
    refine wpAnyH_take (i := 5) (v := ?v5) rfl (by kernel_rfl) (by kernel_rfl) (by kernel_rfl) (fun _ _ _ h => h) (.inl ⟨by first | kernel_rfl | rfl, ?y5⟩) hS0 ?_
    case y5 =>
      intro w' hS
      (have k0 := (hS.cell (p := ⟨w.heap.size, 0, none⟩) hjW2).trans k0; clear hS)
      go_simp
      try with_reducible rfl
    refine wpAnyH_take (i := 6) (v := ?v6) rfl (by kernel_rfl) (by kernel_rfl) (by kernel_rfl) (fun _ _ _ h => h) (.inl ⟨by first | kernel_rfl | rfl, ?y6⟩) hS0 ?_
    case y6 =>
      intro w' hS
      (have k0 := (hS.cell (p := ⟨w.heap.size, 0, none⟩) hjW2).trans k0; clear hS)
      go_simp
      try with_reducible rfl
    try simp only [Act.put, List.getElem_toArray, List.getElem_cons_zero, List.getElem_cons_succ, List.setIfInBounds_toArray, List.set_cons_zero, List.set_cons_succ]
    obtain ⟨wd, hwd⟩ : ∃ wd, W2.drew = wd := ⟨_, rfl⟩
    rw [hwd] at hS0 ⊢
    clear hwd
    refine wpAnyH_ready (rs := [3, 7]) (by kernel_rfl) (by simp) ?_
    refine AllReadyH.cons rfl (fun K' hK' => ?_) (AllReadyH.cons rfl (fun K' hK' => ?_) AllReadyH.nil)
    · rw [if_pos (by rfl)]
      obtain ⟨w_3, hrun, hoC0, hgr⟩ := run_make_full (P := Try.prog) wd w.heap.size 22 2 i0 (.int .i64 0) 1 Try.underlying22 hi hz0 hz1 .i64 .i64 ls.length (by rw [hz2]; omega) (by unfold maxLen; omega) (by have := hS0.size; omega)
      have hbw : Below wd.heap.size wd w_3 := (Below.refl _ _).grown hgr (Nat.le_refl _) (fun j e => by cases e)
      obtain ⟨gl, hgc⟩ : ∃ gl, wd.heap.size = gl := ⟨_, rfl⟩
      rw [hgc] at hrun hoC0
      go_simp
      refine hK'.out _ _ (hS0.trans (hbw.mono hS0.size)) fun hS_3 => ?_
      have hgl1 : W2.heap.size ≤ gl := by rw [← hgc]; exact hS0.size
      have hoL := ownI_made (by rw [Nat.mul_one] at hoC0; exact hoC0)
      have hgl2 := (hoL.blk gl rfl).2
      have hs_w_3 := hbw.size
      clear hrun hoC0 hgr hbw hK'
      refine wpAnyH_take (i := 8) (v := ?vw_38) rfl (by kernel_rfl) (by kernel_rfl) (by kernel_rfl) (fun _ _ _ h => h) (.inl ⟨by rfl, ?yw_38⟩) hS_3 ?_
      case yw_38 =>
        intro w' hS
        (clear hS)
        go_simp
        try with_reducible rfl
      refine wpAnyH_ready (rs := [7]) (by kernel_rfl) (by simp) ?_
      refine AllReadyH.cons rfl (fun K' hK' => ?_) AllReadyH.nil
      · rw [if_pos (by rfl)]
        obtain ⟨w_3_7, hrun, hoC0, hgr⟩ := run_make_full (P := Try.prog) w_3 w.heap.size 22 2 i0 (.int .i64 0) 1 Try.underlying22 hi hz0 hz1 .i64 .i64 ls.length (by rw [hz2]; omega) (by unfold maxLen; omega) (by have := hS_3.size; omega)
        have hbw : Below w_3.heap.size w_3 w_3_7 := (Below.refl _ _).grown hgr (Nat.le_refl _) (fun j e => by cases e)
        obtain ⟨gd, hgc⟩ : ∃ gd, w_3.heap.size = gd := ⟨_, rfl⟩
        rw [hgc] at hrun hoC0
        go_simp
        refine hK'.out _ _ (hS_3.trans (hbw.mono hS_3.size)) fun hS_3_7 => ?_
        have hgd1 : W2.heap.size ≤ gd := by rw [← hgc]; exact hS_3.size
        have hoD := ownI_made (by rw [Nat.mul_one] at hoC0; exact hoC0)
        have hgd2 := (hoD.blk gd rfl).2
        replace hoL := hoL.below hbw
        have hs_w_3_7 := hbw.size
        clear hrun hoC0 hgr hbw hK'
        refine wpAnyH_take (i := 9) (v := ?vw_3_79) rfl (by kernel_rfl) (by kernel_rfl) (by kernel_rfl) (fun _ _ _ h => h) (.inl ⟨by rfl, ?yw_3_79⟩) hS_3_7 ?_
        case yw_3_79 =>
          intro w' hS
          (clear hS)
          go_simp
          try with_reducible rfl
        refine wpAnyH_done (by kernel_rfl) ?_ _
        refine ⟨gl, gd, ?_, hS_3_7, hgl1, hgd1, by omega, hoL, hoD⟩
        first | (go_simp; done) | (go_simp; exact rfl)
    · rw [if_pos (by rfl)]
      obtain ⟨w_7, hrun, hoC0, hgr⟩ := run_make_full (P := Try.prog) wd w.heap.size 22 2 i0 (.int .i64 0) 1 Try.underlying22 hi hz0 hz1 .i64 .i64 ls.length (by rw [hz2]; omega) (by unfold maxLen; omega) (by have := hS0.size; omega)
      have hbw : Below wd.heap.size wd w_7 := (Below.refl _ _).grown hgr (Nat.le_refl _) (fun j e => by cases e)
      obtain ⟨gd, hgc⟩ : ∃ gd, wd.heap.size = gd := ⟨_, rfl⟩
      rw [hgc] at hrun hoC0
      go_simp
      refine hK'.out _ _ (hS0.trans (hbw.mono hS0.size)) fun hS_7 => ?_
      have hgd1 : W2.heap.size ≤ gd := by rw [← hgc]; exact hS0.size
      have hoD := ownI_made (by rw [Nat.mul_one] at hoC0; exact hoC0)
      have hgd2 := (hoD.blk gd rfl).2
      have hs_w_7 := hbw.size
      clear hrun hoC0 hgr hbw hK'
      skip
      refine wpAnyH_ready (rs := [3]) (by kernel_rfl) (by simp) ?_
      refine AllReadyH.cons rfl (fun K' hK' => ?_) AllReadyH.nil
      · rw [if_pos (by rfl)]
        obtain ⟨w_7_3, hrun, hoC0, hgr⟩ := run_make_full (P := Try.prog) w_7 w.heap.size 22 2 i0 (.int .i64 0) 1 Try.underlying22 hi hz0 hz1 .i64 .i64 ls.length (by rw [hz2]; omega) (by unfold maxLen; omega) (by have := hS_7.size; omega)
        have hbw : Below w_7.heap.size w_7 w_7_3 := (Below.refl _ _).grown hgr (Nat.le_refl _) (fun j e => by cases e)
        obtain ⟨gl, hgc⟩ : ∃ gl, w_7.heap.size = gl := ⟨_, rfl⟩
        rw [hgc] at hrun hoC0
        go_simp
        refine hK'.out _ _ (hS_7.trans (hbw.mono hS_7.size)) fun hS_7_3 => ?_
        have hgl1 : W2.heap.size ≤ gl := by rw [← hgc]; exact hS_7.size
        have hoL := ownI_made (by rw [Nat.mul_one] at hoC0; exact hoC0)
        have hgl2 := (hoL.blk gl rfl).2
        replace hoD := hoD.below hbw
        have hs_w_7_3 := hbw.size
        clear hrun hoC0 hgr hbw hK'
        refine wpAnyH_take (i := 8) (v := ?vw_7_38) rfl (by kernel_rfl) (by kernel_rfl) (by kernel_rfl) (fun _ _ _ h => h) (.inl ⟨by rfl, ?yw_7_38⟩) hS_7_3 ?_
        case yw_7_38 =>
          intro w' hS
          (clear hS)
          go_simp
          try with_reducible rfl
        refine wpAnyH_take (i := 9) (v := ?vw_7_39) rfl (by kernel_rfl) (by kernel_rfl) (by kernel_rfl) (fun _ _ _ h => h) (.inl ⟨by rfl, ?yw_7_39⟩) hS_7_3 ?_
        case yw_7_39 =>
          intro w' hS
          (clear hS)
          go_simp
          try with_reducible rfl
        refine wpAnyH_done (by kernel_rfl) ?_ _
        refine ⟨gl, gd, ?_, hS_7_3, hgl1, hgd1, by omega, hoL, hoD⟩
        first | (go_simp; done) | (go_simp; exact rfl)
  rintro gl gd W3 ⟨hB3, hgl, hgd, hne, hoL, hoD⟩
  have E0 := Lib.hid (show SlE w.heap.size gl gd (.slice al ls.length capl) (.slice ap ps.length capp) (.slice ad ds.length capd) ls.length w (.slice (some ⟨w1.heap.size, 0, none⟩) 0 0) (edTo ls ps ds 0) (lst (edS ls ps ds 0).1 ls.length) (lst (edS ls ps ds 0).2 ls.length) W3 from
    ⟨bj2.later hB3, hoU.below hB3, by rw [show lst (edS ls ps ds 0).1 ls.length = _ from lst_zero _]; exact hoL, by rw [show lst (edS ls ps ds 0).2 ls.length = _ from lst_zero _]; exact hoD,
      by simp [Value.ownBlock]; omega, by simp [Value.ownBlock]; omega, hB2.trans (hB3.mono hB2.size), by omega, by omega, hne, Nat.le_refl _⟩)
  have Hne := Lib.hid hne
  clear hoL hoD hoU hB3 bj2 hB2 k0 hjW2 hB1 hne hfw
  go_wp2_with fail
  go_loopw [6, 9] (fun v x wr => ∃ (s : Nat) (u : Value), s ≤ N ∧ x = .int .i64 s ∧ u = v ∧ (∀ j, j < s → edLate ls ps ds j < 0) ∧ SlE w.heap.size gl gd (.slice al ls.length capl) (.slice ap ps.length capp) (.slice ad ds.length capd) ls.length w u (edTo ls ps ds s) (lst (edS ls ps ds s).1 ls.length) (lst (edS ls ps ds s).2 ls.length) wr) (fun _ x _ => N + 1 - (intOf x).toNat)
  case atStart => exact ⟨0, _, Nat.zero_le _, rfl, rfl, fun j hj => by omega, E0.out⟩
  case round =>
    obtain ⟨s, u, hs, rfl, rfl, hnl, hE⟩ := hrel
    have Hnl := Lib.hid hnl
    have EE := Lib.hid hE
    have hEl := hE.l
    have hEd := hE.d
    have hsN : (s : Int) ≤ (N : Int) := by omega
    clear hnl hE E0
    go_wp2_with fail
    go_loopw [10] (fun x W => ∃ i : Nat, i ≤ ls.length ∧ x = .int .i64 i ∧ W = wr ∧ ∀ j, j < i → ¬ (0 < (edS ls ps ds s).1 j ∧ (edS ls ps ds s).2 j = (s : Int))) (fun x _ => ls.length - (intOf x).toNat)
    case atStart => exact ⟨0, Nat.zero_le _, rfl, rfl, fun j hj => by omega⟩
    case round =>
      obtain ⟨i, hik, rfl, rfl, hno⟩ := hrel
      have Hno := Lib.hid hno
      clear hno
      by_cases hlt : i < ls.length
      · have hx := hEl.cellAt (j := i) (by rw [lst_length]; exact hlt)
        have hy := hEd.cellAt (j := i) (by rw [lst_length]; exact hlt)
        rw [nth_lst hlt] at hx hy
        obtain ⟨x, ex⟩ : ∃ x, (edS ls ps ds s).1 i = x := ⟨_, rfl⟩
        obtain ⟨y, ey⟩ : ∃ y, (edS ls ps ds s).2 i = y := ⟨_, rfl⟩
        rw [ex] at hx
        rw [ey] at hy
        have hlti : (i : Int) < (ls.length : Int) := by omega
        by_cases hx0 : 0 < x
        · by_cases hys : y = (s : Int)
          · have hla : edLate ls ps ds s = i := late_at hlt ⟨by rw [ex]; exact hx0, by rw [ey]; exact hys⟩ Hno.out
            have hed : edN ls ps ds N = s := edN_eq hs Hnl.out (.inr (by omega))
            have hlv : lateV ls ps ds = i := by unfold lateV edT; rw [HN.out, hed]; exact hla
            have H1 := Lib.hid (show edL ls ps ds N = edTo ls ps ds s by unfold edL; rw [hed])
            have H2 := Lib.hid (show slV ls ps ds N = s by unfold slV; rw [hlv, hed, if_neg (by omega)])
            have H3 := Lib.hid hlv
            clear hla hed hlv ex ey
            go_wp2_with fail
            go_ret3
            exact ⟨_, retT3 rfl (vI H2.out.symm) (vI H3.out.symm), by rw [H1.out]; exact EE.out.out, EE.out.below⟩
          · have Hn := Lib.hid (show ∀ j, j < i + 1 → ¬ (0 < (edS ls ps ds s).1 j ∧ (edS ls ps ds s).2 j = (s : Int)) from fun j hj => by
              by_cases ej : j = i
              · subst ej; rw [ex, ey]; exact fun h => hys h.2
              · exact Hno.out j (by omega))
            clear ex ey
            go_wp2_with fail
            go_roundw
            case rel => exact ⟨i + 1, by omega, by simp, (by first | rfl | trivial), Hn.out⟩
            case measure => simp [intOf]; omega
        · have Hn := Lib.hid (show ∀ j, j < i + 1 → ¬ (0 < (edS ls ps ds s).1 j ∧ (edS ls ps ds s).2 j = (s : Int)) from fun j hj => by
            by_cases ej : j = i
            · subst ej; rw [ex]; exact fun h => hx0 h.1
            · exact Hno.out j (by omega))
          clear ex ey
          go_wp2_with fail
          go_roundw
          case rel => exact ⟨i + 1, by omega, by simp, (by first | rfl | trivial), Hn.out⟩
          case measure => simp [intOf]; omega
      · obtain rfl : i = ls.length := by omega
        have hla : edLate ls ps ds s = -1 := late_no Hno.out
        have Hla := Lib.hid hla
        clear hEl hEd
        by_cases hsn : s = N
        · have hed : edN ls ps ds N = N := edN_eq (Nat.le_refl _) (hsn ▸ Hnl.out) (.inl rfl)
          have hlv : lateV ls ps ds = -1 := by unfold lateV edT; rw [HN.out, hed, ← hsn]; exact hla
          have H1 := Lib.hid (show edL ls ps ds N = edTo ls ps ds s by unfold edL; rw [hed, hsn])
          have H2 := Lib.hid (show slV ls ps ds N = -1 by unfold slV; rw [hlv]; rfl)
          have H3 := Lib.hid hlv
          have hsni : (s : Int) = (N : Int) := by omega
          clear hla hed hlv hsn
          go_wp2_with fail
          go_ret3
          exact ⟨_, retT3 rfl (vI H2.out.symm) (vI H3.out.symm), by rw [H1.out]; exact EE.out.out, EE.out.below⟩
        · have hsni : ¬ (s : Int) = (N : Int) := by omega
          have E1 := Lib.hid (show SlE w.heap.size gl gd (.slice al ls.length capl) (.slice ap ps.length capp) (.slice ad ds.length capd) ls.length w u (edTo ls ps ds s) (lst (cLT ls ps ds s 0) ls.length) (lst (cDT ls ps ds s 0) ls.length) wr by rw [cLT_zero, cDT_zero]; exact EE.out)
          have hfw : Try.prog.follows Departure.mixedOrders = true := by kernel_rfl
          have h240 : (edTo ls ps ds s).length ≤ 240 := by rw [edTo_length]; omega
          clear hla EE
          go_wp2_with fail
          have Hsn := Lib.hid hsn
          have hsb : ((s : Int) == (N : Int)) = false := by rw [beq_eq_false_iff_ne]; omega
          rw [hsb]
          clear hsb hsni hsn
          go_loopw [11, 12] (fun bv x W => ∃ i : Nat, i ≤ ls.length ∧ x = .int .i64 i ∧ bv = .int .i64 (bestTo (CL ls ps ds s) (CD ls ps ds s) i) ∧ SlE w.heap.size gl gd (.slice al ls.length capl) (.slice ap ps.length capp) (.slice ad ds.length capd) ls.length w u (edTo ls ps ds s) (lst (cLT ls ps ds s i) ls.length) (lst (cDT ls ps ds s i) ls.length) W) (fun _ x _ => ls.length - (intOf x).toNat)
          case atStart => exact ⟨0, Nat.zero_le _, rfl, rfl, E1.out⟩
          case round =>
            obtain ⟨i, hi2, rfl, rfl, hE⟩ := hrel
            by_cases hlt : i < ls.length
            · have hlti : (i : Int) < (ls.length : Int) := by omega
              have hp := HP.out.p i hlt
              have hl := HP.out.l i hlt
              have hd := HP.out.d i hlt
              have hJ := hI.below hE.below
              obtain ⟨bp, op, rfl, hbp, hcp⟩ := hJ.p.at_ (k := i) (by have := HP.out.lp; omega)
              obtain ⟨bl, ol, rfl, hbl, hcl⟩ := hJ.l.at_ (k := i) hlt
              obtain ⟨bd, od, rfl, hbd, hcd⟩ := hJ.d.at_ (k := i) (by have := HP.out.ld; omega)
              have xp := hcp i (by have := HP.out.lp; omega)
              have xl := hcl i hlt
              have xd := hcd i (by have := HP.out.ld; omega)
              have hlpi : (i : Int) < (ps.length : Int) := by have := HP.out.lp; omega
              have hldi : (i : Int) < (ds.length : Int) := by have := HP.out.ld; omega
              have c0 := hE.box.c0
              have c1 := hE.box.c1
              have c2 := hE.box.c2
              have hgl1 := (hE.l.blk gl rfl)
              have hgd1 := (hE.d.blk gd rfl)
              have fl := hE.l.frozen
              have fd := hE.d.frozen
              have yl := hE.l.cellAt (j := i) (by rw [lst_length]; exact hlt)
              have yd := hE.d.cellAt (j := i) (by rw [lst_length]; exact hlt)
              have hld := hE.ld
              have hjl := hE.jl
              have hjd := hE.jd
              obtain ⟨lv, elv⟩ : ∃ lv, nth ls i = lv := ⟨_, rfl⟩
              obtain ⟨pv, epv⟩ : ∃ pv, nth ps i = pv := ⟨_, rfl⟩
              obtain ⟨dv, edv⟩ : ∃ dv, nth ds i = dv := ⟨_, rfl⟩
              rw [elv] at xl hl
              rw [epv] at xp hp hd
              rw [edv] at xd hd
              have hpz : ¬ pv = 0 := by omega
              have HE := Lib.hid hE
              clear hcp hcl hcd hE hJ
              by_cases hz : (s : Int) % pv = 0
              · have hw1 : Int.tmod (s : Int) pv = 0 := by rw [Int.tmod_eq_emod_of_nonneg (by omega)]; exact hz
                have hw2 : IntKind.i64.wrap ((s : Int) + dv) = (s : Int) + dv := by rw [IntKind.wrap_i64]; omega
                have m1 : ¬ bl = gl := by omega
                have m2 : ¬ bd = gl := by omega
                have m3 : ¬ gd = gl := fun e => hld e.symm
                have hE2 := (HE.out.setL i lv).setD i ((s : Int) + dv)
                have q1 := cLT_yes (ls := ls) (ps := ps) (ds := ds) (s := s) (i := i) (K := ls.length) (by rw [epv]; exact hz)
                have q2 := cDT_yes (ls := ls) (ps := ps) (ds := ds) (s := s) (i := i) (K := ls.length) (by rw [epv]; exact hz)
                rw [elv] at q1
                rw [edv] at q2
                rw [← q1, ← q2] at hE2
                clear q1 q2 elv epv edv HE
                obtain ⟨WX, hWX⟩ : ∃ WX, (wr.setCell ⟨gl, i, none⟩ (.int .i64 lv)).setCell ⟨gd, i, none⟩ (.int .i64 ((s : Int) + dv)) = WX := ⟨_, rfl⟩
                have hEc := hE2
                rw [hWX] at hEc
                clear hE2
                have hx := hEc.l.cellAt (j := i) (by rw [lst_length]; omega)
                have hy := hEc.d.cellAt (j := i) (by rw [lst_length]; omega)
                rw [nth_cLT (by omega) hlt] at hx
                rw [nth_cDT (by omega) hlt] at hy
                obtain ⟨x, ex⟩ : ∃ x, CL ls ps ds s i = x := ⟨_, rfl⟩
                obtain ⟨y, ey⟩ : ∃ y, CD ls ps ds s i = y := ⟨_, rfl⟩
                have hbs := best_succ (ls := ls) (ps := ps) (ds := ds) s i
                rw [ex] at hx hbs
                rw [ey] at hy hbs
                have Ec := Lib.hid hEc
                clear hEc ex ey
                by_cases hx0 : 0 < x
                · rcases best_bd (ls := ls) (ps := ps) (ds := ds) s i with hb | ⟨q, hb, hqi, _⟩
                  · have Hb := Lib.hid (hbs.trans (if_pos ⟨hx0, .inl (by omega)⟩))
                    rw [hb]
                    clear hb hbs
                    go_wp2_with fail
                    try rw [hWX]
                    clear hWX yl yd fl fd
                    refine wp_region_held_drew (S := fun w' => w' = _) hfw rfl ?_
                    intro hS0
                    refine wpAnyH_take (i := 0) (v := ?va10) rfl (by kernel_rfl) (by kernel_rfl) (by kernel_rfl) (fun _ _ _ h => h) (.inl ⟨by first | kernel_rfl | rfl, ?ya10⟩) rfl ?_
                    case ya10 =>
                      intro w' hS
                      (subst hS)
                      go_simp
                      try with_reducible rfl
                    refine wpAnyH_take (i := 1) (v := ?va11) rfl (by kernel_rfl) (by kernel_rfl) (by kernel_rfl) (fun _ _ _ h => h) (.inl ⟨by first | kernel_rfl | rfl, ?ya11⟩) rfl ?_
                    case ya11 =>
                      intro w' hS
                      (subst hS)
                      go_simp
                      try with_reducible rfl
                    refine wpAnyH_take (i := 2) (v := ?va12) rfl (by kernel_rfl) (by kernel_rfl) (by kernel_rfl) (fun _ _ _ h => h) (.inl ⟨by first | kernel_rfl | rfl, ?ya12⟩) rfl ?_
                    case ya12 =>
                      intro w' hS
                      (subst hS)
                      go_simp
                      try with_reducible rfl
                    refine wpAnyH_take (i := 3) (v := ?va13) rfl (by kernel_rfl) (by kernel_rfl) (by kernel_rfl) (fun _ _ _ h => h) (.inl ⟨by first | kernel_rfl | rfl, ?ya13⟩) rfl ?_
                    case ya13 =>
                      intro w' hS
                      (subst hS)
                      go_simp
                      try with_reducible rfl
                    try simp only [Act.put, List.getElem_toArray, List.getElem_cons_zero, List.getElem_cons_succ, List.setIfInBounds_toArray, List.set_cons_zero, List.set_cons_succ]
                    refine wpAnyH_take (i := 4) (v := (.bool true)) rfl (by kernel_rfl) (by kernel_rfl) (by kernel_rfl) (fun _ _ _ h => h) (.inl ⟨by first | kernel_rfl | rfl, ?ya24⟩) rfl ?_
                    case ya24 =>
                      intro w' hS
                      (subst hS)
                      go_simp
                      first | done | (simp; done) | (simp; omega) | omega | (simp [*]; done)
                    refine wpAnyH_take (i := 5) (v := ?va35) rfl (by kernel_rfl) (by kernel_rfl) (by kernel_rfl) (fun _ _ _ h => h) (.inl ⟨by first | kernel_rfl | rfl, ?ya35⟩) rfl ?_
                    case ya35 =>
                      intro w' hS
                      (subst hS)
                      go_simp
                      try with_reducible rfl
                    refine wpAnyH_take (i := 6) (v := ?va36) rfl (by kernel_rfl) (by kernel_rfl) (by kernel_rfl) (fun _ _ _ h => h) (.inl ⟨by first | kernel_rfl | rfl, ?ya36⟩) rfl ?_
                    case ya36 =>
                      intro w' hS
                      (subst hS)
                      go_simp
                      try with_reducible rfl
                    try simp only [Act.put, List.getElem_toArray, List.getElem_cons_zero, List.getElem_cons_succ, List.setIfInBounds_toArray, List.set_cons_zero, List.set_cons_succ]
                    refine wpAnyH_take (i := 7) (v := (.bool true)) rfl (by kernel_rfl) (by kernel_rfl) (by kernel_rfl) (fun _ _ _ h => h) (.inl ⟨by first | kernel_rfl | rfl, ?ya47⟩) rfl ?_
                    case ya47 =>
                      intro w' hS
                      (subst hS)
                      go_simp
                      first | done | (simp; done) | (simp; omega) | omega | (simp [*]; done)
                    refine wpAnyH_take (i := 8) (v := ?va58) rfl (by kernel_rfl) (by kernel_rfl) (by kernel_rfl) (fun _ _ _ h => h) (.inl ⟨by first | kernel_rfl | rfl, ?ya58⟩) rfl ?_
                    case ya58 =>
                      intro w' hS
                      (subst hS)
                      go_simp
                      try with_reducible rfl
                    try simp only [Act.put, List.getElem_toArray, List.getElem_cons_zero, List.getElem_cons_succ, List.setIfInBounds_toArray, List.set_cons_zero, List.set_cons_succ]
                    refine wpAnyH_take (i := 9) (v := undef) rfl (by kernel_rfl) (by kernel_rfl) (by kernel_rfl) (fun _ _ _ h => h) (.inr ⟨by kernel_rfl, rfl⟩) rfl ?_
                    refine wpAnyH_take (i := 10) (v := undef) rfl (by kernel_rfl) (by kernel_rfl) (by kernel_rfl) (fun _ _ _ h => h) (.inr ⟨by kernel_rfl, rfl⟩) rfl ?_
                    refine wpAnyH_take (i := 11) (v := undef) rfl (by kernel_rfl) (by kernel_rfl) (by kernel_rfl) (fun _ _ _ h => h) (.inr ⟨by kernel_rfl, rfl⟩) rfl ?_
                    refine wpAnyH_take (i := 12) (v := undef) rfl (by kernel_rfl) (by kernel_rfl) (by kernel_rfl) (fun _ _ _ h => h) (.inr ⟨by kernel_rfl, rfl⟩) rfl ?_
                    refine wpAnyH_take (i := 13) (v := undef) rfl (by kernel_rfl) (by kernel_rfl) (by kernel_rfl) (fun _ _ _ h => h) (.inr ⟨by kernel_rfl, rfl⟩) rfl ?_
                    refine wpAnyH_take (i := 14) (v := undef) rfl (by kernel_rfl) (by kernel_rfl) (by kernel_rfl) (fun _ _ _ h => h) (.inr ⟨by kernel_rfl, rfl⟩) rfl ?_
                    refine wpAnyH_take (i := 15) (v := undef) rfl (by kernel_rfl) (by kernel_rfl) (by kernel_rfl) (fun _ _ _ h => h) (.inr ⟨by kernel_rfl, rfl⟩) rfl ?_
                    refine wpAnyH_take (i := 16) (v := undef) rfl (by kernel_rfl) (by kernel_rfl) (by kernel_rfl) (fun _ _ _ h => h) (.inr ⟨by kernel_rfl, rfl⟩) rfl ?_
                    refine wpAnyH_take (i := 17) (v := undef) rfl (by kernel_rfl) (by kernel_rfl) (by kernel_rfl) (fun _ _ _ h => h) (.inr ⟨by kernel_rfl, rfl⟩) rfl ?_
                    try simp only [Act.put, List.getElem_toArray, List.getElem_cons_zero, List.getElem_cons_succ, List.setIfInBounds_toArray, List.set_cons_zero, List.set_cons_succ]
                    refine wpAnyH_take (i := 18) (v := ?va618) rfl (by kernel_rfl) (by kernel_rfl) (by kernel_rfl) (fun _ _ _ h => h) (.inl ⟨by first | kernel_rfl | rfl, ?ya618⟩) rfl ?_
                    case ya618 =>
                      intro w' hS
                      (subst hS)
                      go_simp
                      try with_reducible rfl
                    refine wpAnyH_take (i := 19) (v := ?va619) rfl (by kernel_rfl) (by kernel_rfl) (by kernel_rfl) (fun _ _ _ h => h) (.inl ⟨by first | kernel_rfl | rfl, ?ya619⟩) rfl ?_
                    case ya619 =>
                      intro w' hS
                      (subst hS)
                      go_simp
                      try with_reducible rfl
                    try simp only [Act.put, List.getElem_toArray, List.getElem_cons_zero, List.getElem_cons_succ, List.setIfInBounds_toArray, List.set_cons_zero, List.set_cons_succ]
                    refine wpAnyH_done (by kernel_rfl) ?_ _
                    clear hS0
                    go_wp2_with fail
                    go_roundw
                    case rel => exact ⟨i + 1, by omega, by simp, by rw [Hb.out], Ec.out.drew⟩
                    case measure => simp [intOf]; omega
                  · have hz := Ec.out.d.cellAt (j := q) (by rw [lst_length]; omega)
                    rw [nth_cDT (by omega) (by omega)] at hz
                    rw [hb, Int.toNat_natCast] at hbs
                    obtain ⟨z, ez⟩ : ∃ z, CD ls ps ds s q = z := ⟨_, rfl⟩
                    rw [ez] at hz hbs
                    rw [hb]
                    have hqi2 : (q : Int) < (ls.length : Int) := by omega
                    clear hb ez
                    by_cases hyz : y < z
                    · have Hb := Lib.hid (hbs.trans (if_pos ⟨hx0, .inr hyz⟩))
                      clear hbs
                      go_wp2_with fail
                      try rw [hWX]
                      clear hWX yl yd fl fd
                      refine wp_region_held_drew (S := fun w' => w' = _) hfw rfl ?_
                      intro hS0
                      refine wpAnyH_take (i := 0) (v := ?vb10) rfl (by kernel_rfl) (by kernel_rfl) (by kernel_rfl) (fun _ _ _ h => h) (.inl ⟨by first | kernel_rfl | rfl, ?yb10⟩) rfl ?_
                      case yb10 =>
                        intro w' hS
                        (subst hS)
                        go_simp
                        try with_reducible rfl
                      refine wpAnyH_take (i := 1) (v := ?vb11) rfl (by kernel_rfl) (by kernel_rfl) (by kernel_rfl) (fun _ _ _ h => h) (.inl ⟨by first | kernel_rfl | rfl, ?yb11⟩) rfl ?_
                      case yb11 =>
                        intro w' hS
                        (subst hS)
                        go_simp
                        try with_reducible rfl
                      refine wpAnyH_take (i := 2) (v := ?vb12) rfl (by kernel_rfl) (by kernel_rfl) (by kernel_rfl) (fun _ _ _ h => h) (.inl ⟨by first | kernel_rfl | rfl, ?yb12⟩) rfl ?_
                      case yb12 =>
                        intro w' hS
                        (subst hS)
                        go_simp
                        try with_reducible rfl
                      refine wpAnyH_take (i := 3) (v := ?vb13) rfl (by kernel_rfl) (by kernel_rfl) (by kernel_rfl) (fun _ _ _ h => h) (.inl ⟨by first | kernel_rfl | rfl, ?yb13⟩) rfl ?_
                      case yb13 =>
                        intro w' hS
                        (subst hS)
                        go_simp
                        try with_reducible rfl
                      try simp only [Act.put, List.getElem_toArray, List.getElem_cons_zero, List.getElem_cons_succ, List.setIfInBounds_toArray, List.set_cons_zero, List.set_cons_succ]
                      refine wpAnyH_take (i := 4) (v := (.bool true)) rfl (by kernel_rfl) (by kernel_rfl) (by kernel_rfl) (fun _ _ _ h => h) (.inl ⟨by first | kernel_rfl | rfl, ?yb24⟩) rfl ?_
                      case yb24 =>
                        intro w' hS
                        (subst hS)
                        go_simp
                        first | done | (simp; done) | (simp; omega) | omega | (simp [*]; done)
                      refine wpAnyH_take (i := 5) (v := ?vb35) rfl (by kernel_rfl) (by kernel_rfl) (by kernel_rfl) (fun _ _ _ h => h) (.inl ⟨by first | kernel_rfl | rfl, ?yb35⟩) rfl ?_
                      case yb35 =>
                        intro w' hS
                        (subst hS)
                        go_simp
                        try with_reducible rfl
                      refine wpAnyH_take (i := 6) (v := ?vb36) rfl (by kernel_rfl) (by kernel_rfl) (by kernel_rfl) (fun _ _ _ h => h) (.inl ⟨by first | kernel_rfl | rfl, ?yb36⟩) rfl ?_
                      case yb36 =>
                        intro w' hS
                        (subst hS)
                        go_simp
                        try with_reducible rfl
                      try simp only [Act.put, List.getElem_toArray, List.getElem_cons_zero, List.getElem_cons_succ, List.setIfInBounds_toArray, List.set_cons_zero, List.set_cons_succ]
                      refine wpAnyH_take (i := 7) (v := (.bool false)) rfl (by kernel_rfl) (by kernel_rfl) (by kernel_rfl) (fun _ _ _ h => h) (.inl ⟨by first | kernel_rfl | rfl, ?yb47⟩) rfl ?_
                      case yb47 =>
                        intro w' hS
                        (subst hS)
                        go_simp
                        first | done | (simp; done) | (simp; omega) | omega | (simp [*]; done)
                      refine wpAnyH_take (i := 8) (v := ?vb58) rfl (by kernel_rfl) (by kernel_rfl) (by kernel_rfl) (fun _ _ _ h => h) (.inl ⟨by first | kernel_rfl | rfl, ?yb58⟩) rfl ?_
                      case yb58 =>
                        intro w' hS
                        (subst hS)
                        go_simp
                        try with_reducible rfl
                      refine wpAnyH_take (i := 9) (v := ?vb59) rfl (by kernel_rfl) (by kernel_rfl) (by kernel_rfl) (fun _ _ _ h => h) (.inl ⟨by first | kernel_rfl | rfl, ?yb59⟩) rfl ?_
                      case yb59 =>
                        intro w' hS
                        (subst hS)
                        go_simp
                        try with_reducible rfl
                      refine wpAnyH_take (i := 10) (v := ?vb510) rfl (by kernel_rfl) (by kernel_rfl) (by kernel_rfl) (fun _ _ _ h => h) (.inl ⟨by first | kernel_rfl | rfl, ?yb510⟩) rfl ?_
                      case yb510 =>
                        intro w' hS
                        (subst hS)
                        go_simp
                        try with_reducible rfl
                      refine wpAnyH_take (i := 11) (v := ?vb511) rfl (by kernel_rfl) (by kernel_rfl) (by kernel_rfl) (fun _ _ _ h => h) (.inl ⟨by first | kernel_rfl | rfl, ?yb511⟩) rfl ?_
                      case yb511 =>
                        intro w' hS
                        (subst hS)
                        go_simp
                        try with_reducible rfl
                      refine wpAnyH_take (i := 12) (v := ?vb512) rfl (by kernel_rfl) (by kernel_rfl) (by kernel_rfl) (fun _ _ _ h => h) (.inl ⟨by first | kernel_rfl | rfl, ?yb512⟩) rfl ?_
                      case yb512 =>
                        intro w' hS
                        (subst hS)
                        go_simp
                        try with_reducible rfl
                      refine wpAnyH_take (i := 13) (v := ?vb513) rfl (by kernel_rfl) (by kernel_rfl) (by kernel_rfl) (fun _ _ _ h => h) (.inl ⟨by first | kernel_rfl | rfl, ?yb513⟩) rfl ?_
                      case yb513 =>
                        intro w' hS
                        (subst hS)
                        go_simp
                        try with_reducible rfl
                      refine wpAnyH_take (i := 14) (v := ?vb514) rfl (by kernel_rfl) (by kernel_rfl) (by kernel_rfl) (fun _ _ _ h => h) (.inl ⟨by first | kernel_rfl | rfl, ?yb514⟩) rfl ?_
                      case yb514 =>
                        intro w' hS
                        (subst hS)
                        go_simp
                        try with_reducible rfl
                      refine wpAnyH_take (i := 15) (v := ?vb515) rfl (by kernel_rfl) (by kernel_rfl) (by kernel_rfl) (fun _ _ _ h => h) (.inl ⟨by first | kernel_rfl | rfl, ?yb515⟩) rfl ?_
                      case yb515 =>
                        intro w' hS
                        (subst hS)
                        go_simp
                        try with_reducible rfl
                      refine wpAnyH_take (i := 16) (v := ?vb516) rfl (by kernel_rfl) (by kernel_rfl) (by kernel_rfl) (fun _ _ _ h => h) (.inl ⟨by first | kernel_rfl | rfl, ?yb516⟩) rfl ?_
                      case yb516 =>
                        intro w' hS
                        (subst hS)
                        go_simp
                        try with_reducible rfl
                      try simp only [Act.put, List.getElem_toArray, List.getElem_cons_zero, List.getElem_cons_succ, List.setIfInBounds_toArray, List.set_cons_zero, List.set_cons_succ]
                      refine wpAnyH_take (i := 17) (v := (.bool true)) rfl (by kernel_rfl) (by kernel_rfl) (by kernel_rfl) (fun _ _ _ h => h) (.inl ⟨by first | kernel_rfl | rfl, ?yb617⟩) rfl ?_
                      case yb617 =>
                        intro w' hS
                        (subst hS)
                        go_simp
                        first | done | (simp; done) | (simp; omega) | omega | (simp [*]; done)
                      refine wpAnyH_take (i := 18) (v := ?vb718) rfl (by kernel_rfl) (by kernel_rfl) (by kernel_rfl) (fun _ _ _ h => h) (.inl ⟨by first | kernel_rfl | rfl, ?yb718⟩) rfl ?_
                      case yb718 =>
                        intro w' hS
                        (subst hS)
                        go_simp
                        try with_reducible rfl
                      refine wpAnyH_take (i := 19) (v := ?vb719) rfl (by kernel_rfl) (by kernel_rfl) (by kernel_rfl) (fun _ _ _ h => h) (.inl ⟨by first | kernel_rfl | rfl, ?yb719⟩) rfl ?_
                      case yb719 =>
                        intro w' hS
                        (subst hS)
                        go_simp
                        try with_reducible rfl
                      try simp only [Act.put, List.getElem_toArray, List.getElem_cons_zero, List.getElem_cons_succ, List.setIfInBounds_toArray, List.set_cons_zero, List.set_cons_succ]
                      refine wpAnyH_done (by kernel_rfl) ?_ _
                      clear hS0
                      go_wp2_with fail
                      go_roundw
                      case rel => exact ⟨i + 1, by omega, by simp, by rw [Hb.out], Ec.out.drew⟩
                      case measure => simp [intOf]; omega
                    · have Hb := Lib.hid (hbs.trans (if_neg (by omega)))
                      clear hbs
                      go_wp2_with fail
                      try rw [hWX]
                      clear hWX yl yd fl fd
                      refine wp_region_held_drew (S := fun w' => w' = _) hfw rfl ?_
                      intro hS0
                      refine wpAnyH_take (i := 0) (v := ?vc10) rfl (by kernel_rfl) (by kernel_rfl) (by kernel_rfl) (fun _ _ _ h => h) (.inl ⟨by first | kernel_rfl | rfl, ?yc10⟩) rfl ?_
                      case yc10 =>
                        intro w' hS
                        (subst hS)
                        go_simp
                        try with_reducible rfl
                      refine wpAnyH_take (i := 1) (v := ?vc11) rfl (by kernel_rfl) (by kernel_rfl) (by kernel_rfl) (fun _ _ _ h => h) (.inl ⟨by first | kernel_rfl | rfl, ?yc11⟩) rfl ?_
                      case yc11 =>
                        intro w' hS
                        (subst hS)
                        go_simp
                        try with_reducible rfl
                      refine wpAnyH_take (i := 2) (v := ?vc12) rfl (by kernel_rfl) (by kernel_rfl) (by kernel_rfl) (fun _ _ _ h => h) (.inl ⟨by first | kernel_rfl | rfl, ?yc12⟩) rfl ?_
                      case yc12 =>
                        intro w' hS
                        (subst hS)
                        go_simp
                        try with_reducible rfl
                      refine wpAnyH_take (i := 3) (v := ?vc13) rfl (by kernel_rfl) (by kernel_rfl) (by kernel_rfl) (fun _ _ _ h => h) (.inl ⟨by first | kernel_rfl | rfl, ?yc13⟩) rfl ?_
                      case yc13 =>
                        intro w' hS
                        (subst hS)
                        go_simp
                        try with_reducible rfl
                      try simp only [Act.put, List.getElem_toArray, List.getElem_cons_zero, List.getElem_cons_succ, List.setIfInBounds_toArray, List.set_cons_zero, List.set_cons_succ]
                      refine wpAnyH_take (i := 4) (v := (.bool true)) rfl (by kernel_rfl) (by kernel_rfl) (by kernel_rfl) (fun _ _ _ h => h) (.inl ⟨by first | kernel_rfl | rfl, ?yc24⟩) rfl ?_
                      case yc24 =>
                        intro w' hS
                        (subst hS)
                        go_simp
                        first | done | (simp; done) | (simp; omega) | omega | (simp [*]; done)
                      refine wpAnyH_take (i := 5) (v := ?vc35) rfl (by kernel_rfl) (by kernel_rfl) (by kernel_rfl) (fun _ _ _ h => h) (.inl ⟨by first | kernel_rfl | rfl, ?yc35⟩) rfl ?_
                      case yc35 =>
                        intro w' hS
                        (subst hS)
                        go_simp
                        try with_reducible rfl
                      refine wpAnyH_take (i := 6) (v := ?vc36) rfl (by kernel_rfl) (by kernel_rfl) (by kernel_rfl) (fun _ _ _ h => h) (.inl ⟨by first | kernel_rfl | rfl, ?yc36⟩) rfl ?_
                      case yc36 =>
                        intro w' hS
                        (subst hS)
                        go_simp
                        try with_reducible rfl
                      try simp only [Act.put, List.getElem_toArray, List.getElem_cons_zero, List.getElem_cons_succ, List.setIfInBounds_toArray, List.set_cons_zero, List.set_cons_succ]
                      refine wpAnyH_take (i := 7) (v := (.bool false)) rfl (by kernel_rfl) (by kernel_rfl) (by kernel_rfl) (fun _ _ _ h => h) (.inl ⟨by first | kernel_rfl | rfl, ?yc47⟩) rfl ?_
                      case yc47 =>
                        intro w' hS
                        (subst hS)
                        go_simp
                        first | done | (simp; done) | (simp; omega) | omega | (simp [*]; done)
                      refine wpAnyH_take (i := 8) (v := ?vc58) rfl (by kernel_rfl) (by kernel_rfl) (by kernel_rfl) (fun _ _ _ h => h) (.inl ⟨by first | kernel_rfl | rfl, ?yc58⟩) rfl ?_
                      case yc58 =>
                        intro w' hS
                        (subst hS)
                        go_simp
                        try with_reducible rfl
                      refine wpAnyH_take (i := 9) (v := ?vc59) rfl (by kernel_rfl) (by kernel_rfl) (by kernel_rfl) (fun _ _ _ h => h) (.inl ⟨by first | kernel_rfl | rfl, ?yc59⟩) rfl ?_
                      case yc59 =>
                        intro w' hS
                        (subst hS)
                        go_simp
                        try with_reducible rfl
                      refine wpAnyH_take (i := 10) (v := ?vc510) rfl (by kernel_rfl) (by kernel_rfl) (by kernel_rfl) (fun _ _ _ h => h) (.inl ⟨by first | kernel_rfl | rfl, ?yc510⟩) rfl ?_
                      case yc510 =>
                        intro w' hS
                        (subst hS)
                        go_simp
                        try with_reducible rfl
                      refine wpAnyH_take (i := 11) (v := ?vc511) rfl (by kernel_rfl) (by kernel_rfl) (by kernel_rfl) (fun _ _ _ h => h) (.inl ⟨by first | kernel_rfl | rfl, ?yc511⟩) rfl ?_
                      case yc511 =>
                        intro w' hS
                        (subst hS)
                        go_simp
                        try with_reducible rfl
                      refine wpAnyH_take (i := 12) (v := ?vc512) rfl (by kernel_rfl) (by kernel_rfl) (by kernel_rfl) (fun _ _ _ h => h) (.inl ⟨by first | kernel_rfl | rfl, ?yc512⟩) rfl ?_
                      case yc512 =>
                        intro w' hS
                        (subst hS)
                        go_simp
                        try with_reducible rfl
                      refine wpAnyH_take (i := 13) (v := ?vc513) rfl (by kernel_rfl) (by kernel_rfl) (by kernel_rfl) (fun _ _ _ h => h) (.inl ⟨by first | kernel_rfl | rfl, ?yc513⟩) rfl ?_
                      case yc513 =>
                        intro w' hS
                        (subst hS)
                        go_simp
                        try with_reducible rfl
                      refine wpAnyH_take (i := 14) (v := ?vc514) rfl (by kernel_rfl) (by kernel_rfl) (by kernel_rfl) (fun _ _ _ h => h) (.inl ⟨by first | kernel_rfl | rfl, ?yc514⟩) rfl ?_
                      case yc514 =>
                        intro w' hS
                        (subst hS)
                        go_simp
                        try with_reducible rfl
                      refine wpAnyH_take (i := 15) (v := ?vc515) rfl (by kernel_rfl) (by kernel_rfl) (by kernel_rfl) (fun _ _ _ h => h) (.inl ⟨by first | kernel_rfl | rfl, ?yc515⟩) rfl ?_
                      case yc515 =>
                        intro w' hS
                        (subst hS)
                        go_simp
                        try with_reducible rfl
                      refine wpAnyH_take (i := 16) (v := ?vc516) rfl (by kernel_rfl) (by kernel_rfl) (by kernel_rfl) (fun _ _ _ h => h) (.inl ⟨by first | kernel_rfl | rfl, ?yc516⟩) rfl ?_
                      case yc516 =>
                        intro w' hS
                        (subst hS)
                        go_simp
                        try with_reducible rfl
                      try simp only [Act.put, List.getElem_toArray, List.getElem_cons_zero, List.getElem_cons_succ, List.setIfInBounds_toArray, List.set_cons_zero, List.set_cons_succ]
                      refine wpAnyH_take (i := 17) (v := (.bool false)) rfl (by kernel_rfl) (by kernel_rfl) (by kernel_rfl) (fun _ _ _ h => h) (.inl ⟨by first | kernel_rfl | rfl, ?yc617⟩) rfl ?_
                      case yc617 =>
                        intro w' hS
                        (subst hS)
                        go_simp
                        first | done | (simp; done) | (simp; omega) | omega | (simp [*]; done)
                      refine wpAnyH_take (i := 18) (v := ?vc718) rfl (by kernel_rfl) (by kernel_rfl) (by kernel_rfl) (fun _ _ _ h => h) (.inl ⟨by first | kernel_rfl | rfl, ?yc718⟩) rfl ?_
                      case yc718 =>
                        intro w' hS
                        (subst hS)
                        go_simp
                        try with_reducible rfl
                      refine wpAnyH_take (i := 19) (v := ?vc719) rfl (by kernel_rfl) (by kernel_rfl) (by kernel_rfl) (fun _ _ _ h => h) (.inl ⟨by first | kernel_rfl | rfl, ?yc719⟩) rfl ?_
                      case yc719 =>
                        intro w' hS
                        (subst hS)
                        go_simp
                        try with_reducible rfl
                      try simp only [Act.put, List.getElem_toArray, List.getElem_cons_zero, List.getElem_cons_succ, List.setIfInBounds_toArray, List.set_cons_zero, List.set_cons_succ]
                      refine wpAnyH_done (by kernel_rfl) ?_ _
                      clear hS0
                      go_wp2_with fail
                      go_roundw
                      case rel => exact ⟨i + 1, by omega, by simp, by rw [Hb.out], Ec.out.drew⟩
                      case measure => simp [intOf]; omega
                · have Hb := Lib.hid (hbs.trans (if_neg (fun h => hx0 h.1)))
                  clear hbs
                  go_wp2_with fail
                  try rw [hWX]
                  clear hWX yl yd fl fd
                  refine wp_region_held_drew (S := fun w' => w' = _) hfw rfl ?_
                  intro hS0
                  refine wpAnyH_take (i := 0) (v := ?vd10) rfl (by kernel_rfl) (by kernel_rfl) (by kernel_rfl) (fun _ _ _ h => h) (.inl ⟨by first | kernel_rfl | rfl, ?yd10⟩) rfl ?_
                  case yd10 =>
                    intro w' hS
                    (subst hS)
                    go_simp
                    try with_reducible rfl
                  refine wpAnyH_take (i := 1) (v := ?vd11) rfl (by kernel_rfl) (by kernel_rfl) (by kernel_rfl) (fun _ _ _ h => h) (.inl ⟨by first | kernel_rfl | rfl, ?yd11⟩) rfl ?_
                  case yd11 =>
                    intro w' hS
                    (subst hS)
                    go_simp
                    try with_reducible rfl
                  refine wpAnyH_take (i := 2) (v := ?vd12) rfl (by kernel_rfl) (by kernel_rfl) (by kernel_rfl) (fun _ _ _ h => h) (.inl ⟨by first | kernel_rfl | rfl, ?yd12⟩) rfl ?_
                  case yd12 =>
                    intro w' hS
                    (subst hS)
                    go_simp
                    try with_reducible rfl
                  refine wpAnyH_take (i := 3) (v := ?vd13) rfl (by kernel_rfl) (by kernel_rfl) (by kernel_rfl) (fun _ _ _ h => h) (.inl ⟨by first | kernel_rfl | rfl, ?yd13⟩) rfl ?_
                  case yd13 =>
                    intro w' hS
                    (subst hS)
                    go_simp
                    try with_reducible rfl
                  try simp only [Act.put, List.getElem_toArray, List.getElem_cons_zero, List.getElem_cons_succ, List.setIfInBounds_toArray, List.set_cons_zero, List.set_cons_succ]
                  refine wpAnyH_take (i := 4) (v := (.bool false)) rfl (by kernel_rfl) (by kernel_rfl) (by kernel_rfl) (fun _ _ _ h => h) (.inl ⟨by first | kernel_rfl | rfl, ?yd24⟩) rfl ?_
                  case yd24 =>
                    intro w' hS
                    (subst hS)
                    go_simp
                    first | done | (simp; done) | (simp; omega) | omega | (simp [*]; done)
                  refine wpAnyH_take (i := 5) (v := ?vd35) rfl (by kernel_rfl) (by kernel_rfl) (by kernel_rfl) (fun _ _ _ h => h) (.inl ⟨by first | kernel_rfl | rfl, ?yd35⟩) rfl ?_
                  case yd35 =>
                    intro w' hS
                    (subst hS)
                    go_simp
                    try with_reducible rfl
                  try simp only [Act.put, List.getElem_toArray, List.getElem_cons_zero, List.getElem_cons_succ, List.setIfInBounds_toArray, List.set_cons_zero, List.set_cons_succ]
                  refine wpAnyH_take (i := 6) (v := undef) rfl (by kernel_rfl) (by kernel_rfl) (by kernel_rfl) (fun _ _ _ h => h) (.inr ⟨by kernel_rfl, rfl⟩) rfl ?_
                  refine wpAnyH_take (i := 7) (v := undef) rfl (by kernel_rfl) (by kernel_rfl) (by kernel_rfl) (fun _ _ _ h => h) (.inr ⟨by kernel_rfl, rfl⟩) rfl ?_
                  refine wpAnyH_take (i := 8) (v := undef) rfl (by kernel_rfl) (by kernel_rfl) (by kernel_rfl) (fun _ _ _ h => h) (.inr ⟨by kernel_rfl, rfl⟩) rfl ?_
                  refine wpAnyH_take (i := 9) (v := undef) rfl (by kernel_rfl) (by kernel_rfl) (by kernel_rfl) (fun _ _ _ h => h) (.inr ⟨by kernel_rfl, rfl⟩) rfl ?_
                  refine wpAnyH_take (i := 10) (v := undef) rfl (by kernel_rfl) (by kernel_rfl) (by kernel_rfl) (fun _ _ _ h => h) (.inr ⟨by kernel_rfl, rfl⟩) rfl ?_
                  refine wpAnyH_take (i := 11) (v := undef) rfl (by kernel_rfl) (by kernel_rfl) (by kernel_rfl) (fun _ _ _ h => h) (.inr ⟨by kernel_rfl, rfl⟩) rfl ?_
                  refine wpAnyH_take (i := 12) (v := undef) rfl (by kernel_rfl) (by kernel_rfl) (by kernel_rfl) (fun _ _ _ h => h) (.inr ⟨by kernel_rfl, rfl⟩) rfl ?_
                  refine wpAnyH_take (i := 13) (v := undef) rfl (by kernel_rfl) (by kernel_rfl) (by kernel_rfl) (fun _ _ _ h => h) (.inr ⟨by kernel_rfl, rfl⟩) rfl ?_
                  refine wpAnyH_take (i := 14) (v := undef) rfl (by kernel_rfl) (by kernel_rfl) (by kernel_rfl) (fun _ _ _ h => h) (.inr ⟨by kernel_rfl, rfl⟩) rfl ?_
                  refine wpAnyH_take (i := 15) (v := undef) rfl (by kernel_rfl) (by kernel_rfl) (by kernel_rfl) (fun _ _ _ h => h) (.inr ⟨by kernel_rfl, rfl⟩) rfl ?_
                  refine wpAnyH_take (i := 16) (v := undef) rfl (by kernel_rfl) (by kernel_rfl) (by kernel_rfl) (fun _ _ _ h => h) (.inr ⟨by kernel_rfl, rfl⟩) rfl ?_
                  refine wpAnyH_take (i := 17) (v := undef) rfl (by kernel_rfl) (by kernel_rfl) (by kernel_rfl) (fun _ _ _ h => h) (.inr ⟨by kernel_rfl, rfl⟩) rfl ?_
                  refine wpAnyH_take (i := 18) (v := undef) rfl (by kernel_rfl) (by kernel_rfl) (by kernel_rfl) (fun _ _ _ h => h) (.inr ⟨by kernel_rfl, rfl⟩) rfl ?_
                  try simp only [Act.put, List.getElem_toArray, List.getElem_cons_zero, List.getElem_cons_succ, List.setIfInBounds_toArray, List.set_cons_zero, List.set_cons_succ]
                  refine wpAnyH_take (i := 19) (v := ?vd419) rfl (by kernel_rfl) (by kernel_rfl) (by kernel_rfl) (fun _ _ _ h => h) (.inl ⟨by first | kernel_rfl | rfl, ?yd419⟩) rfl ?_
                  case yd419 =>
                    intro w' hS
                    (subst hS)
                    go_simp
                    try with_reducible rfl
                  try simp only [Act.put, List.getElem_toArray, List.getElem_cons_zero, List.getElem_cons_succ, List.setIfInBounds_toArray, List.set_cons_zero, List.set_cons_succ]
                  refine wpAnyH_done (by kernel_rfl) ?_ _
                  clear hS0
                  go_wp2_with fail
                  go_roundw
                  case rel => exact ⟨i + 1, by omega, by simp, by rw [Hb.out], Ec.out.drew⟩
                  case measure => simp [intOf]; omega
              · have hw1 : Int.tmod (s : Int) pv ≠ 0 := by rw [Int.tmod_eq_emod_of_nonneg (by omega)]; exact hz
                have hEc : SlE w.heap.size gl gd (.slice (some ⟨bl, ol, none⟩) ls.length capl) (.slice (some ⟨bp, op, none⟩) ps.length capp) (.slice (some ⟨bd, od, none⟩) ds.length capd) ls.length w u (edTo ls ps ds s) (lst (cLT ls ps ds s (i + 1)) ls.length) (lst (cDT ls ps ds s (i + 1)) ls.length) wr := by rw [cLT_no (by rw [epv]; exact hz), cDT_no (by rw [epv]; exact hz)]; exact HE.out
                clear elv epv edv HE
                have hx := hEc.l.cellAt (j := i) (by rw [lst_length]; omega)
                have hy := hEc.d.cellAt (j := i) (by rw [lst_length]; omega)
                rw [nth_cLT (by omega) hlt] at hx
                rw [nth_cDT (by omega) hlt] at hy
                obtain ⟨x, ex⟩ : ∃ x, CL ls ps ds s i = x := ⟨_, rfl⟩
                obtain ⟨y, ey⟩ : ∃ y, CD ls ps ds s i = y := ⟨_, rfl⟩
                have hbs := best_succ (ls := ls) (ps := ps) (ds := ds) s i
                rw [ex] at hx hbs
                rw [ey] at hy hbs
                have Ec := Lib.hid hEc
                clear hEc ex ey yl yd fl fd
                by_cases hx0 : 0 < x
                · rcases best_bd (ls := ls) (ps := ps) (ds := ds) s i with hb | ⟨q, hb, hqi, _⟩
                  · have Hb := Lib.hid (hbs.trans (if_pos ⟨hx0, .inl (by omega)⟩))
                    rw [hb]
                    clear hb hbs
                    go_wp2_with fail
                    refine wp_region_held_drew (S := fun w' => w' = _) hfw rfl ?_
                    intro hS0
                    refine wpAnyH_take (i := 0) (v := ?vna10) rfl (by kernel_rfl) (by kernel_rfl) (by kernel_rfl) (fun _ _ _ h => h) (.inl ⟨by first | kernel_rfl | rfl, ?yna10⟩) rfl ?_
                    case yna10 =>
                      intro w' hS
                      (subst hS)
                      go_simp
                      try with_reducible rfl
                    refine wpAnyH_take (i := 1) (v := ?vna11) rfl (by kernel_rfl) (by kernel_rfl) (by kernel_rfl) (fun _ _ _ h => h) (.inl ⟨by first | kernel_rfl | rfl, ?yna11⟩) rfl ?_
                    case yna11 =>
                      intro w' hS
                      (subst hS)
                      go_simp
                      try with_reducible rfl
                    refine wpAnyH_take (i := 2) (v := ?vna12) rfl (by kernel_rfl) (by kernel_rfl) (by kernel_rfl) (fun _ _ _ h => h) (.inl ⟨by first | kernel_rfl | rfl, ?yna12⟩) rfl ?_
                    case yna12 =>
                      intro w' hS
                      (subst hS)
                      go_simp
                      try with_reducible rfl
                    refine wpAnyH_take (i := 3) (v := ?vna13) rfl (by kernel_rfl) (by kernel_rfl) (by kernel_rfl) (fun _ _ _ h => h) (.inl ⟨by first | kernel_rfl | rfl, ?yna13⟩) rfl ?_
                    case yna13 =>
                      intro w' hS
                      (subst hS)
                      go_simp
                      try with_reducible rfl
                    try simp only [Act.put, List.getElem_toArray, List.getElem_cons_zero, List.getElem_cons_succ, List.setIfInBounds_toArray, List.set_cons_zero, List.set_cons_succ]
                    refine wpAnyH_take (i := 4) (v := (.bool true)) rfl (by kernel_rfl) (by kernel_rfl) (by kernel_rfl) (fun _ _ _ h => h) (.inl ⟨by first | kernel_rfl | rfl, ?yna24⟩) rfl ?_
                    case yna24 =>
                      intro w' hS
                      (subst hS)
                      go_simp
                      first | done | (simp; done) | (simp; omega) | omega | (simp [*]; done)
                    refine wpAnyH_take (i := 5) (v := ?vna35) rfl (by kernel_rfl) (by kernel_rfl) (by kernel_rfl) (fun _ _ _ h => h) (.inl ⟨by first | kernel_rfl | rfl, ?yna35⟩) rfl ?_
                    case yna35 =>
                      intro w' hS
                      (subst hS)
                      go_simp
                      try with_reducible rfl
                    refine wpAnyH_take (i := 6) (v := ?vna36) rfl (by kernel_rfl) (by kernel_rfl) (by kernel_rfl) (fun _ _ _ h => h) (.inl ⟨by first | kernel_rfl | rfl, ?yna36⟩) rfl ?_
                    case yna36 =>
                      intro w' hS
                      (subst hS)
                      go_simp
                      try with_reducible rfl
                    try simp only [Act.put, List.getElem_toArray, List.getElem_cons_zero, List.getElem_cons_succ, List.setIfInBounds_toArray, List.set_cons_zero, List.set_cons_succ]
                    refine wpAnyH_take (i := 7) (v := (.bool true)) rfl (by kernel_rfl) (by kernel_rfl) (by kernel_rfl) (fun _ _ _ h => h) (.inl ⟨by first | kernel_rfl | rfl, ?yna47⟩) rfl ?_
                    case yna47 =>
                      intro w' hS
                      (subst hS)
                      go_simp
                      first | done | (simp; done) | (simp; omega) | omega | (simp [*]; done)
                    refine wpAnyH_take (i := 8) (v := ?vna58) rfl (by kernel_rfl) (by kernel_rfl) (by kernel_rfl) (fun _ _ _ h => h) (.inl ⟨by first | kernel_rfl | rfl, ?yna58⟩) rfl ?_
                    case yna58 =>
                      intro w' hS
                      (subst hS)
                      go_simp
                      try with_reducible rfl
                    try simp only [Act.put, List.getElem_toArray, List.getElem_cons_zero, List.getElem_cons_succ, List.setIfInBounds_toArray, List.set_cons_zero, List.set_cons_succ]
                    refine wpAnyH_take (i := 9) (v := undef) rfl (by kernel_rfl) (by kernel_rfl) (by kernel_rfl) (fun _ _ _ h => h) (.inr ⟨by kernel_rfl, rfl⟩) rfl ?_
                    refine wpAnyH_take (i := 10) (v := undef) rfl (by kernel_rfl) (by kernel_rfl) (by kernel_rfl) (fun _ _ _ h => h) (.inr ⟨by kernel_rfl, rfl⟩) rfl ?_
                    refine wpAnyH_take (i := 11) (v := undef) rfl (by kernel_rfl) (by kernel_rfl) (by kernel_rfl) (fun _ _ _ h => h) (.inr ⟨by kernel_rfl, rfl⟩) rfl ?_
                    refine wpAnyH_take (i := 12) (v := undef) rfl (by kernel_rfl) (by kernel_rfl) (by kernel_rfl) (fun _ _ _ h => h) (.inr ⟨by kernel_rfl, rfl⟩) rfl ?_
                    refine wpAnyH_take (i := 13) (v := undef) rfl (by kernel_rfl) (by kernel_rfl) (by kernel_rfl) (fun _ _ _ h => h) (.inr ⟨by kernel_rfl, rfl⟩) rfl ?_
                    refine wpAnyH_take (i := 14) (v := undef) rfl (by kernel_rfl) (by kernel_rfl) (by kernel_rfl) (fun _ _ _ h => h) (.inr ⟨by kernel_rfl, rfl⟩) rfl ?_
                    refine wpAnyH_take (i := 15) (v := undef) rfl (by kernel_rfl) (by kernel_rfl) (by kernel_rfl) (fun _ _ _ h => h) (.inr ⟨by kernel_rfl, rfl⟩) rfl ?_
                    refine wpAnyH_take (i := 16) (v := undef) rfl (by kernel_rfl) (by kernel_rfl) (by kernel_rfl) (fun _ _ _ h => h) (.inr ⟨by kernel_rfl, rfl⟩) rfl ?_
                    refine wpAnyH_take (i := 17) (v := undef) rfl (by kernel_rfl) (by kernel_rfl) (by kernel_rfl) (fun _ _ _ h => h) (.inr ⟨by kernel_rfl, rfl⟩) rfl ?_
                    try simp only [Act.put, List.getElem_toArray, List.getElem_cons_zero, List.getElem_cons_succ, List.setIfInBounds_toArray, List.set_cons_zero, List.set_cons_succ]
                    refine wpAnyH_take (i := 18) (v := ?vna618) rfl (by kernel_rfl) (by kernel_rfl) (by kernel_rfl) (fun _ _ _ h => h) (.inl ⟨by first | kernel_rfl | rfl, ?yna618⟩) rfl ?_
                    case yna618 =>
                      intro w' hS
                      (subst hS)
                      go_simp
                      try with_reducible rfl
                    refine wpAnyH_take (i := 19) (v := ?vna619) rfl (by kernel_rfl) (by kernel_rfl) (by kernel_rfl) (fun _ _ _ h => h) (.inl ⟨by first | kernel_rfl | rfl, ?yna619⟩) rfl ?_
                    case yna619 =>
                      intro w' hS
                      (subst hS)
                      go_simp
                      try with_reducible rfl
                    try simp only [Act.put, List.getElem_toArray, List.getElem_cons_zero, List.getElem_cons_succ, List.setIfInBounds_toArray, List.set_cons_zero, List.set_cons_succ]
                    refine wpAnyH_done (by kernel_rfl) ?_ _
                    clear hS0
                    go_wp2_with fail
                    go_roundw
                    case rel => exact ⟨i + 1, by omega, by simp, by rw [Hb.out], Ec.out.drew⟩
                    case measure => simp [intOf]; omega
                  · have hz := Ec.out.d.cellAt (j := q) (by rw [lst_length]; omega)
                    rw [nth_cDT (by omega) (by omega)] at hz
                    rw [hb, Int.toNat_natCast] at hbs
                    obtain ⟨z, ez⟩ : ∃ z, CD ls ps ds s q = z := ⟨_, rfl⟩
                    rw [ez] at hz hbs
                    rw [hb]
                    have hqi2 : (q : Int) < (ls.length : Int) := by omega
                    clear hb ez
                    by_cases hyz : y < z
                    · have Hb := Lib.hid (hbs.trans (if_pos ⟨hx0, .inr hyz⟩))
                      clear hbs
                      go_wp2_with fail
                      refine wp_region_held_drew (S := fun w' => w' = _) hfw rfl ?_
                      intro hS0
                      refine wpAnyH_take (i := 0) (v := ?vnb10) rfl (by kernel_rfl) (by kernel_rfl) (by kernel_rfl) (fun _ _ _ h => h) (.inl ⟨by first | kernel_rfl | rfl, ?ynb10⟩) rfl ?_
                      case ynb10 =>
                        intro w' hS
                        (subst hS)
                        go_simp
                        try with_reducible rfl
                      refine wpAnyH_take (i := 1) (v := ?vnb11) rfl (by kernel_rfl) (by kernel_rfl) (by kernel_rfl) (fun _ _ _ h => h) (.inl ⟨by first | kernel_rfl | rfl, ?ynb11⟩) rfl ?_
                      case ynb11 =>
                        intro w' hS
                        (subst hS)
                        go_simp
                        try with_reducible rfl
                      refine wpAnyH_take (i := 2) (v := ?vnb12) rfl (by kernel_rfl) (by kernel_rfl) (by kernel_rfl) (fun _ _ _ h => h) (.inl ⟨by first | kernel_rfl | rfl, ?ynb12⟩) rfl ?_
                      case ynb12 =>
                        intro w' hS
                        (subst hS)
                        go_simp
                        try with_reducible rfl
                      refine wpAnyH_take (i := 3) (v := ?vnb13) rfl (by kernel_rfl) (by kernel_rfl) (by kernel_rfl) (fun _ _ _ h => h) (.inl ⟨by first | kernel_rfl | rfl, ?ynb13⟩) rfl ?_
                      case ynb13 =>
                        intro w' hS
                        (subst hS)
                        go_simp
                        try with_reducible rfl
                      try simp only [Act.put, List.getElem_toArray, List.getElem_cons_zero, List.getElem_cons_succ, List.setIfInBounds_toArray, List.set_cons_zero, List.set_cons_succ]
                      refine wpAnyH_take (i := 4) (v := (.bool true)) rfl (by kernel_rfl) (by kernel_rfl) (by kernel_rfl) (fun _ _ _ h => h) (.inl ⟨by first | kernel_rfl | rfl, ?ynb24⟩) rfl ?_
                      case ynb24 =>
                        intro w' hS
                        (subst hS)
                        go_simp
                        first | done | (simp; done) | (simp; omega) | omega | (simp [*]; done)
                      refine wpAnyH_take (i := 5) (v := ?vnb35) rfl (by kernel_rfl) (by kernel_rfl) (by kernel_rfl) (fun _ _ _ h => h) (.inl ⟨by first | kernel_rfl | rfl, ?ynb35⟩) rfl ?_
                      case ynb35 =>
                        intro w' hS
                        (subst hS)
                        go_simp
                        try with_reducible rfl
                      refine wpAnyH_take (i := 6) (v := ?vnb36) rfl (by kernel_rfl) (by kernel_rfl) (by kernel_rfl) (fun _ _ _ h => h) (.inl ⟨by first | kernel_rfl | rfl, ?ynb36⟩) rfl ?_
                      case ynb36 =>
                        intro w' hS
                        (subst hS)
                        go_simp
                        try with_reducible rfl
                      try simp only [Act.put, List.getElem_toArray, List.getElem_cons_zero, List.getElem_cons_succ, List.setIfInBounds_toArray, List.set_cons_zero, List.set_cons_succ]
                      refine wpAnyH_take (i := 7) (v := (.bool false)) rfl (by kernel_rfl) (by kernel_rfl) (by kernel_rfl) (fun _ _ _ h => h) (.inl ⟨by first | kernel_rfl | rfl, ?ynb47⟩) rfl ?_
                      case ynb47 =>
                        intro w' hS
                        (subst hS)
                        go_simp
                        first | done | (simp; done) | (simp; omega) | omega | (simp [*]; done)
                      refine wpAnyH_take (i := 8) (v := ?vnb58) rfl (by kernel_rfl) (by kernel_rfl) (by kernel_rfl) (fun _ _ _ h => h) (.inl ⟨by first | kernel_rfl | rfl, ?ynb58⟩) rfl ?_
                      case ynb58 =>
                        intro w' hS
                        (subst hS)
                        go_simp
                        try with_reducible rfl
                      refine wpAnyH_take (i := 9) (v := ?vnb59) rfl (by kernel_rfl) (by kernel_rfl) (by kernel_rfl) (fun _ _ _ h => h) (.inl ⟨by first | kernel_rfl | rfl, ?ynb59⟩) rfl ?_
                      case ynb59 =>
                        intro w' hS
                        (subst hS)
                        go_simp
                        try with_reducible rfl
                      refine wpAnyH_take (i := 10) (v := ?vnb510) rfl (by kernel_rfl) (by kernel_rfl) (by kernel_rfl) (fun _ _ _ h => h) (.inl ⟨by first | kernel_rfl | rfl, ?ynb510⟩) rfl ?_
                      case ynb510 =>
                        intro w' hS
                        (subst hS)
                        go_simp
                        try with_reducible rfl
                      refine wpAnyH_take (i := 11) (v := ?vnb511) rfl (by kernel_rfl) (by kernel_rfl) (by kernel_rfl) (fun _ _ _ h => h) (.inl ⟨by first | kernel_rfl | rfl, ?ynb511⟩) rfl ?_
                      case ynb511 =>
                        intro w' hS
                        (subst hS)
                        go_simp
                        try with_reducible rfl
                      refine wpAnyH_take (i := 12) (v := ?vnb512) rfl (by kernel_rfl) (by kernel_rfl) (by kernel_rfl) (fun _ _ _ h => h) (.inl ⟨by first | kernel_rfl | rfl, ?ynb512⟩) rfl ?_
                      case ynb512 =>
                        intro w' hS
                        (subst hS)
                        go_simp
                        try with_reducible rfl
                      refine wpAnyH_take (i := 13) (v := ?vnb513) rfl (by kernel_rfl) (by kernel_rfl) (by kernel_rfl) (fun _ _ _ h => h) (.inl ⟨by first | kernel_rfl | rfl, ?ynb513⟩) rfl ?_
                      case ynb513 =>
                        intro w' hS
                        (subst hS)
                        go_simp
                        try with_reducible rfl
                      refine wpAnyH_take (i := 14) (v := ?vnb514) rfl (by kernel_rfl) (by kernel_rfl) (by kernel_rfl) (fun _ _ _ h => h) (.inl ⟨by first | kernel_rfl | rfl, ?ynb514⟩) rfl ?_
                      case ynb514 =>
                        intro w' hS
                        (subst hS)
                        go_simp
                        try with_reducible rfl
                      refine wpAnyH_take (i := 15) (v := ?vnb515) rfl (by kernel_rfl) (by kernel_rfl) (by kernel_rfl) (fun _ _ _ h => h) (.inl ⟨by first | kernel_rfl | rfl, ?ynb515⟩) rfl ?_
                      case ynb515 =>
                        intro w' hS
                        (subst hS)
                        go_simp
                        try with_reducible rfl
                      refine wpAnyH_take (i := 16) (v := ?vnb516) rfl (by kernel_rfl) (by kernel_rfl) (by kernel_rfl) (fun _ _ _ h => h) (.inl ⟨by first | kernel_rfl | rfl, ?ynb516⟩) rfl ?_
                      case ynb516 =>
                        intro w' hS
                        (subst hS)
                        go_simp
                        try with_reducible rfl
                      try simp only [Act.put, List.getElem_toArray, List.getElem_cons_zero, List.getElem_cons_succ, List.setIfInBounds_toArray, List.set_cons_zero, List.set_cons_succ]
                      refine wpAnyH_take (i := 17) (v := (.bool true)) rfl (by kernel_rfl) (by kernel_rfl) (by kernel_rfl) (fun _ _ _ h => h) (.inl ⟨by first | kernel_rfl | rfl, ?ynb617⟩) rfl ?_
                      case ynb617 =>
                        intro w' hS
                        (subst hS)
                        go_simp
                        first | done | (simp; done) | (simp; omega) | omega | (simp [*]; done)
                      refine wpAnyH_take (i := 18) (v := ?vnb718) rfl (by kernel_rfl) (by kernel_rfl) (by kernel_rfl) (fun _ _ _ h => h) (.inl ⟨by first | kernel_rfl | rfl, ?ynb718⟩) rfl ?_
                      case ynb718 =>
                        intro w' hS
                        (subst hS)
                        go_simp
                        try with_reducible rfl
                      refine wpAnyH_take (i := 19) (v := ?vnb719) rfl (by kernel_rfl) (by kernel_rfl) (by kernel_rfl) (fun _ _ _ h => h) (.inl ⟨by first | kernel_rfl | rfl, ?ynb719⟩) rfl ?_
                      case ynb719 =>
                        intro w' hS
                        (subst hS)
                        go_simp
                        try with_reducible rfl
                      try simp only [Act.put, List.getElem_toArray, List.getElem_cons_zero, List.getElem_cons_succ, List.setIfInBounds_toArray, List.set_cons_zero, List.set_cons_succ]
                      refine wpAnyH_done (by kernel_rfl) ?_ _
                      clear hS0
                      go_wp2_with fail
                      go_roundw
                      case rel => exact ⟨i + 1, by omega, by simp, by rw [Hb.out], Ec.out.drew⟩
                      case measure => simp [intOf]; omega
                    · have Hb := Lib.hid (hbs.trans (if_neg (by omega)))
                      clear hbs
                      go_wp2_with fail
                      refine wp_region_held_drew (S := fun w' => w' = _) hfw rfl ?_
                      intro hS0
                      refine wpAnyH_take (i := 0) (v := ?vnc10) rfl (by kernel_rfl) (by kernel_rfl) (by kernel_rfl) (fun _ _ _ h => h) (.inl ⟨by first | kernel_rfl | rfl, ?ync10⟩) rfl ?_
                      case ync10 =>
                        intro w' hS
                        (subst hS)
                        go_simp
                        try with_reducible rfl
                      refine wpAnyH_take (i := 1) (v := ?vnc11) rfl (by kernel_rfl) (by kernel_rfl) (by kernel_rfl) (fun _ _ _ h => h) (.inl ⟨by first | kernel_rfl | rfl, ?ync11⟩) rfl ?_
                      case ync11 =>
                        intro w' hS
                        (subst hS)
                        go_simp
                        try with_reducible rfl
                      refine wpAnyH_take (i := 2) (v := ?vnc12) rfl (by kernel_rfl) (by kernel_rfl) (by kernel_rfl) (fun _ _ _ h => h) (.inl ⟨by first | kernel_rfl | rfl, ?ync12⟩) rfl ?_
                      case ync12 =>
                        intro w' hS
                        (subst hS)
                        go_simp
                        try with_reducible rfl
                      refine wpAnyH_take (i := 3) (v := ?vnc13) rfl (by kernel_rfl) (by kernel_rfl) (by kernel_rfl) (fun _ _ _ h => h) (.inl ⟨by first | kernel_rfl | rfl, ?ync13⟩) rfl ?_
                      case ync13 =>
                        intro w' hS
                        (subst hS)
                        go_simp
                        try with_reducible rfl
                      try simp only [Act.put, List.getElem_toArray, List.getElem_cons_zero, List.getElem_cons_succ, List.setIfInBounds_toArray, List.set_cons_zero, List.set_cons_succ]
                      refine wpAnyH_take (i := 4) (v := (.bool true)) rfl (by kernel_rfl) (by kernel_rfl) (by kernel_rfl) (fun _ _ _ h => h) (.inl ⟨by first | kernel_rfl | rfl, ?ync24⟩) rfl ?_
                      case ync24 =>
                        intro w' hS
                        (subst hS)
                        go_simp
                        first | done | (simp; done) | (simp; omega) | omega | (simp [*]; done)
                      refine wpAnyH_take (i := 5) (v := ?vnc35) rfl (by kernel_rfl) (by kernel_rfl) (by kernel_rfl) (fun _ _ _ h => h) (.inl ⟨by first | kernel_rfl | rfl, ?ync35⟩) rfl ?_
                      case ync35 =>
                        intro w' hS
                        (subst hS)
                        go_simp
                        try with_reducible rfl
                      refine wpAnyH_take (i := 6) (v := ?vnc36) rfl (by kernel_rfl) (by kernel_rfl) (by kernel_rfl) (fun _ _ _ h => h) (.inl ⟨by first | kernel_rfl | rfl, ?ync36⟩) rfl ?_
                      case ync36 =>
                        intro w' hS
                        (subst hS)
                        go_simp
                        try with_reducible rfl
                      try simp only [Act.put, List.getElem_toArray, List.getElem_cons_zero, List.getElem_cons_succ, List.setIfInBounds_toArray, List.set_cons_zero, List.set_cons_succ]
                      refine wpAnyH_take (i := 7) (v := (.bool false)) rfl (by kernel_rfl) (by kernel_rfl) (by kernel_rfl) (fun _ _ _ h => h) (.inl ⟨by first | kernel_rfl | rfl, ?ync47⟩) rfl ?_
                      case ync47 =>
                        intro w' hS
                        (subst hS)
                        go_simp
                        first | done | (simp; done) | (simp; omega) | omega | (simp [*]; done)
                      refine wpAnyH_take (i := 8) (v := ?vnc58) rfl (by kernel_rfl) (by kernel_rfl) (by kernel_rfl) (fun _ _ _ h => h) (.inl ⟨by first | kernel_rfl | rfl, ?ync58⟩) rfl ?_
                      case ync58 =>
                        intro w' hS
                        (subst hS)
                        go_simp
                        try with_reducible rfl
                      refine wpAnyH_take (i := 9) (v := ?vnc59) rfl (by kernel_rfl) (by kernel_rfl) (by kernel_rfl) (fun _ _ _ h => h) (.inl ⟨by first | kernel_rfl | rfl, ?ync59⟩) rfl ?_
                      case ync59 =>
                        intro w' hS
                        (subst hS)
                        go_simp
                        try with_reducible rfl
                      refine wpAnyH_take (i := 10) (v := ?vnc510) rfl (by kernel_rfl) (by kernel_rfl) (by kernel_rfl) (fun _ _ _ h => h) (.inl ⟨by first | kernel_rfl | rfl, ?ync510⟩) rfl ?_
                      case ync510 =>
                        intro w' hS
                        (subst hS)
                        go_simp
                        try with_reducible rfl
                      refine wpAnyH_take (i := 11) (v := ?vnc511) rfl (by kernel_rfl) (by kernel_rfl) (by kernel_rfl) (fun _ _ _ h => h) (.inl ⟨by first | kernel_rfl | rfl, ?ync511⟩) rfl ?_
                      case ync511 =>
                        intro w' hS
                        (subst hS)
                        go_simp
                        try with_reducible rfl
                      refine wpAnyH_take (i := 12) (v := ?vnc512) rfl (by kernel_rfl) (by kernel_rfl) (by kernel_rfl) (fun _ _ _ h => h) (.inl ⟨by first | kernel_rfl | rfl, ?ync512⟩) rfl ?_
                      case ync512 =>
                        intro w' hS
                        (subst hS)
                        go_simp
                        try with_reducible rfl
                      refine wpAnyH_take (i := 13) (v := ?vnc513) rfl (by kernel_rfl) (by kernel_rfl) (by kernel_rfl) (fun _ _ _ h => h) (.inl ⟨by first | kernel_rfl | rfl, ?ync513⟩) rfl ?_
                      case ync513 =>
                        intro w' hS
                        (subst hS)
                        go_simp
                        try with_reducible rfl
                      refine wpAnyH_take (i := 14) (v := ?vnc514) rfl (by kernel_rfl) (by kernel_rfl) (by kernel_rfl) (fun _ _ _ h => h) (.inl ⟨by first | kernel_rfl | rfl, ?ync514⟩) rfl ?_
                      case ync514 =>
                        intro w' hS
                        (subst hS)
                        go_simp
                        try with_reducible rfl
                      refine wpAnyH_take (i := 15) (v := ?vnc515) rfl (by kernel_rfl) (by kernel_rfl) (by kernel_rfl) (fun _ _ _ h => h) (.inl ⟨by first | kernel_rfl | rfl, ?ync515⟩) rfl ?_
                      case ync515 =>
                        intro w' hS
                        (subst hS)
                        go_simp
                        try with_reducible rfl
                      refine wpAnyH_take (i := 16) (v := ?vnc516) rfl (by kernel_rfl) (by kernel_rfl) (by kernel_rfl) (fun _ _ _ h => h) (.inl ⟨by first | kernel_rfl | rfl, ?ync516⟩) rfl ?_
                      case ync516 =>
                        intro w' hS
                        (subst hS)
                        go_simp
                        try with_reducible rfl
                      try simp only [Act.put, List.getElem_toArray, List.getElem_cons_zero, List.getElem_cons_succ, List.setIfInBounds_toArray, List.set_cons_zero, List.set_cons_succ]
                      refine wpAnyH_take (i := 17) (v := (.bool false)) rfl (by kernel_rfl) (by kernel_rfl) (by kernel_rfl) (fun _ _ _ h => h) (.inl ⟨by first | kernel_rfl | rfl, ?ync617⟩) rfl ?_
                      case ync617 =>
                        intro w' hS
                        (subst hS)
                        go_simp
                        first | done | (simp; done) | (simp; omega) | omega | (simp [*]; done)
                      refine wpAnyH_take (i := 18) (v := ?vnc718) rfl (by kernel_rfl) (by kernel_rfl) (by kernel_rfl) (fun _ _ _ h => h) (.inl ⟨by first | kernel_rfl | rfl, ?ync718⟩) rfl ?_
                      case ync718 =>
                        intro w' hS
                        (subst hS)
                        go_simp
                        try with_reducible rfl
                      refine wpAnyH_take (i := 19) (v := ?vnc719) rfl (by kernel_rfl) (by kernel_rfl) (by kernel_rfl) (fun _ _ _ h => h) (.inl ⟨by first | kernel_rfl | rfl, ?ync719⟩) rfl ?_
                      case ync719 =>
                        intro w' hS
                        (subst hS)
                        go_simp
                        try with_reducible rfl
                      try simp only [Act.put, List.getElem_toArray, List.getElem_cons_zero, List.getElem_cons_succ, List.setIfInBounds_toArray, List.set_cons_zero, List.set_cons_succ]
                      refine wpAnyH_done (by kernel_rfl) ?_ _
                      clear hS0
                      go_wp2_with fail
                      go_roundw
                      case rel => exact ⟨i + 1, by omega, by simp, by rw [Hb.out], Ec.out.drew⟩
                      case measure => simp [intOf]; omega
                · have Hb := Lib.hid (hbs.trans (if_neg (fun h => hx0 h.1)))
                  clear hbs
                  go_wp2_with fail
                  refine wp_region_held_drew (S := fun w' => w' = _) hfw rfl ?_
                  intro hS0
                  refine wpAnyH_take (i := 0) (v := ?vnd10) rfl (by kernel_rfl) (by kernel_rfl) (by kernel_rfl) (fun _ _ _ h => h) (.inl ⟨by first | kernel_rfl | rfl, ?ynd10⟩) rfl ?_
                  case ynd10 =>
                    intro w' hS
                    (subst hS)
                    go_simp
                    try with_reducible rfl
                  refine wpAnyH_take (i := 1) (v := ?vnd11) rfl (by kernel_rfl) (by kernel_rfl) (by kernel_rfl) (fun _ _ _ h => h) (.inl ⟨by first | kernel_rfl | rfl, ?ynd11⟩) rfl ?_
                  case ynd11 =>
                    intro w' hS
                    (subst hS)
                    go_simp
                    try with_reducible rfl
                  refine wpAnyH_take (i := 2) (v := ?vnd12) rfl (by kernel_rfl) (by kernel_rfl) (by kernel_rfl) (fun _ _ _ h => h) (.inl ⟨by first | kernel_rfl | rfl, ?ynd12⟩) rfl ?_
                  case ynd12 =>
                    intro w' hS
                    (subst hS)
                    go_simp
                    try with_reducible rfl
                  refine wpAnyH_take (i := 3) (v := ?vnd13) rfl (by kernel_rfl) (by kernel_rfl) (by kernel_rfl) (fun _ _ _ h => h) (.inl ⟨by first | kernel_rfl | rfl, ?ynd13⟩) rfl ?_
                  case ynd13 =>
                    intro w' hS
                    (subst hS)
                    go_simp
                    try with_reducible rfl
                  try simp only [Act.put, List.getElem_toArray, List.getElem_cons_zero, List.getElem_cons_succ, List.setIfInBounds_toArray, List.set_cons_zero, List.set_cons_succ]
                  refine wpAnyH_take (i := 4) (v := (.bool false)) rfl (by kernel_rfl) (by kernel_rfl) (by kernel_rfl) (fun _ _ _ h => h) (.inl ⟨by first | kernel_rfl | rfl, ?ynd24⟩) rfl ?_
                  case ynd24 =>
                    intro w' hS
                    (subst hS)
                    go_simp
                    first | done | (simp; done) | (simp; omega) | omega | (simp [*]; done)
                  refine wpAnyH_take (i := 5) (v := ?vnd35) rfl (by kernel_rfl) (by kernel_rfl) (by kernel_rfl) (fun _ _ _ h => h) (.inl ⟨by first | kernel_rfl | rfl, ?ynd35⟩) rfl ?_
                  case ynd35 =>
                    intro w' hS
                    (subst hS)
                    go_simp
                    try with_reducible rfl
                  try simp only [Act.put, List.getElem_toArray, List.getElem_cons_zero, List.getElem_cons_succ, List.setIfInBounds_toArray, List.set_cons_zero, List.set_cons_succ]
                  refine wpAnyH_take (i := 6) (v := undef) rfl (by kernel_rfl) (by kernel_rfl) (by kernel_rfl) (fun _ _ _ h => h) (.inr ⟨by kernel_rfl, rfl⟩) rfl ?_
                  refine wpAnyH_take (i := 7) (v := undef) rfl (by kernel_rfl) (by kernel_rfl) (by kernel_rfl) (fun _ _ _ h => h) (.inr ⟨by kernel_rfl, rfl⟩) rfl ?_
                  refine wpAnyH_take (i := 8) (v := undef) rfl (by kernel_rfl) (by kernel_rfl) (by kernel_rfl) (fun _ _ _ h => h) (.inr ⟨by kernel_rfl, rfl⟩) rfl ?_
                  refine wpAnyH_take (i := 9) (v := undef) rfl (by kernel_rfl) (by kernel_rfl) (by kernel_rfl) (fun _ _ _ h => h) (.inr ⟨by kernel_rfl, rfl⟩) rfl ?_
                  refine wpAnyH_take (i := 10) (v := undef) rfl (by kernel_rfl) (by kernel_rfl) (by kernel_rfl) (fun _ _ _ h => h) (.inr ⟨by kernel_rfl, rfl⟩) rfl ?_
                  refine wpAnyH_take (i := 11) (v := undef) rfl (by kernel_rfl) (by kernel_rfl) (by kernel_rfl) (fun _ _ _ h => h) (.inr ⟨by kernel_rfl, rfl⟩) rfl ?_
                  refine wpAnyH_take (i := 12) (v := undef) rfl (by kernel_rfl) (by kernel_rfl) (by kernel_rfl) (fun _ _ _ h => h) (.inr ⟨by kernel_rfl, rfl⟩) rfl ?_
                  refine wpAnyH_take (i := 13) (v := undef) rfl (by kernel_rfl) (by kernel_rfl) (by kernel_rfl) (fun _ _ _ h => h) (.inr ⟨by kernel_rfl, rfl⟩) rfl ?_
                  refine wpAnyH_take (i := 14) (v := undef) rfl (by kernel_rfl) (by kernel_rfl) (by kernel_rfl) (fun _ _ _ h => h) (.inr ⟨by kernel_rfl, rfl⟩) rfl ?_
                  refine wpAnyH_take (i := 15) (v := undef) rfl (by kernel_rfl) (by kernel_rfl) (by kernel_rfl) (fun _ _ _ h => h) (.inr ⟨by kernel_rfl, rfl⟩) rfl ?_
                  refine wpAnyH_take (i := 16) (v := undef) rfl (by kernel_rfl) (by kernel_rfl) (by kernel_rfl) (fun _ _ _ h => h) (.inr ⟨by kernel_rfl, rfl⟩) rfl ?_
                  refine wpAnyH_take (i := 17) (v := undef) rfl (by kernel_rfl) (by kernel_rfl) (by kernel_rfl) (fun _ _ _ h => h) (.inr ⟨by kernel_rfl, rfl⟩) rfl ?_
                  refine wpAnyH_take (i := 18) (v := undef) rfl (by kernel_rfl) (by kernel_rfl) (by kernel_rfl) (fun _ _ _ h => h) (.inr ⟨by kernel_rfl, rfl⟩) rfl ?_
                  try simp only [Act.put, List.getElem_toArray, List.getElem_cons_zero, List.getElem_cons_succ, List.setIfInBounds_toArray, List.set_cons_zero, List.set_cons_succ]
                  refine wpAnyH_take (i := 19) (v := ?vnd419) rfl (by kernel_rfl) (by kernel_rfl) (by kernel_rfl) (fun _ _ _ h => h) (.inl ⟨by first | kernel_rfl | rfl, ?ynd419⟩) rfl ?_
                  case ynd419 =>
                    intro w' hS
                    (subst hS)
                    go_simp
                    try with_reducible rfl
                  try simp only [Act.put, List.getElem_toArray, List.getElem_cons_zero, List.getElem_cons_succ, List.setIfInBounds_toArray, List.set_cons_zero, List.set_cons_succ]
                  refine wpAnyH_done (by kernel_rfl) ?_ _
                  clear hS0
                  go_wp2_with fail
                  go_roundw
                  case rel => exact ⟨i + 1, by omega, by simp, by rw [Hb.out], Ec.out.drew⟩
                  case measure => simp [intOf]; omega
            · obtain rfl : i = ls.length := by omega
              rw [cLT_all, cDT_all] at hE
              have hsz := hE.below.size
              have Hnl2 := Lib.hid (show ∀ j, j < s + 1 → edLate ls ps ds j < 0 from fun j hj => by
                by_cases ej : j = s
                · subst ej; have := Hla.out; omega
                · exact Hnl.out j (by omega))
              have hsN2 : s + 1 ≤ N := by have := Hsn.out; omega
              rcases best_bd (ls := ls) (ps := ps) (ds := ds) s ls.length with hb | ⟨q, hb, hql, hq0⟩
              · have Hs := Lib.hid (edS_idle (ls := ls) (ps := ps) (ds := ds) (s := s) hb)
                have Ht := Lib.hid (show edTo ls ps ds (s + 1) = edTo ls ps ds s ++ [-1] by rw [edTo_succ]; exact congrArg (fun z => edTo ls ps ds s ++ [z]) hb)
                rw [hb]
                have HE := Lib.hid hE
                have hou := hE.out
                have hBE := hE.below
                clear hb hE
                go_wp2_with (at_builtin; refine wpList_append_own_at _ rfl _ _ 22 rfl w.heap.size 2 i0 (.int .i64 0) 1 8 Try.underlying22 hi hz0 hz1 hz2 rfl (by decide) _ _ _ rfl (World.ownsRow.alloc hou _) ⟨wr.heap.size, 0, none⟩ 1 1 [.int .i64 ((-1))] rfl rfl (Go.cell_one_new _ _ _) (by simp [Value.oneCell']) (by unfold maxLen; omega) (by omega) (by simp; omega) ?_)
                intro v' w1 hown' hgrow _ hat
                have ho2 := ownI_snoc hown'
                have hB2 : Below w.heap.size w w1 := (hBE.alloc hsz _).grown hgrow (by simp; omega) (fun j e => by have := (hou.blk j e).1; omega)
                have hgr : wr.grownBy w1 _ := (World.grownBy_alloc _ _ _).trans hgrow
                have hat2 : v'.ownBlock = u.ownBlock ∨ ∀ j, v'.ownBlock = some j → wr.heap.size ≤ j := by rcases hat with h | h; (first | exact .inl h); exact .inr fun j e => by rw [h] at e; simp at e; omega
                clear hown' hgrow hat
                have E2 := Lib.hid (HE.out.app ho2 hgr hB2 hat2)
                clear ho2 hgr hB2 hat2 hou hBE HE
                go_wp2_with fail
                go_roundw
                case rel => exact ⟨s + 1, v', hsN2, by simp, rfl, Hnl2.out, by rw [Hs.out, Ht.out]; exact E2.out⟩
                case measure => simp [intOf]; omega
              · have Hs := Lib.hid (edS_give (ls := ls) (ps := ps) (ds := ds) (s := s) (K := ls.length) hb)
                have Ht := Lib.hid (show edTo ls ps ds (s + 1) = edTo ls ps ds s ++ [(q : Int)] by rw [edTo_succ]; exact congrArg (fun z => edTo ls ps ds s ++ [z]) hb)
                have hx := hE.l.cellAt (j := q) (by rw [lst_length]; exact hql)
                rw [nth_lst hql] at hx
                have fl := hE.l.frozen q
                have hcl20 := CL_bd (s := s) HP.out hql
                rw [hb]
                have hE2 := hE.setL q (CL ls ps ds s q - 1)
                rw [← Hs.out.2, ← Hs.out.1] at hE2
                obtain ⟨x, ex⟩ : ∃ x, CL ls ps ds s q = x := ⟨_, rfl⟩
                rw [ex] at hx hq0 hcl20 hE2
                have hw1 : IntKind.i64.wrap (x - 1) = x - 1 := by rw [IntKind.wrap_i64]; omega
                have hq2 : (q : Int) < (ls.length : Int) := by omega
                obtain ⟨WX, hWX⟩ : ∃ WX, wr.setCell ⟨gl, q, none⟩ (.int .i64 (x - 1)) = WX := ⟨_, rfl⟩
                rw [hWX] at hE2
                have HE := Lib.hid hE2
                have hou := hE2.out
                have hBE := hE2.below
                have hszX := hBE.size
                clear hb hE hE2 ex hq0 hcl20
                go_wp2_with (at_builtin; refine wpList_append_own_at _ rfl _ _ 22 rfl w.heap.size 2 i0 (.int .i64 0) 1 8 Try.underlying22 hi hz0 hz1 hz2 rfl (by decide) _ _ _ rfl (World.ownsRow.alloc hou _) ⟨WX.heap.size, 0, none⟩ 1 1 [.int .i64 ((q : Int))] rfl rfl (Go.cell_one_new _ _ _) (by simp [Value.oneCell']) (by unfold maxLen; omega) (by omega) (by simp; omega) ?_)
                intro v' w1 hown' hgrow _ hat
                have ho2 := ownI_snoc hown'
                have hB2 : Below w.heap.size w w1 := (hBE.alloc hszX _).grown hgrow (by simp; omega) (fun j e => by have := (hou.blk j e).1; omega)
                have hgr : WX.grownBy w1 _ := (World.grownBy_alloc _ _ _).trans hgrow
                have hat2 : v'.ownBlock = u.ownBlock ∨ ∀ j, v'.ownBlock = some j → WX.heap.size ≤ j := by rcases hat with h | h; (first | exact .inl h); exact .inr fun j e => by rw [h] at e; simp at e; omega
                clear hown' hgrow hat
                have E2 := Lib.hid (HE.out.app ho2 hgr hB2 hat2)
                clear ho2 hgr hB2 hat2 hou hBE HE hWX hx fl
                go_wp2_with fail
                go_roundw
                case rel => exact ⟨s + 1, v', hsN2, by simp, rfl, Hnl2.out, by rw [Ht.out]; exact E2.out⟩
                case measure => simp [intOf]; omega

end Go.Proofs.Ytbhpflhopajbfaa
