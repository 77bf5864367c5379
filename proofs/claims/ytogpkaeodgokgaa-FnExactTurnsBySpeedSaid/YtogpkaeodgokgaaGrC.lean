/-
  The rules of cutting in the program: ranks, rules, cutters, choose.
  Conditions: gardens; heights from 0 to 1000000.
-/
import Derived.Test.YtogpkaeodgokgaaGrA
namespace Go.Proofs.Ytogpkaeodgokgaa
open Go.RowKit Go.Shelf
attribute [local go_sem] Oper.semAt_some

theorem run_store_funcG (P : Program) (w : World) (a : Addr) (m : Mode) (fn : Fn) (x y : Array Value) : (store a (.func fn x y) m).run P w = stored P w a (.func fn x y) m := run_store P w a _ m rfl
attribute [local go_sem] run_store_funcG

/-- the rank of a plant with a rate and a height -/
def rkO (x r h : Int) : Int := if x = 0 then h else if h < x then -1 else r
theorem rkO_at (rs hs : List Int) (x : Int) (i : Nat) : rkO x (nth rs i) (nth hs i) = rkG rs x hs i := rfl

set_option maxRecDepth 100000 in
theorem rankByHeight_c (r h x : Int) (w : World) :
    Calls Try.prog 144 #[.agg #[.int .i64 r, .int .i64 h], .int .i64 x] w fun e w' => e = .returned (.int .i64 h) ∧ Below w.heap.size w w' := by
  go_enter Try.func144, Try.ntmps144
  go_wp2
  go_ret
  exact ⟨rfl, (Below.refl _ _).alloc (Nat.le_refl _) _⟩

set_option maxRecDepth 100000 in
theorem rankBySpeed_c (r h x : Int) (w : World) :
    Calls Try.prog 145 #[.agg #[.int .i64 r, .int .i64 h], .int .i64 x] w fun e w' => e = .returned (.int .i64 (if h < x then -1 else r)) ∧ Below w.heap.size w w' := by
  by_cases hh : h < x
  · rw [if_pos hh]
    go_enter Try.func145, Try.ntmps145
    go_wp2
    go_ret
    exact ⟨rfl, (Below.refl _ _).alloc (Nat.le_refl _) _⟩
  · rw [if_neg hh]
    go_enter Try.func145, Try.ntmps145
    go_wp2
    go_ret
    exact ⟨rfl, (Below.refl _ _).alloc (Nat.le_refl _) _⟩

set_option maxRecDepth 100000 in
theorem rules_c (w : World) :
    Calls Try.prog 125 #[] w fun e w' => e = .returned (.slice (some ⟨w.heap.size, 0, none⟩) 2 2) ∧ w' = w.alloc (.cells #[.func (.func 144) #[] #[], .func (.func 145) #[] #[]] 96) := by
  go_enter Try.func125, Try.ntmps125
  go_wp2
  go_ret
  exact ⟨rfl, rfl⟩

/-- a variable that holds a cutter -/
def Cut3 (W : World) (b : Nat) (sv fv : Value) (x : Int) : Prop := W.heap[b]? = some (.cells #[sv, fv, .int .i64 x] 98 (0, 0))
theorem Cut3.lt {W : World} {b : Nat} {sv fv : Value} {x : Int} (h : Cut3 W b sv fv x) : b < W.heap.size := (Array.getElem?_eq_some_iff.1 h).1
theorem Cut3.c0 {W : World} {b : Nat} {sv fv : Value} {x : Int} (h : Cut3 W b sv fv x) : W.cell? ⟨b, 0, none⟩ = some sv := by simp [World.cell?, show W.heap[b]? = _ from h]
theorem Cut3.c1 {W : World} {b : Nat} {sv fv : Value} {x : Int} (h : Cut3 W b sv fv x) : W.cell? ⟨b, 1, none⟩ = some fv := by simp [World.cell?, show W.heap[b]? = _ from h]
theorem Cut3.c2 {W : World} {b : Nat} {sv fv : Value} {x : Int} (h : Cut3 W b sv fv x) : W.cell? ⟨b, 2, none⟩ = some (.int .i64 x) := by simp [World.cell?, show W.heap[b]? = _ from h]
theorem Cut3.frozen {W : World} {b : Nat} {sv fv : Value} {x : Int} (h : Cut3 W b sv fv x) (i : Nat) : W.frozen? ⟨b, i, none⟩ = false := by simp [World.frozen?, show W.heap[b]? = _ from h]
theorem Cut3.new (W : World) (sv fv : Value) (x : Int) : Cut3 (W.alloc (.cells #[sv, fv, .int .i64 x] 98)) W.heap.size sv fv x := World.alloc_heap_new W _
theorem Cut3.kept {W W' : World} {row : Option Nat} {b : Nat} {sv fv : Value} {x : Int} (h : Cut3 W b sv fv x) (hg : W.grownBy W' row) (hne : some b ≠ row) : Cut3 W' b sv fv x := (hg.block b h.lt hne).trans h
theorem Cut3.alloc {W : World} {b : Nat} {sv fv : Value} {x : Int} (h : Cut3 W b sv fv x) (o : Obj) : Cut3 (W.alloc o) b sv fv x := h.kept (World.grownBy_alloc W o none) (by simp)
theorem Cut3.later {W W' : World} {b : Nat} {sv fv : Value} {x : Int} (h : Cut3 W b sv fv x) (hb : Below W.heap.size W W') : Cut3 W' b sv fv x := (hb.block b h.lt).trans h
theorem Cut3.other {W : World} {b b' i : Nat} {sv fv : Value} {x : Int} (h : Cut3 W b sv fv x) (hne : b ≠ b') (u : Value) : Cut3 (W.setCell ⟨b', i, none⟩ u) b sv fv x := h.kept (grownBy_setCell2 W b' i u) (by simpa using hne)
theorem Cut3.stored3 {W : World} {b : Nat} {sv fv : Value} {x : Int} (h : Cut3 W b sv fv x) (sv' fv' : Value) (x' : Int) :
    Cut3 (((W.setCell ⟨b, 0, none⟩ sv').setCell ⟨b, 1, none⟩ fv').setCell ⟨b, 2, none⟩ (.int .i64 x')) b sv' fv' x' := by
  have hb := h.lt
  have h0 : W.heap[b]? = _ := h
  unfold Cut3
  simp only [World.setCell]
  rw [Array.getElem?_modify, Array.getElem?_modify, Array.getElem?_modify]
  simp [h0]
theorem cut3_own {β : Type} (b : Nat) (sv fv : Value) (x : Int) : Own (fun (_ : β) W => Cut3 W b sv fv x) := fun s X Y row hs hg hrow =>
  hs.kept hg (fun e' => by obtain ⟨o, ho, hc⟩ := hrow b e'.symm; rw [show X.heap[b]? = _ from hs] at ho; cases ho; cases hc)
theorem cut3_shut {W : World} {b D : Nat} {sv fv : Value} {x : Int} (h : Cut3 W b sv fv x) (hK : W.heap[D]? = some (.deferred (some []))) : Cut3 (W.putObj D (.deferred none)) b sv fv x :=
  (World.putObj_heap_other (by rintro rfl; rw [show W.heap[b]? = _ from h] at hK; cases hK)).trans h

set_option maxRecDepth 100000 in
set_option maxHeartbeats 4000000 in
theorem choose0_c (c0 : Value) (rs hs : List Int) (w : World) (hI : Ints w.heap.size w c0 rs) (hg : gardenOk rs = true) (hb : ∀ k, 0 ≤ nth hs k ∧ nth hs k ≤ 1000000) :
    Calls Try.prog 94 #[.agg #[c0, .func (.func 144) #[] #[], .int .i64 0], arI hs] w fun e w' => e = .returned (.int .i64 (cutG rs 0 hs)) ∧ Below w.heap.size w w' := by
  obtain ⟨a, cap, rfl⟩ := hI.shape
  have hl8 := gardenOk_len hg
  obtain ⟨W0, hW0⟩ : ∃ W0, ((((w.alloc (.cells #[.slice a rs.length cap, .func (.func 144) #[] #[], .int .i64 0] 98)).alloc (.cells (ceI hs) 90)).alloc (.cells #[.int .i64 (-1)] 2)).alloc (.cells #[.int .i64 (-1)] 2)).alloc (.cells #[.slice a rs.length cap] 22) = W0 := ⟨_, rfl⟩
  have hB0 : Below w.heap.size w W0 := by rw [← hW0]; exact (((((Below.refl _ w).alloc (Nat.le_refl _) _).alloc (by simp) _).alloc (by simp; omega) _).alloc (by simp; omega) _).alloc (by simp; omega) _
  have hs0 : w.heap.size + 5 ≤ W0.heap.size := by rw [← hW0]; simp
  have bC : Cut3 W0 w.heap.size (.slice a rs.length cap) (.func (.func 144) #[] #[]) 0 := by rw [← hW0]; exact ((((Cut3.new w _ _ _).alloc _).alloc _).alloc _).alloc _
  have bH : ArI W0 (w.heap.size + 1) hs := by rw [← hW0]; simpa using (((ArI.new (w.alloc (.cells #[.slice a rs.length cap, .func (.func 144) #[] #[], .int .i64 0] 98)) hs).alloc (.cells #[.int .i64 (-1)] 2)).alloc (.cells #[.int .i64 (-1)] 2)).alloc (.cells #[.slice a rs.length cap] 22)
  have bX : Boxed W0 (w.heap.size + 1 + 1) 2 (.int .i64 (-1)) := by rw [← hW0]; repeat first | (refine boxed_at ?_; (simp; done)) | refine Boxed.alloc ?_ _
  have bM : Boxed W0 (w.heap.size + 1 + 1 + 1) 2 (.int .i64 (-1)) := by rw [← hW0]; repeat first | (refine boxed_at ?_; (simp; done)) | refine Boxed.alloc ?_ _
  have bN : Boxed W0 (w.heap.size + 1 + 1 + 1 + 1) 22 (.slice a rs.length cap) := by rw [← hW0]; repeat first | (refine boxed_at ?_; (simp; done)) | refine Boxed.alloc ?_ _
  have hW1 : ((((w.alloc (.cells #[.slice a rs.length cap, .func (.func 144) #[] #[], .int .i64 0] 98)).alloc (.cells #[.int .i64 (nth hs 0), .int .i64 (nth hs 1), .int .i64 (nth hs 2), .int .i64 (nth hs 3), .int .i64 (nth hs 4), .int .i64 (nth hs 5), .int .i64 (nth hs 6), .int .i64 (nth hs 7)] 90)).alloc (.cells #[.int .i64 (-1)] 2)).alloc (.cells #[.int .i64 (-1)] 2)).alloc (.cells #[.slice a rs.length cap] 22) = W0 := hW0
  have hfw : Try.prog.follows Departure.mixedOrders = true := by kernel_rfl
  have Hb := Lib.hid hb
  clear hW0 hb
  refine (callsIn_wide (n := 9)).1 ?_
  unfold arI
  rw [show ceI hs = #[.int .i64 (nth hs 0), .int .i64 (nth hs 1), .int .i64 (nth hs 2), .int .i64 (nth hs 3), .int .i64 (nth hs 4), .int .i64 (nth hs 5), .int .i64 (nth hs 6), .int .i64 (nth hs 7)] from rfl]
  refine callsIn_of_wp_marks Try.func94 rfl trivial ?_ rfl
  simp only [Try.ntmps94, List.size_toArray, List.length_cons, List.length_nil, Nat.reduceAdd, Nat.reduceSub, Array.replicate_succ, Array.replicate_zero, List.push_toArray, List.append_toArray, List.nil_append, List.cons_append]
  gi_wp2_with (first | (gi_at_call 102; refine (callsIn_wide.2 (numbered_c _ _ _ _)).mono ?_; rintro e w' ⟨rfl, rfl⟩) | (refine ⟨trivial, ?_⟩; gi_at_call 102; refine (callsIn_wide.2 (numbered_c _ _ _ _)).mono ?_; rintro e w' ⟨rfl, rfl⟩))
  try rw [hW1]
  clear hW1
  refine range_outA rfl (by omega) rfl trivial (enters_of Try.func129 (by kernel_rfl) rfl) (numbered_at Fence.wide 8 trivial rfl (by omega) _ w.heap.size _ rs (by omega) W0 bN (by omega) (hI.below hB0)) (fun b hb => by omega) (fun _ => rfl)
    (fun k W => Cut3 W w.heap.size (.slice a rs.length cap) (.func (.func 144) #[] #[]) 0 ∧ ArI W (w.heap.size + 1) hs ∧ Boxed W (w.heap.size + 1 + 1) 2 (.int .i64 (cutTo (rkG rs 0 hs) k).1) ∧ Boxed W (w.heap.size + 1 + 1 + 1) 2 (.int .i64 (cutTo (rkG rs 0 hs) k).2) ∧ Below w.heap.size w W)
    (fun _ _ _ => False)
    (OwnFrom.and (Own.from (cut3_own _ _ _ _) _) (OwnFrom.and (Own.from (arI_own _ _) _) (OwnFrom.and (Own.from (boxed_own _ _ _) _) (OwnFrom.and (Own.from (boxed_own _ _ _) _) (ownFrom_below (Nat.le_refl _) (by omega))))))
    (fun _ _ _ _ _ hs _ _ => hs)
    ⟨bC, bH, bX, bM, hB0⟩ ?a1 ?assign ?body ?done ?stop
  case assign =>
    intro l k W K hk hK
    simp only [numAt]
    gi_wp2
    exact hK
  case body =>
    rintro l k W hl hr ⟨bC1, bH1, bX1, bM1, hB⟩ hlt hsz
    have hnb : ¬ Band (fun b => b < w.heap.size) W0.heap.size (W0.heap.size + 2 + 0) (w.heap.size + 1 + 1) := not_band (by omega) (by omega)
    have hnb2 : ¬ Band (fun b => b < w.heap.size) W0.heap.size (W0.heap.size + 2 + 0) (w.heap.size + 1 + 1 + 1) := not_band (by omega) (by omega)
    have hki : (k : Int) < 8 := by omega
    have hh := Hb.out k
    have hr1 := gardenOk_nth hg hlt
    have hcb := cutTo_bd (rkG rs 0 hs) k
    have e0 : rkG rs 0 hs k = nth hs k := rkG_zero rs hs k
    obtain ⟨cx, hcx⟩ : ∃ cx : Int, (cutTo (rkG rs 0 hs) k).1 = cx := ⟨_, rfl⟩
    obtain ⟨cm, hcm⟩ : ∃ cm : Int, (cutTo (rkG rs 0 hs) k).2 = cm := ⟨_, rfl⟩
    rw [hcx] at bX1
    rw [hcm] at bM1 hcb
    have HX := Lib.hid hcx
    have HM := Lib.hid hcm
    obtain ⟨rk, hrk⟩ : ∃ rk : Int, nth hs k = rk := ⟨_, rfl⟩
    rw [hrk] at e0
    have Hrk := Lib.hid hrk
    have E0 := Lib.hid e0
    have bC2 := bC1.later (Below.refl W.heap.size W).drew
    clear hcx hcm hrk e0
    gi_wp2_with fail
    refine wpIn_region_held (S := fun w' => Cut3 w' w.heap.size (.slice a rs.length cap) (.func (.func 144) #[] #[]) 0 ∧ ArI w' (w.heap.size + 1) hs ∧ Below W.heap.size W w') hfw (by kernel_rfl) (fun ⟨_, _, h⟩ => h) ⟨bC2, bH1.later (Below.refl _ _).drew, (Below.refl _ _).drew⟩ ?_
    intro hS0
    refine wpAnyH_take (i := 0) (v := ?vp10) rfl (by kernel_rfl) (by kernel_rfl) (by kernel_rfl) (fun _ _ _ h => h) (.inl ⟨by rfl, ?yp10⟩) hS0 ?_
    case yp10 =>
      intro w' hS
      (have k1 := hS.1.c1; clear hS)
      go_simp
      try with_reducible rfl
    refine wpAnyH_take (i := 1) (v := ?vp11) rfl (by kernel_rfl) (by kernel_rfl) (by kernel_rfl) (fun _ _ _ h => h) (.inl ⟨by rfl, ?yp11⟩) hS0 ?_
    case yp11 =>
      intro w' hS
      (have k1 := hS.1.c1; clear hS)
      go_simp
      try with_reducible rfl
    refine wpAnyH_take (i := 2) (v := ?vp22) rfl (by kernel_rfl) (by kernel_rfl) (by kernel_rfl) (fun _ _ _ h => h) (.inl ⟨by rfl, ?yp22⟩) hS0 ?_
    case yp22 =>
      intro w' hS
      (have k1 := hS.2.1.cell (i := k) (by omega); clear hS)
      go_simp
      try with_reducible rfl
    refine wpAnyH_take (i := 3) (v := ?vp23) rfl (by kernel_rfl) (by kernel_rfl) (by kernel_rfl) (fun _ _ _ h => h) (.inl ⟨by rfl, ?yp23⟩) hS0 ?_
    case yp23 =>
      intro w' hS
      (have k1 := hS.2.1.cell (i := k) (by omega); clear hS)
      go_simp
      try with_reducible rfl
    refine wpAnyH_take (i := 4) (v := ?vp24) rfl (by kernel_rfl) (by kernel_rfl) (by kernel_rfl) (fun _ _ _ h => h) (.inl ⟨by rfl, ?yp24⟩) hS0 ?_
    case yp24 =>
      intro w' hS
      (have k1 := hS.2.1.cell (i := k) (by omega); clear hS)
      go_simp
      try with_reducible rfl
    refine wpAnyH_take (i := 5) (v := ?vp25) rfl (by kernel_rfl) (by kernel_rfl) (by kernel_rfl) (fun _ _ _ h => h) (.inl ⟨by rfl, ?yp25⟩) hS0 ?_
    case yp25 =>
      intro w' hS
      (have k1 := hS.2.1.cell (i := k) (by omega); clear hS)
      go_simp
      try with_reducible rfl
    refine wpAnyH_take (i := 6) (v := ?vp26) rfl (by kernel_rfl) (by kernel_rfl) (by kernel_rfl) (fun _ _ _ h => h) (.inl ⟨by rfl, ?yp26⟩) hS0 ?_
    case yp26 =>
      intro w' hS
      (have k1 := hS.2.1.cell (i := k) (by omega); clear hS)
      go_simp
      try with_reducible rfl
    refine wpAnyH_take (i := 7) (v := ?vp37) rfl (by kernel_rfl) (by kernel_rfl) (by kernel_rfl) (fun _ _ _ h => h) (.inl ⟨by rfl, ?yp37⟩) hS0 ?_
    case yp37 =>
      intro w' hS
      (have k1 := hS.1.c2; clear hS)
      go_simp
      try with_reducible rfl
    refine wpAnyH_take (i := 8) (v := ?vp38) rfl (by kernel_rfl) (by kernel_rfl) (by kernel_rfl) (fun _ _ _ h => h) (.inl ⟨by rfl, ?yp38⟩) hS0 ?_
    case yp38 =>
      intro w' hS
      (have k1 := hS.1.c2; clear hS)
      go_simp
      try with_reducible rfl
    refine wpAnyH_ready (rs := [9]) (by kernel_rfl) (by simp) ?_
    refine AllReadyH.cons rfl (fun K' hK' => ?_) AllReadyH.nil
    rw [if_pos (by rfl)]
    go_simp
    refine (rankByHeight_c _ _ _ _).mono ?_
    rintro e w9 ⟨rfl, hb9⟩
    rw [Hrk.out]
    have hb8 : Below W.heap.size W w9 := (Below.refl W.heap.size W).drew.trans hb9
    refine hK'.out _ _ ⟨bC2.later hb9, (bH1.later (Below.refl _ _).drew).later hb9, hb8⟩ fun hS1 => ?_
    refine wpAnyH_take (i := 10) (v := ?vp410) rfl (by kernel_rfl) (by kernel_rfl) (by kernel_rfl) (fun _ _ _ h => h) (.inl ⟨by rfl, ?yp410⟩) hS1 ?_
    case yp410 =>
      intro w' hS
      (clear hS)
      go_simp
      try with_reducible rfl
    refine wpAnyH_done (by kernel_rfl) ?_ _
    have bC9 := bC1.later hb8
    have bH9 := bH1.later hb8
    have bX9 := boxed_later bX1 hb8
    have bM9 := boxed_later bM1 hb8
    have hB9 : Below w.heap.size w w9 := hB.trans (hb8.mono hB.size)
    have hk9 : Kps (Band (fun b => b < w.heap.size) W0.heap.size (W0.heap.size + 2 + 0)) W w9 := Kps.below hb8
    have kM := bM9.cell
    have fM := bM9.frozen
    have kX := bX9.cell
    have fX := bX9.frozen
    clear hS0 hS1 hb9 hb8 hK' bC1 bH1 bX1 bM1 hB bC2
    by_cases hgt : cm < rk
    · have hn := cutTo_yes (rk := rkG rs 0 hs) (k := k) (by rw [HM.out, E0.out]; exact hgt)
      rw [E0.out] at hn
      have Hn := Lib.hid hn
      clear hn
      gi_wp2
      refine ⟨hk9.trans ((Kps.setCell _ _ _ _ hnb).trans (Kps.setCell _ _ _ _ hnb2)), (bC9.other (by omega) _).other (by omega) _, (bH9.other (by omega) _).other (by omega) _, ?_, ?_, (hB9.setCell (p := ⟨w.heap.size + 1 + 1, 0, none⟩) (by simp; omega) _).setCell (p := ⟨w.heap.size + 1 + 1 + 1, 0, none⟩) (by simp; omega) _⟩
      · rw [Hn.out]; exact (bX9.set _).kept (grownBy_setCell2 _ _ _ _) (by simp)
      · rw [Hn.out]; exact (bM9.kept (grownBy_setCell2 _ _ _ _) (by simp)).set _
    · have hn := cutTo_no (rk := rkG rs 0 hs) (k := k) (by rw [HM.out, E0.out]; exact hgt)
      have Hn := Lib.hid hn
      clear hn
      gi_wp2
      exact ⟨hk9, bC9, bH9, by rw [Hn.out, HX.out]; exact bX9, by rw [Hn.out, HM.out]; exact bM9, hB9⟩
  case done =>
    rintro D W hD ⟨bC1, bH1, bX1, bM1, hB⟩ hK
    have kX := bX1.cell
    gi_wp2
    exact retM1 hK ⟨_, by simp [results, Try.results94, go_sem]; rfl, rfl, below_shut hB (by omega)⟩
  case stop =>
    rintro D c k W hD hk h
    exact h.elim

set_option maxRecDepth 100000 in
set_option maxHeartbeats 4000000 in
theorem choose1_c (c0 : Value) (rs hs : List Int) (x : Int) (hx : 1 ≤ x) (w : World) (hI : Ints w.heap.size w c0 rs) (hg : gardenOk rs = true) (hb : ∀ k, 0 ≤ nth hs k ∧ nth hs k ≤ 1000000) :
    Calls Try.prog 94 #[.agg #[c0, .func (.func 145) #[] #[], .int .i64 x], arI hs] w fun e w' => e = .returned (.int .i64 (cutG rs x hs)) ∧ Below w.heap.size w w' := by
  obtain ⟨a, cap, rfl⟩ := hI.shape
  have hl8 := gardenOk_len hg
  obtain ⟨W0, hW0⟩ : ∃ W0, ((((w.alloc (.cells #[.slice a rs.length cap, .func (.func 145) #[] #[], .int .i64 x] 98)).alloc (.cells (ceI hs) 90)).alloc (.cells #[.int .i64 (-1)] 2)).alloc (.cells #[.int .i64 (-1)] 2)).alloc (.cells #[.slice a rs.length cap] 22) = W0 := ⟨_, rfl⟩
  have hB0 : Below w.heap.size w W0 := by rw [← hW0]; exact (((((Below.refl _ w).alloc (Nat.le_refl _) _).alloc (by simp) _).alloc (by simp; omega) _).alloc (by simp; omega) _).alloc (by simp; omega) _
  have hs0 : w.heap.size + 5 ≤ W0.heap.size := by rw [← hW0]; simp
  have bC : Cut3 W0 w.heap.size (.slice a rs.length cap) (.func (.func 145) #[] #[]) x := by rw [← hW0]; exact ((((Cut3.new w _ _ _).alloc _).alloc _).alloc _).alloc _
  have bH : ArI W0 (w.heap.size + 1) hs := by rw [← hW0]; simpa using (((ArI.new (w.alloc (.cells #[.slice a rs.length cap, .func (.func 145) #[] #[], .int .i64 x] 98)) hs).alloc (.cells #[.int .i64 (-1)] 2)).alloc (.cells #[.int .i64 (-1)] 2)).alloc (.cells #[.slice a rs.length cap] 22)
  have bX : Boxed W0 (w.heap.size + 1 + 1) 2 (.int .i64 (-1)) := by rw [← hW0]; repeat first | (refine boxed_at ?_; (simp; done)) | refine Boxed.alloc ?_ _
  have bM : Boxed W0 (w.heap.size + 1 + 1 + 1) 2 (.int .i64 (-1)) := by rw [← hW0]; repeat first | (refine boxed_at ?_; (simp; done)) | refine Boxed.alloc ?_ _
  have bN : Boxed W0 (w.heap.size + 1 + 1 + 1 + 1) 22 (.slice a rs.length cap) := by rw [← hW0]; repeat first | (refine boxed_at ?_; (simp; done)) | refine Boxed.alloc ?_ _
  have hW1 : ((((w.alloc (.cells #[.slice a rs.length cap, .func (.func 145) #[] #[], .int .i64 x] 98)).alloc (.cells #[.int .i64 (nth hs 0), .int .i64 (nth hs 1), .int .i64 (nth hs 2), .int .i64 (nth hs 3), .int .i64 (nth hs 4), .int .i64 (nth hs 5), .int .i64 (nth hs 6), .int .i64 (nth hs 7)] 90)).alloc (.cells #[.int .i64 (-1)] 2)).alloc (.cells #[.int .i64 (-1)] 2)).alloc (.cells #[.slice a rs.length cap] 22) = W0 := hW0
  have hfw : Try.prog.follows Departure.mixedOrders = true := by kernel_rfl
  have Hb := Lib.hid hb
  clear hW0 hb
  refine (callsIn_wide (n := 9)).1 ?_
  unfold arI
  rw [show ceI hs = #[.int .i64 (nth hs 0), .int .i64 (nth hs 1), .int .i64 (nth hs 2), .int .i64 (nth hs 3), .int .i64 (nth hs 4), .int .i64 (nth hs 5), .int .i64 (nth hs 6), .int .i64 (nth hs 7)] from rfl]
  refine callsIn_of_wp_marks Try.func94 rfl trivial ?_ rfl
  simp only [Try.ntmps94, List.size_toArray, List.length_cons, List.length_nil, Nat.reduceAdd, Nat.reduceSub, Array.replicate_succ, Array.replicate_zero, List.push_toArray, List.append_toArray, List.nil_append, List.cons_append]
  gi_wp2_with (first | (gi_at_call 102; refine (callsIn_wide.2 (numbered_c _ _ _ _)).mono ?_; rintro e w' ⟨rfl, rfl⟩) | (refine ⟨trivial, ?_⟩; gi_at_call 102; refine (callsIn_wide.2 (numbered_c _ _ _ _)).mono ?_; rintro e w' ⟨rfl, rfl⟩))
  try rw [hW1]
  clear hW1
  refine range_outA rfl (by omega) rfl trivial (enters_of Try.func129 (by kernel_rfl) rfl) (numbered_at Fence.wide 8 trivial rfl (by omega) _ w.heap.size _ rs (by omega) W0 bN (by omega) (hI.below hB0)) (fun b hb => by omega) (fun _ => rfl)
    (fun k W => Cut3 W w.heap.size (.slice a rs.length cap) (.func (.func 145) #[] #[]) x ∧ ArI W (w.heap.size + 1) hs ∧ Boxed W (w.heap.size + 1 + 1) 2 (.int .i64 (cutTo (rkG rs x hs) k).1) ∧ Boxed W (w.heap.size + 1 + 1 + 1) 2 (.int .i64 (cutTo (rkG rs x hs) k).2) ∧ Below w.heap.size w W)
    (fun _ _ _ => False)
    (OwnFrom.and (Own.from (cut3_own _ _ _ _) _) (OwnFrom.and (Own.from (arI_own _ _) _) (OwnFrom.and (Own.from (boxed_own _ _ _) _) (OwnFrom.and (Own.from (boxed_own _ _ _) _) (ownFrom_below (Nat.le_refl _) (by omega))))))
    (fun _ _ _ _ _ hs _ _ => hs)
    ⟨bC, bH, bX, bM, hB0⟩ ?a1 ?assign ?body ?done ?stop
  case assign =>
    intro l k W K hk hK
    simp only [numAt]
    gi_wp2
    exact hK
  case body =>
    rintro l k W hl hr ⟨bC1, bH1, bX1, bM1, hB⟩ hlt hsz
    have hnb : ¬ Band (fun b => b < w.heap.size) W0.heap.size (W0.heap.size + 2 + 0) (w.heap.size + 1 + 1) := not_band (by omega) (by omega)
    have hnb2 : ¬ Band (fun b => b < w.heap.size) W0.heap.size (W0.heap.size + 2 + 0) (w.heap.size + 1 + 1 + 1) := not_band (by omega) (by omega)
    have hki : (k : Int) < 8 := by omega
    have hh := Hb.out k
    have hr1 := gardenOk_nth hg hlt
    have hcb := cutTo_bd (rkG rs x hs) k
    have e0 : rkG rs x hs k = (if nth hs k < x then -1 else nth rs k) := if_neg (by omega)
    obtain ⟨cx, hcx⟩ : ∃ cx : Int, (cutTo (rkG rs x hs) k).1 = cx := ⟨_, rfl⟩
    obtain ⟨cm, hcm⟩ : ∃ cm : Int, (cutTo (rkG rs x hs) k).2 = cm := ⟨_, rfl⟩
    rw [hcx] at bX1
    rw [hcm] at bM1 hcb
    have HX := Lib.hid hcx
    have HM := Lib.hid hcm
    obtain ⟨rk, hrk⟩ : ∃ rk : Int, (if nth hs k < x then -1 else nth rs k) = rk := ⟨_, rfl⟩
    rw [hrk] at e0
    have Hrk := Lib.hid hrk
    have E0 := Lib.hid e0
    have bC2 := bC1.later (Below.refl W.heap.size W).drew
    clear hcx hcm hrk e0
    gi_wp2_with fail
    refine wpIn_region_held (S := fun w' => Cut3 w' w.heap.size (.slice a rs.length cap) (.func (.func 145) #[] #[]) x ∧ ArI w' (w.heap.size + 1) hs ∧ Below W.heap.size W w') hfw (by kernel_rfl) (fun ⟨_, _, h⟩ => h) ⟨bC2, bH1.later (Below.refl _ _).drew, (Below.refl _ _).drew⟩ ?_
    intro hS0
    refine wpAnyH_take (i := 0) (v := ?vp10) rfl (by kernel_rfl) (by kernel_rfl) (by kernel_rfl) (fun _ _ _ h => h) (.inl ⟨by rfl, ?yp10⟩) hS0 ?_
    case yp10 =>
      intro w' hS
      (have k1 := hS.1.c1; clear hS)
      go_simp
      try with_reducible rfl
    refine wpAnyH_take (i := 1) (v := ?vp11) rfl (by kernel_rfl) (by kernel_rfl) (by kernel_rfl) (fun _ _ _ h => h) (.inl ⟨by rfl, ?yp11⟩) hS0 ?_
    case yp11 =>
      intro w' hS
      (have k1 := hS.1.c1; clear hS)
      go_simp
      try with_reducible rfl
    refine wpAnyH_take (i := 2) (v := ?vp22) rfl (by kernel_rfl) (by kernel_rfl) (by kernel_rfl) (fun _ _ _ h => h) (.inl ⟨by rfl, ?yp22⟩) hS0 ?_
    case yp22 =>
      intro w' hS
      (have k1 := hS.2.1.cell (i := k) (by omega); clear hS)
      go_simp
      try with_reducible rfl
    refine wpAnyH_take (i := 3) (v := ?vp23) rfl (by kernel_rfl) (by kernel_rfl) (by kernel_rfl) (fun _ _ _ h => h) (.inl ⟨by rfl, ?yp23⟩) hS0 ?_
    case yp23 =>
      intro w' hS
      (have k1 := hS.2.1.cell (i := k) (by omega); clear hS)
      go_simp
      try with_reducible rfl
    refine wpAnyH_take (i := 4) (v := ?vp24) rfl (by kernel_rfl) (by kernel_rfl) (by kernel_rfl) (fun _ _ _ h => h) (.inl ⟨by rfl, ?yp24⟩) hS0 ?_
    case yp24 =>
      intro w' hS
      (have k1 := hS.2.1.cell (i := k) (by omega); clear hS)
      go_simp
      try with_reducible rfl
    refine wpAnyH_take (i := 5) (v := ?vp25) rfl (by kernel_rfl) (by kernel_rfl) (by kernel_rfl) (fun _ _ _ h => h) (.inl ⟨by rfl, ?yp25⟩) hS0 ?_
    case yp25 =>
      intro w' hS
      (have k1 := hS.2.1.cell (i := k) (by omega); clear hS)
      go_simp
      try with_reducible rfl
    refine wpAnyH_take (i := 6) (v := ?vp26) rfl (by kernel_rfl) (by kernel_rfl) (by kernel_rfl) (fun _ _ _ h => h) (.inl ⟨by rfl, ?yp26⟩) hS0 ?_
    case yp26 =>
      intro w' hS
      (have k1 := hS.2.1.cell (i := k) (by omega); clear hS)
      go_simp
      try with_reducible rfl
    refine wpAnyH_take (i := 7) (v := ?vp37) rfl (by kernel_rfl) (by kernel_rfl) (by kernel_rfl) (fun _ _ _ h => h) (.inl ⟨by rfl, ?yp37⟩) hS0 ?_
    case yp37 =>
      intro w' hS
      (have k1 := hS.1.c2; clear hS)
      go_simp
      try with_reducible rfl
    refine wpAnyH_take (i := 8) (v := ?vp38) rfl (by kernel_rfl) (by kernel_rfl) (by kernel_rfl) (fun _ _ _ h => h) (.inl ⟨by rfl, ?yp38⟩) hS0 ?_
    case yp38 =>
      intro w' hS
      (have k1 := hS.1.c2; clear hS)
      go_simp
      try with_reducible rfl
    refine wpAnyH_ready (rs := [9]) (by kernel_rfl) (by simp) ?_
    refine AllReadyH.cons rfl (fun K' hK' => ?_) AllReadyH.nil
    rw [if_pos (by rfl)]
    go_simp
    refine (rankBySpeed_c _ _ _ _).mono ?_
    rintro e w9 ⟨rfl, hb9⟩
    rw [Hrk.out]
    have hb8 : Below W.heap.size W w9 := (Below.refl W.heap.size W).drew.trans hb9
    refine hK'.out _ _ ⟨bC2.later hb9, (bH1.later (Below.refl _ _).drew).later hb9, hb8⟩ fun hS1 => ?_
    refine wpAnyH_take (i := 10) (v := ?vp410) rfl (by kernel_rfl) (by kernel_rfl) (by kernel_rfl) (fun _ _ _ h => h) (.inl ⟨by rfl, ?yp410⟩) hS1 ?_
    case yp410 =>
      intro w' hS
      (clear hS)
      go_simp
      try with_reducible rfl
    refine wpAnyH_done (by kernel_rfl) ?_ _
    have bC9 := bC1.later hb8
    have bH9 := bH1.later hb8
    have bX9 := boxed_later bX1 hb8
    have bM9 := boxed_later bM1 hb8
    have hB9 : Below w.heap.size w w9 := hB.trans (hb8.mono hB.size)
    have hk9 : Kps (Band (fun b => b < w.heap.size) W0.heap.size (W0.heap.size + 2 + 0)) W w9 := Kps.below hb8
    have kM := bM9.cell
    have fM := bM9.frozen
    have kX := bX9.cell
    have fX := bX9.frozen
    clear hS0 hS1 hb9 hb8 hK' bC1 bH1 bX1 bM1 hB bC2
    by_cases hgt : cm < rk
    · have hn := cutTo_yes (rk := rkG rs x hs) (k := k) (by rw [HM.out, E0.out]; exact hgt)
      rw [E0.out] at hn
      have Hn := Lib.hid hn
      clear hn
      gi_wp2
      refine ⟨hk9.trans ((Kps.setCell _ _ _ _ hnb).trans (Kps.setCell _ _ _ _ hnb2)), (bC9.other (by omega) _).other (by omega) _, (bH9.other (by omega) _).other (by omega) _, ?_, ?_, (hB9.setCell (p := ⟨w.heap.size + 1 + 1, 0, none⟩) (by simp; omega) _).setCell (p := ⟨w.heap.size + 1 + 1 + 1, 0, none⟩) (by simp; omega) _⟩
      · rw [Hn.out]; exact (bX9.set _).kept (grownBy_setCell2 _ _ _ _) (by simp)
      · rw [Hn.out]; exact (bM9.kept (grownBy_setCell2 _ _ _ _) (by simp)).set _
    · have hn := cutTo_no (rk := rkG rs x hs) (k := k) (by rw [HM.out, E0.out]; exact hgt)
      have Hn := Lib.hid hn
      clear hn
      gi_wp2
      exact ⟨hk9, bC9, bH9, by rw [Hn.out, HX.out]; exact bX9, by rw [Hn.out, HM.out]; exact bM9, hB9⟩
  case done =>
    rintro D W hD ⟨bC1, bH1, bX1, bM1, hB⟩ hK
    have kX := bX1.cell
    gi_wp2
    exact retM1 hK ⟨_, by simp [results, Try.results94, go_sem]; rfl, rfl, below_shut hB (by omega)⟩
  case stop =>
    rintro D c k W hD hk h
    exact h.elim

set_option maxRecDepth 100000 in
set_option maxHeartbeats 2000000 in
theorem cutterByHeight_c (a : Option Addr) (n cap : Nat) (w : World) :
    Calls Try.prog 93 #[.agg #[.slice a n cap]] w fun e w' => e = .returned (.agg #[.slice a n cap, .func (.func 144) #[] #[], .int .i64 0]) ∧ Below w.heap.size w w' := by
  have hfw : Try.prog.follows Departure.mixedOrders = true := by kernel_rfl
  obtain ⟨W0, hW0⟩ : ∃ W0, (w.alloc (.cells #[.slice a n cap] 48)).alloc (.cells #[.slice none 0 0, .nilFunc, .int .i64 0] 98) = W0 := ⟨_, rfl⟩
  have hB0 : Below w.heap.size w W0 := by rw [← hW0]; exact ((Below.refl _ w).alloc (Nat.le_refl _) _).alloc (by simp) _
  have bG : Boxed W0 w.heap.size 48 (.slice a n cap) := by rw [← hW0]; exact (Boxed.new _ _ _).alloc _
  have bC : Cut3 W0 (w.heap.size + 1) (.slice none 0 0) .nilFunc 0 := by rw [← hW0]; simpa using Cut3.new (w.alloc (.cells #[.slice a n cap] 48)) (.slice none 0 0) .nilFunc 0
  go_enter Try.func93, Try.ntmps93
  go_wp2_with fail
  clear hW0
  refine wp_region_held_drew (S := fun w' => Boxed w' w.heap.size 48 (.slice a n cap) ∧ Below w.heap.size w w') hfw ⟨boxed_later bG (Below.refl _ _).drew, hB0.drew⟩ ?_
  intro hS0
  refine wpAnyH_take (i := 0) (v := ?vp10) rfl (by kernel_rfl) (by kernel_rfl) (by kernel_rfl) (fun _ _ _ h => h) (.inl ⟨by rfl, ?yp10⟩) hS0 ?_
  case yp10 =>
    intro w' hS
    (have k1 := hS.1.cell; clear hS)
    go_simp
    try with_reducible rfl
  refine wpAnyH_ready (rs := [1]) (by kernel_rfl) (by simp) ?_
  refine AllReadyH.cons rfl (fun K' hK' => ?_) AllReadyH.nil
  rw [if_pos (by rfl)]
  go_simp
  refine (rules_c _).mono ?_
  rintro e w1 ⟨rfl, hw1⟩
  have hs0 : W0.drew.heap.size = W0.heap.size := rfl
  rw [hs0]
  have hb1 : Below W0.heap.size W0 w1 := by rw [hw1]; exact (Below.refl _ _).drew.alloc (Nat.le_refl _) _
  have c0 : w1.cell? ⟨W0.heap.size, 0, none⟩ = some (.func (.func 144) #[] #[]) := by rw [hw1]; simp [go_sem]
  have hlt1 : W0.heap.size < w1.heap.size := by rw [hw1]; simp
  have hBf : Below w.heap.size w w1 := hB0.trans (hb1.mono hB0.size)
  have bG1 := boxed_later bG hb1
  clear hw1
  refine hK'.out _ _ ⟨bG1, hBf⟩ fun hS1 => ?_
  refine wpAnyH_take (i := 2) (v := ?vp22) rfl (by kernel_rfl) (by kernel_rfl) (by kernel_rfl) (fun _ _ _ h => h) (.inl ⟨by rfl, ?yp22⟩) hS1 ?_
  case yp22 =>
    intro w' hS
    (clear hS)
    go_simp
    try with_reducible rfl
  refine wpAnyH_ready (rs := [3]) (by kernel_rfl) (by simp) ?_
  refine AllReadyH.cons rfl (fun K' hK' => ?_) AllReadyH.nil
  rw [if_pos (by rfl)]
  go_simp
  refine hK'.out _ _ ⟨bG1, hBf⟩ fun hS2 => ?_
  refine wpAnyH_take (i := 4) (v := ?vp34) rfl (by kernel_rfl) (by kernel_rfl) (by kernel_rfl) (fun _ _ _ h => h) (.inl ⟨by rfl, ?yp34⟩) hS2 ?_
  case yp34 =>
    intro w' hS
    (clear hS)
    go_simp
    try with_reducible rfl
  have bC1 := bC.later hb1
  have k0 := bC1.c0
  have k1 := bC1.c1
  have k2 := bC1.c2
  have f0 := bC1.frozen 0
  have f1 := bC1.frozen 1
  have f2 := bC1.frozen 2
  have hBF := ((hBf.setCell (p := ⟨w.heap.size + 1, 0, none⟩) (by simp) (.slice a n cap)).setCell (p := ⟨w.heap.size + 1, 1, none⟩) (by simp) (.func (.func 144) #[] #[])).setCell (p := ⟨w.heap.size + 1, 2, none⟩) (by simp) (.int .i64 0)
  have hE := Cut3.stored3 bC1 (.slice a n cap) (.func (.func 144) #[] #[]) 0
  have bG2 := ((bG1.kept (grownBy_setCell2 w1 (w.heap.size + 1) 0 (.slice a n cap)) (by simp)).kept (grownBy_setCell2 _ (w.heap.size + 1) 1 (.func (.func 144) #[] #[])) (by simp)).kept (grownBy_setCell2 _ (w.heap.size + 1) 2 (.int .i64 0)) (by simp)
  refine wpAnyH_ready (rs := [5]) (by kernel_rfl) (by simp) ?_
  refine AllReadyH.cons rfl (fun K' hK' => ?_) AllReadyH.nil
  rw [if_pos (by rfl)]
  go_simp
  obtain ⟨W5, hW5⟩ : ∃ W5, ((w1.setCell ⟨w.heap.size + 1, 0, none⟩ (.slice a n cap)).setCell ⟨w.heap.size + 1, 1, none⟩ (.func (.func 144) #[] #[])).setCell ⟨w.heap.size + 1, 2, none⟩ (.int .i64 0) = W5 := ⟨_, rfl⟩
  rw [hW5] at hBF hE bG2
  try rw [hW5]
  refine hK'.out _ _ ⟨bG2, hBF⟩ fun hS3 => ?_
  refine wpAnyH_done (by kernel_rfl) ?_ _
  have e0 := hE.c0
  have e1 := hE.c1
  have e2 := hE.c2
  clear hS0 hS1 hS2 hS3 hK' k0 k1 k2 f0 f1 f2 bC1 bG1 bG2 hW5 hE
  go_wp2
  exact bodyPost_ret (v := .agg #[.slice a n cap, .func (.func 144) #[] #[], .int .i64 0]) (by simp [results, Try.results93, go_sem, e0, e1, e2]) rfl ⟨rfl, hBF⟩

set_option maxRecDepth 100000 in
set_option maxHeartbeats 2000000 in
theorem cutterBySpeed_c (a : Option Addr) (n cap : Nat) (x : Int) (w : World) :
    Calls Try.prog 97 #[.agg #[.slice a n cap], .int .i64 x] w fun e w' => e = .returned (.agg #[.slice a n cap, .func (.func 145) #[] #[], .int .i64 x]) ∧ Below w.heap.size w w' := by
  have hfw : Try.prog.follows Departure.mixedOrders = true := by kernel_rfl
  obtain ⟨W0, hW0⟩ : ∃ W0, (w.alloc (.cells #[.slice a n cap] 48)).alloc (.cells #[.slice none 0 0, .nilFunc, .int .i64 0] 98) = W0 := ⟨_, rfl⟩
  have hB0 : Below w.heap.size w W0 := by rw [← hW0]; exact ((Below.refl _ w).alloc (Nat.le_refl _) _).alloc (by simp) _
  have bG : Boxed W0 w.heap.size 48 (.slice a n cap) := by rw [← hW0]; exact (Boxed.new _ _ _).alloc _
  have bC : Cut3 W0 (w.heap.size + 1) (.slice none 0 0) .nilFunc 0 := by rw [← hW0]; simpa using Cut3.new (w.alloc (.cells #[.slice a n cap] 48)) (.slice none 0 0) .nilFunc 0
  go_enter Try.func97, Try.ntmps97
  go_wp2_with fail
  clear hW0
  refine wp_region_held_drew (S := fun w' => Boxed w' w.heap.size 48 (.slice a n cap) ∧ Below w.heap.size w w') hfw ⟨boxed_later bG (Below.refl _ _).drew, hB0.drew⟩ ?_
  intro hS0
  refine wpAnyH_take (i := 0) (v := ?vp10) rfl (by kernel_rfl) (by kernel_rfl) (by kernel_rfl) (fun _ _ _ h => h) (.inl ⟨by rfl, ?yp10⟩) hS0 ?_
  case yp10 =>
    intro w' hS
    (have k1 := hS.1.cell; clear hS)
    go_simp
    try with_reducible rfl
  refine wpAnyH_take (i := 4) (v := ?vp14) rfl (by kernel_rfl) (by kernel_rfl) (by kernel_rfl) (fun _ _ _ h => h) (.inl ⟨by rfl, ?yp14⟩) hS0 ?_
  case yp14 =>
    intro w' hS
    (have k1 := hS.1.cell; clear hS)
    go_simp
    try with_reducible rfl
  refine wpAnyH_ready (rs := [1]) (by kernel_rfl) (by simp) ?_
  refine AllReadyH.cons rfl (fun K' hK' => ?_) AllReadyH.nil
  rw [if_pos (by rfl)]
  go_simp
  refine (rules_c _).mono ?_
  rintro e w1 ⟨rfl, hw1⟩
  have hs0 : W0.drew.heap.size = W0.heap.size := rfl
  rw [hs0]
  have hb1 : Below W0.heap.size W0 w1 := by rw [hw1]; exact (Below.refl _ _).drew.alloc (Nat.le_refl _) _
  have c0 : w1.cell? ⟨W0.heap.size, 1, none⟩ = some (.func (.func 145) #[] #[]) := by rw [hw1]; simp [go_sem]
  have hlt1 : W0.heap.size < w1.heap.size := by rw [hw1]; simp
  have hBf : Below w.heap.size w w1 := hB0.trans (hb1.mono hB0.size)
  have bG1 := boxed_later bG hb1
  clear hw1
  refine hK'.out _ _ ⟨bG1, hBf⟩ fun hS1 => ?_
  refine wpAnyH_take (i := 2) (v := ?vp22) rfl (by kernel_rfl) (by kernel_rfl) (by kernel_rfl) (fun _ _ _ h => h) (.inl ⟨by rfl, ?yp22⟩) hS1 ?_
  case yp22 =>
    intro w' hS
    (clear hS)
    go_simp
    try with_reducible rfl
  refine wpAnyH_ready (rs := [3]) (by kernel_rfl) (by simp) ?_
  refine AllReadyH.cons rfl (fun K' hK' => ?_) AllReadyH.nil
  rw [if_pos (by rfl)]
  go_simp
  refine hK'.out _ _ ⟨bG1, hBf⟩ fun hS2 => ?_
  refine wpAnyH_take (i := 5) (v := ?vp35) rfl (by kernel_rfl) (by kernel_rfl) (by kernel_rfl) (fun _ _ _ h => h) (.inl ⟨by rfl, ?yp35⟩) hS2 ?_
  case yp35 =>
    intro w' hS
    (clear hS)
    go_simp
    try with_reducible rfl
  have bC1 := bC.later hb1
  have k0 := bC1.c0
  have k1 := bC1.c1
  have k2 := bC1.c2
  have f0 := bC1.frozen 0
  have f1 := bC1.frozen 1
  have f2 := bC1.frozen 2
  have hBF := ((hBf.setCell (p := ⟨w.heap.size + 1, 0, none⟩) (by simp) (.slice a n cap)).setCell (p := ⟨w.heap.size + 1, 1, none⟩) (by simp) (.func (.func 145) #[] #[])).setCell (p := ⟨w.heap.size + 1, 2, none⟩) (by simp) (.int .i64 x)
  have hE := Cut3.stored3 bC1 (.slice a n cap) (.func (.func 145) #[] #[]) x
  have bG2 := ((bG1.kept (grownBy_setCell2 w1 (w.heap.size + 1) 0 (.slice a n cap)) (by simp)).kept (grownBy_setCell2 _ (w.heap.size + 1) 1 (.func (.func 145) #[] #[])) (by simp)).kept (grownBy_setCell2 _ (w.heap.size + 1) 2 (.int .i64 x)) (by simp)
  refine wpAnyH_ready (rs := [6]) (by kernel_rfl) (by simp) ?_
  refine AllReadyH.cons rfl (fun K' hK' => ?_) AllReadyH.nil
  rw [if_pos (by rfl)]
  go_simp
  obtain ⟨W5, hW5⟩ : ∃ W5, ((w1.setCell ⟨w.heap.size + 1, 0, none⟩ (.slice a n cap)).setCell ⟨w.heap.size + 1, 1, none⟩ (.func (.func 145) #[] #[])).setCell ⟨w.heap.size + 1, 2, none⟩ (.int .i64 x) = W5 := ⟨_, rfl⟩
  rw [hW5] at hBF hE bG2
  try rw [hW5]
  refine hK'.out _ _ ⟨bG2, hBF⟩ fun hS3 => ?_
  refine wpAnyH_done (by kernel_rfl) ?_ _
  have e0 := hE.c0
  have e1 := hE.c1
  have e2 := hE.c2
  clear hS0 hS1 hS2 hS3 hK' k0 k1 k2 f0 f1 f2 bC1 bG1 bG2 hW5 hE
  go_wp2
  exact bodyPost_ret (v := .agg #[.slice a n cap, .func (.func 145) #[] #[], .int .i64 x]) (by simp [results, Try.results97, go_sem, e0, e1, e2]) rfl ⟨rfl, hBF⟩

end Go.Proofs.Ytogpkaeodgokgaa
