/-
  The program's search for lasting states: keep, keeping, lasts.
  Conditions: states of tasks.
-/
import Derived.Test.YtieobjoijalijaaKnow
namespace Go.Proofs.Ytieobjoijalijaa
open Go.RowKit Go.Shelf Go.Maps
attribute [local go_sem] Oper.semAt_some

theorem grown_of_below {w w' : World} {row : Option Nat} (h : Below w.heap.size w w') : w.grownBy w' row := ⟨h.os, h.tape, h.output, h.size, fun k hk _ => h.block k hk⟩
/-- what the search hands back -/
def LastPost (gs : List Int) (m B : Nat) (K : Known) (st : List Int) (w : World) (e : Ending) (w' : World) : Prop :=
  ∃ r K', e = .returned (.bool r) ∧ KMap w' gs m B K' ∧ KDone gs K st r K' ∧ w.grownBy w' (some m)
/-- what keep hands back -/
def KeepPost (gs : List Int) (m B : Nat) (K : Known) (st : List Int) (c : Int) (w : World) (e : Ending) (w' : World) : Prop :=
  w.grownBy w' (some m) ∧ ((¬ Opn st c ∧ e = .returned (.tuple #[arrV [], .bool false]) ∧ KMap w' gs m B K) ∨
    (Opn st c ∧ ∃ r K', e = .returned (.tuple #[arrV (stepL gs st c), .bool r]) ∧ KMap w' gs m B K' ∧ KDone gs K (stepL gs st c) r K'))

theorem grown_drew (W : World) (row : Option Nat) : W.grownBy W.drew row := ⟨rfl, rfl, rfl, Nat.le_refl _, fun _ _ _ => rfl⟩
theorem outl_ne {w : World} {bO m B : Nat} {gs : List Int} {K : Known} (hO : Outl w bO gs m) (hM : KMap w gs m B K) : bO ≠ m := by
  rintro rfl
  obtain ⟨n, D, ⟨es, cl, h, _⟩, _⟩ := hM
  rw [show w.heap[bO]? = _ from hO] at h
  cases h
theorem Outl.grown {w w' : World} {bO m B : Nat} {gs : List Int} {K : Known} (hO : Outl w bO gs m) (hM : KMap w gs m B K) (hg : w.grownBy w' (some m)) : Outl w' bO gs m :=
  hO.kept hg (fun e => outl_ne hO hM (by simpa using e))

set_option maxRecDepth 100000 in
set_option maxHeartbeats 8000000 in
theorem keep_of (bO m B : Nat) (gs st : List Int) (c : Int) (K : Known) (w : World) (hO : Outl w bO gs m) (hM : KMap w gs m B K) (ht : tasksOk gs = true) (hs : IsSt gs st)
    (hl : Opn st c → ∀ w', Outl w' bO gs m → KMap w' gs m B K → Calls Try.prog 160 #[.pointer (some ⟨bO, 0, none⟩), arrV (stepL gs st c)] w' (LastPost gs m B K (stepL gs st c) w')) :
    Calls Try.prog 178 #[.pointer (some ⟨bO, 0, none⟩), arrV st, .int .i64 c] w (KeepPost gs m B K st c w) := by
  have hg0 : w.grownBy ((w.alloc (.cells #[.int .u8 (nth st 0), .int .u8 (nth st 1), .int .u8 (nth st 2), .int .u8 (nth st 3), .int .u8 (nth st 4), .int .u8 (nth st 5), .int .u8 (nth st 6), .int .u8 (nth st 7)] 126)).alloc (.cells #[.int .u8 0, .int .u8 0, .int .u8 0, .int .u8 0, .int .u8 0, .int .u8 0, .int .u8 0, .int .u8 0] 126)) (some m) := (World.grownBy_alloc _ _ _).trans (World.grownBy_alloc _ _ _)
  have hO0 : Outl ((w.alloc (.cells #[.int .u8 (nth st 0), .int .u8 (nth st 1), .int .u8 (nth st 2), .int .u8 (nth st 3), .int .u8 (nth st 4), .int .u8 (nth st 5), .int .u8 (nth st 6), .int .u8 (nth st 7)] 126)).alloc (.cells #[.int .u8 0, .int .u8 0, .int .u8 0, .int .u8 0, .int .u8 0, .int .u8 0, .int .u8 0, .int .u8 0] 126)) bO gs m := hO.grown hM hg0
  have hM0 : KMap ((w.alloc (.cells #[.int .u8 (nth st 0), .int .u8 (nth st 1), .int .u8 (nth st 2), .int .u8 (nth st 3), .int .u8 (nth st 4), .int .u8 (nth st 5), .int .u8 (nth st 6), .int .u8 (nth st 7)] 126)).alloc (.cells #[.int .u8 0, .int .u8 0, .int .u8 0, .int .u8 0, .int .u8 0, .int .u8 0, .int .u8 0, .int .u8 0] 126)) gs m B K := (hM.kept (World.grownBy_alloc _ _ none) (by simp)).kept (World.grownBy_alloc _ _ none) (by simp)
  have hR0 : Arr ((w.alloc (.cells #[.int .u8 (nth st 0), .int .u8 (nth st 1), .int .u8 (nth st 2), .int .u8 (nth st 3), .int .u8 (nth st 4), .int .u8 (nth st 5), .int .u8 (nth st 6), .int .u8 (nth st 7)] 126)).alloc (.cells #[.int .u8 0, .int .u8 0, .int .u8 0, .int .u8 0, .int .u8 0, .int .u8 0, .int .u8 0, .int .u8 0] 126)) (w.heap.size + 1) [] := (by simpa using Arr.new (w.alloc (.cells (cells8 st) 126)) [] : Arr ((w.alloc (.cells (cells8 st) 126)).alloc (.cells (cells8 []) 126)) (w.heap.size + 1) [])
  have hml := hM.lt
  refine (callsIn_wide (n := 9)).1 ?_
  simp only [arrV, cells8]
  refine callsIn_of_wp_marks Try.func178 rfl trivial ?_ rfl
  simp only [Try.ntmps178, List.size_toArray, List.length_cons, List.length_nil, Nat.reduceAdd, Nat.reduceSub, Array.replicate_succ, Array.replicate_zero, List.push_toArray, List.append_toArray, List.nil_append, List.cons_append]
  gi_wp2_with fail
  refine ⟨trivial, (callsIn_wide.2 (step_c bO m gs st c _ hO0 ht hs)).mono ?_⟩
  rintro e w1 ⟨⟨hop, rfl⟩ | ⟨hop, rfl⟩, hb⟩
  · have hsz0 : w.heap.size + 2 ≤ w1.heap.size := by have := hb.size; simp at this; omega
    have hO1 := hO0.later hb
    have hM1 := hM0.below hb hM0.lt
    have hR1 := hR0.later hb
    have hg1 := hg0.trans (grown_of_below (row := some m) hb)
    have hl' := hl hop
    simp only [arrV, cells8] at hl' ⊢
    clear hb hO0 hM0 hR0 hl
    have hfw : Try.prog.follows Departure.mixedOrders = true := by kernel_rfl
    have hne : w.heap.size + 1 ≠ m := by omega
    gi_wp2_with fail
    obtain ⟨ys, hys⟩ : ∃ ys, stepL gs st c = ys := ⟨_, rfl⟩
    have hWb : Arr (w1.alloc (.cells #[.int .u8 (nth ys 0), .int .u8 (nth ys 1), .int .u8 (nth ys 2), .int .u8 (nth ys 3), .int .u8 (nth ys 4), .int .u8 (nth ys 5), .int .u8 (nth ys 6), .int .u8 (nth ys 7)] 126)).drew w1.heap.size ys := Arr.new w1 ys
    have hgn : w1.grownBy (w1.alloc (.cells #[.int .u8 (nth ys 0), .int .u8 (nth ys 1), .int .u8 (nth ys 2), .int .u8 (nth ys 3), .int .u8 (nth ys 4), .int .u8 (nth ys 5), .int .u8 (nth ys 6), .int .u8 (nth ys 7)] 126)).drew none := (World.grownBy_alloc w1 _ none).trans (grown_drew _ none)
    have hgm : w1.grownBy (w1.alloc (.cells #[.int .u8 (nth ys 0), .int .u8 (nth ys 1), .int .u8 (nth ys 2), .int .u8 (nth ys 3), .int .u8 (nth ys 4), .int .u8 (nth ys 5), .int .u8 (nth ys 6), .int .u8 (nth ys 7)] 126)).drew (some m) := (World.grownBy_alloc w1 _ _).trans (grown_drew _ _)
    have hOd : Outl (w1.alloc (.cells #[.int .u8 (nth ys 0), .int .u8 (nth ys 1), .int .u8 (nth ys 2), .int .u8 (nth ys 3), .int .u8 (nth ys 4), .int .u8 (nth ys 5), .int .u8 (nth ys 6), .int .u8 (nth ys 7)] 126)).drew bO gs m := hO1.kept hgn (by simp)
    have hMd : KMap (w1.alloc (.cells #[.int .u8 (nth ys 0), .int .u8 (nth ys 1), .int .u8 (nth ys 2), .int .u8 (nth ys 3), .int .u8 (nth ys 4), .int .u8 (nth ys 5), .int .u8 (nth ys 6), .int .u8 (nth ys 7)] 126)).drew gs m B K := hM1.kept hgn (by simp)
    have hRd : Arr (w1.alloc (.cells #[.int .u8 (nth ys 0), .int .u8 (nth ys 1), .int .u8 (nth ys 2), .int .u8 (nth ys 3), .int .u8 (nth ys 4), .int .u8 (nth ys 5), .int .u8 (nth ys 6), .int .u8 (nth ys 7)] 126)).drew (w.heap.size + 1) [] := hR1.alloc _
    have hgd : w.grownBy (w1.alloc (.cells #[.int .u8 (nth ys 0), .int .u8 (nth ys 1), .int .u8 (nth ys 2), .int .u8 (nth ys 3), .int .u8 (nth ys 4), .int .u8 (nth ys 5), .int .u8 (nth ys 6), .int .u8 (nth ys 7)] 126)).drew (some m) := hg1.trans hgm
    clear hgn hgm
    rw [hys] at hl' ⊢
    obtain ⟨Wd, hWd⟩ : ∃ Wd, (w1.alloc (.cells #[.int .u8 (nth ys 0), .int .u8 (nth ys 1), .int .u8 (nth ys 2), .int .u8 (nth ys 3), .int .u8 (nth ys 4), .int .u8 (nth ys 5), .int .u8 (nth ys 6), .int .u8 (nth ys 7)] 126)).drew = Wd := ⟨_, rfl⟩
    rw [hWd] at hWb hOd hMd hRd hgd
    have hsz1 : w.heap.size + 2 ≤ w1.heap.size := hsz0
    refine wpIn_wide.2 (wp_region_noPanic (wp_region_held_drew (S := fun w' => Arr w' w1.heap.size ys) hfw (by rw [hWd]; exact hWb) ?_))
    rw [hWd]
    clear hWd
    intro hS0
    refine wpAnyH_take (i := 0) (v := ?v0) rfl (by kernel_rfl) (by kernel_rfl) (by kernel_rfl) (fun _ _ _ h => h) (.inl ⟨by rfl, ?y0⟩) hS0 ?_
    case y0 =>
      intro w' hS
      (have k0 := hS.cell (i := 0) (by omega); have k1 := hS.cell (i := 1) (by omega); have k2 := hS.cell (i := 2) (by omega); have k3 := hS.cell (i := 3) (by omega); have k4 := hS.cell (i := 4) (by omega); have k5 := hS.cell (i := 5) (by omega); have k6 := hS.cell (i := 6) (by omega); have k7 := hS.cell (i := 7) (by omega); clear hS)
      go_simp
      try with_reducible rfl
    refine wpAnyH_take (i := 1) (v := ?v1) rfl (by kernel_rfl) (by kernel_rfl) (by kernel_rfl) (fun _ _ _ h => h) (.inl ⟨by rfl, ?y1⟩) hS0 ?_
    case y1 =>
      intro w' hS
      (have k0 := hS.cell (i := 0) (by omega); have k1 := hS.cell (i := 1) (by omega); have k2 := hS.cell (i := 2) (by omega); have k3 := hS.cell (i := 3) (by omega); have k4 := hS.cell (i := 4) (by omega); have k5 := hS.cell (i := 5) (by omega); have k6 := hS.cell (i := 6) (by omega); have k7 := hS.cell (i := 7) (by omega); clear hS)
      go_simp
      try with_reducible rfl
    refine wpAnyH_take (i := 2) (v := ?v2) rfl (by kernel_rfl) (by kernel_rfl) (by kernel_rfl) (fun _ _ _ h => h) (.inl ⟨by rfl, ?y2⟩) hS0 ?_
    case y2 =>
      intro w' hS
      (have k0 := hS.cell (i := 0) (by omega); have k1 := hS.cell (i := 1) (by omega); have k2 := hS.cell (i := 2) (by omega); have k3 := hS.cell (i := 3) (by omega); have k4 := hS.cell (i := 4) (by omega); have k5 := hS.cell (i := 5) (by omega); have k6 := hS.cell (i := 6) (by omega); have k7 := hS.cell (i := 7) (by omega); clear hS)
      go_simp
      try with_reducible rfl
    refine wpAnyH_take (i := 3) (v := ?v3) rfl (by kernel_rfl) (by kernel_rfl) (by kernel_rfl) (fun _ _ _ h => h) (.inl ⟨by rfl, ?y3⟩) hS0 ?_
    case y3 =>
      intro w' hS
      (have k0 := hS.cell (i := 0) (by omega); have k1 := hS.cell (i := 1) (by omega); have k2 := hS.cell (i := 2) (by omega); have k3 := hS.cell (i := 3) (by omega); have k4 := hS.cell (i := 4) (by omega); have k5 := hS.cell (i := 5) (by omega); have k6 := hS.cell (i := 6) (by omega); have k7 := hS.cell (i := 7) (by omega); clear hS)
      go_simp
      try with_reducible rfl
    refine wpAnyH_take (i := 4) (v := ?v4) rfl (by kernel_rfl) (by kernel_rfl) (by kernel_rfl) (fun _ _ _ h => h) (.inl ⟨by rfl, ?y4⟩) hS0 ?_
    case y4 =>
      intro w' hS
      (have k0 := hS.cell (i := 0) (by omega); have k1 := hS.cell (i := 1) (by omega); have k2 := hS.cell (i := 2) (by omega); have k3 := hS.cell (i := 3) (by omega); have k4 := hS.cell (i := 4) (by omega); have k5 := hS.cell (i := 5) (by omega); have k6 := hS.cell (i := 6) (by omega); have k7 := hS.cell (i := 7) (by omega); clear hS)
      go_simp
      try with_reducible rfl
    refine wpAnyH_ready (rs := [5]) (by kernel_rfl) (by simp) ?_
    refine AllReadyH.cons rfl (fun K' hK' => ?_) AllReadyH.nil
    · rw [if_pos (by rfl)]
      go_simp
      refine (hl' Wd hOd hMd).mono ?_
      rintro e w3 ⟨r, K3, rfl, hM3, hd3, hg3⟩
      have hb3 : Arr w3 w1.heap.size ys := hWb.kept hg3 (by simp; omega)
      have hR3 : Arr w3 (w.heap.size + 1) [] := hRd.kept hg3 (by simp; omega)
      have hgw := hgd.trans hg3
      refine hK'.out _ _ hb3 fun hS1 => ?_
      refine wpAnyH_take (i := 6) (v := ?vz6) rfl (by kernel_rfl) (by kernel_rfl) (by kernel_rfl) (fun _ _ _ h => h) (.inl ⟨by rfl, ?yz6⟩) hS1 ?_
      case yz6 =>
        intro w' hS
        (clear hS)
        go_simp
        try with_reducible rfl
      refine wpAnyH_ready (rs := [7]) (by kernel_rfl) (by simp) ?_
      refine AllReadyH.cons rfl (fun K' hK' => ?_) AllReadyH.nil
      rw [if_pos (by rfl)]
      have cR0 := hR3.cell (i := 0) (by omega)
      have cR1 := hR3.cell (i := 1) (by omega)
      have cR2 := hR3.cell (i := 2) (by omega)
      have cR3 := hR3.cell (i := 3) (by omega)
      have cR4 := hR3.cell (i := 4) (by omega)
      have cR5 := hR3.cell (i := 5) (by omega)
      have cR6 := hR3.cell (i := 6) (by omega)
      have cR7 := hR3.cell (i := 7) (by omega)
      have fR0 := hR3.frozen 0
      have fR1 := hR3.frozen 1
      have fR2 := hR3.frozen 2
      have fR3 := hR3.frozen 3
      have fR4 := hR3.frozen 4
      have fR5 := hR3.frozen 5
      have fR6 := hR3.frozen 6
      have fR7 := hR3.frozen 7
      go_simp
      obtain ⟨Wf, hWf⟩ : ∃ Wf, ((((((((w3.setCell ⟨w.heap.size + 1, 0, none⟩ (.int .u8 (nth ys 0))).setCell ⟨w.heap.size + 1, 1, none⟩ (.int .u8 (nth ys 1))).setCell ⟨w.heap.size + 1, 2, none⟩ (.int .u8 (nth ys 2))).setCell ⟨w.heap.size + 1, 3, none⟩ (.int .u8 (nth ys 3))).setCell ⟨w.heap.size + 1, 4, none⟩ (.int .u8 (nth ys 4))).setCell ⟨w.heap.size + 1, 5, none⟩ (.int .u8 (nth ys 5))).setCell ⟨w.heap.size + 1, 6, none⟩ (.int .u8 (nth ys 6))).setCell ⟨w.heap.size + 1, 7, none⟩ (.int .u8 (nth ys 7))) = Wf := ⟨_, rfl⟩
      have hE : store8 w3 (w.heap.size + 1) ys = Wf := hWf
      rw [hWf]
      clear hWf
      have bR2 : Arr Wf (w.heap.size + 1) ys := by rw [← hE]; exact Arr.stored8 ys hR3
      have hgf := grownBy_set8 w3 (w.heap.size + 1) ys
      rw [hE] at hgf
      have hMf := hM3.kept hgf (by simp; omega)
      have hbf : Arr Wf w1.heap.size ys := hb3.kept hgf (by simp; omega)
      have hgw2 : w.grownBy Wf (some m) := ⟨hgf.os.trans hgw.os, hgf.tape.trans hgw.tape, hgf.output.trans hgw.output, Nat.le_trans hgw.size hgf.size, fun k hk hne => (hgf.block k (Nat.lt_of_lt_of_le hk hgw.size) (by simp; omega)).trans (hgw.block k hk hne)⟩
      clear hE
      clear cR0 cR1 cR2 cR3 cR4 cR5 cR6 cR7 fR0 fR1 fR2 fR3 fR4 fR5 fR6 fR7
      refine hK'.out _ _ hbf fun hS2 => ?_
      refine wpAnyH_take (i := 8) (v := ?vz8) rfl (by kernel_rfl) (by kernel_rfl) (by kernel_rfl) (fun _ _ _ h => h) (.inl ⟨by rfl, ?yz8⟩) hS2 ?_
      case yz8 =>
        intro w' hS
        (clear hS)
        go_simp
        try with_reducible rfl
      refine wpAnyH_done (by kernel_rfl) (NoPanic.normal ?_) _
      gi_wp2
      have cR0 := bR2.cell (i := 0) (by omega)
      have cR1 := bR2.cell (i := 1) (by omega)
      have cR2 := bR2.cell (i := 2) (by omega)
      have cR3 := bR2.cell (i := 3) (by omega)
      have cR4 := bR2.cell (i := 4) (by omega)
      have cR5 := bR2.cell (i := 5) (by omega)
      have cR6 := bR2.cell (i := 6) (by omega)
      have cR7 := bR2.cell (i := 7) (by omega)
      refine retM0 ⟨.tuple #[arrV ys, .bool r], by simp [results, Try.f178, go_sem, cR0, cR1, cR2, cR3, cR4, cR5, cR6, cR7]; rfl, hgw2, .inr ⟨hop, r, K3, by rw [hys], hMf, by rw [hys]; exact hd3⟩⟩
  · have hsz1 : w.heap.size + 2 ≤ w1.heap.size := by have := hb.size; simp at this; omega
    have hM1 := hM0.below hb hM0.lt
    have hR1 := hR0.later hb
    have hg1 := hg0.trans (grown_of_below (row := some m) hb)
    simp only [arrV, cells8]
    clear hb hO0 hM0 hR0 hl
    have hfw : Try.prog.follows Departure.mixedOrders = true := by kernel_rfl
    have hne : w.heap.size + 1 ≠ m := by omega
    gi_wp2_with fail
    obtain ⟨ys, hys⟩ : ∃ ys : List Int, [] = ys := ⟨_, rfl⟩
    have hWb : Arr (w1.alloc (.cells #[.int .u8 (nth ys 0), .int .u8 (nth ys 1), .int .u8 (nth ys 2), .int .u8 (nth ys 3), .int .u8 (nth ys 4), .int .u8 (nth ys 5), .int .u8 (nth ys 6), .int .u8 (nth ys 7)] 126)).drew w1.heap.size ys := Arr.new w1 ys
    have hgn : w1.grownBy (w1.alloc (.cells #[.int .u8 (nth ys 0), .int .u8 (nth ys 1), .int .u8 (nth ys 2), .int .u8 (nth ys 3), .int .u8 (nth ys 4), .int .u8 (nth ys 5), .int .u8 (nth ys 6), .int .u8 (nth ys 7)] 126)).drew none := (World.grownBy_alloc w1 _ none).trans (grown_drew _ none)
    have hgm : w1.grownBy (w1.alloc (.cells #[.int .u8 (nth ys 0), .int .u8 (nth ys 1), .int .u8 (nth ys 2), .int .u8 (nth ys 3), .int .u8 (nth ys 4), .int .u8 (nth ys 5), .int .u8 (nth ys 6), .int .u8 (nth ys 7)] 126)).drew (some m) := (World.grownBy_alloc w1 _ _).trans (grown_drew _ _)
    have hMd : KMap (w1.alloc (.cells #[.int .u8 (nth ys 0), .int .u8 (nth ys 1), .int .u8 (nth ys 2), .int .u8 (nth ys 3), .int .u8 (nth ys 4), .int .u8 (nth ys 5), .int .u8 (nth ys 6), .int .u8 (nth ys 7)] 126)).drew gs m B K := hM1.kept hgn (by simp)
    have hRd : Arr (w1.alloc (.cells #[.int .u8 (nth ys 0), .int .u8 (nth ys 1), .int .u8 (nth ys 2), .int .u8 (nth ys 3), .int .u8 (nth ys 4), .int .u8 (nth ys 5), .int .u8 (nth ys 6), .int .u8 (nth ys 7)] 126)).drew (w.heap.size + 1) [] := hR1.alloc _
    have hgw : w.grownBy (w1.alloc (.cells #[.int .u8 (nth ys 0), .int .u8 (nth ys 1), .int .u8 (nth ys 2), .int .u8 (nth ys 3), .int .u8 (nth ys 4), .int .u8 (nth ys 5), .int .u8 (nth ys 6), .int .u8 (nth ys 7)] 126)).drew (some m) := hg1.trans hgm
    clear hgn hgm
    rw [hys]
    obtain ⟨w3, hWd⟩ : ∃ w3, (w1.alloc (.cells #[.int .u8 (nth ys 0), .int .u8 (nth ys 1), .int .u8 (nth ys 2), .int .u8 (nth ys 3), .int .u8 (nth ys 4), .int .u8 (nth ys 5), .int .u8 (nth ys 6), .int .u8 (nth ys 7)] 126)).drew = w3 := ⟨_, rfl⟩
    rw [hWd] at hWb hMd hRd hgw
    refine wpIn_wide.2 (wp_region_noPanic (wp_region_held_drew (S := fun w' => Arr w' w1.heap.size ys) hfw (by rw [hWd]; exact hWb) ?_))
    rw [hWd]
    clear hWd
    intro hS0
    refine wpAnyH_take (i := 0) (v := ?vy0) rfl (by kernel_rfl) (by kernel_rfl) (by kernel_rfl) (fun _ _ _ h => h) (.inl ⟨by rfl, ?yy0⟩) hS0 ?_
    case yy0 =>
      intro w' hS
      (have k0 := hS.cell (i := 0) (by omega); have k1 := hS.cell (i := 1) (by omega); have k2 := hS.cell (i := 2) (by omega); have k3 := hS.cell (i := 3) (by omega); have k4 := hS.cell (i := 4) (by omega); have k5 := hS.cell (i := 5) (by omega); have k6 := hS.cell (i := 6) (by omega); have k7 := hS.cell (i := 7) (by omega); clear hS)
      go_simp
      try with_reducible rfl
    refine wpAnyH_take (i := 1) (v := ?vy1) rfl (by kernel_rfl) (by kernel_rfl) (by kernel_rfl) (fun _ _ _ h => h) (.inl ⟨by rfl, ?yy1⟩) hS0 ?_
    case yy1 =>
      intro w' hS
      (have k0 := hS.cell (i := 0) (by omega); have k1 := hS.cell (i := 1) (by omega); have k2 := hS.cell (i := 2) (by omega); have k3 := hS.cell (i := 3) (by omega); have k4 := hS.cell (i := 4) (by omega); have k5 := hS.cell (i := 5) (by omega); have k6 := hS.cell (i := 6) (by omega); have k7 := hS.cell (i := 7) (by omega); clear hS)
      go_simp
      try with_reducible rfl
    refine wpAnyH_take (i := 2) (v := ?vy2) rfl (by kernel_rfl) (by kernel_rfl) (by kernel_rfl) (fun _ _ _ h => h) (.inl ⟨by rfl, ?yy2⟩) hS0 ?_
    case yy2 =>
      intro w' hS
      (have k0 := hS.cell (i := 0) (by omega); have k1 := hS.cell (i := 1) (by omega); have k2 := hS.cell (i := 2) (by omega); have k3 := hS.cell (i := 3) (by omega); have k4 := hS.cell (i := 4) (by omega); have k5 := hS.cell (i := 5) (by omega); have k6 := hS.cell (i := 6) (by omega); have k7 := hS.cell (i := 7) (by omega); clear hS)
      go_simp
      try with_reducible rfl
    refine wpAnyH_take (i := 3) (v := undef) rfl (by kernel_rfl) (by kernel_rfl) (by kernel_rfl) (fun _ _ _ h => h) (.inr ⟨by rfl, rfl⟩) hS0 ?_
    refine wpAnyH_take (i := 4) (v := undef) rfl (by kernel_rfl) (by kernel_rfl) (by kernel_rfl) (fun _ _ _ h => h) (.inr ⟨by rfl, rfl⟩) hS0 ?_
    refine wpAnyH_take (i := 5) (v := undef) rfl (by kernel_rfl) (by kernel_rfl) (by kernel_rfl) (fun _ _ _ h => h) (.inr ⟨by rfl, rfl⟩) hS0 ?_
    refine wpAnyH_take (i := 6) (v := ?vy6) rfl (by kernel_rfl) (by kernel_rfl) (by kernel_rfl) (fun _ _ _ h => h) (.inl ⟨by rfl, ?yy6⟩) hS0 ?_
    case yy6 =>
      intro w' hS
      (clear hS)
      go_simp
      try with_reducible rfl
    refine wpAnyH_ready (rs := [7]) (by kernel_rfl) (by simp) ?_
    refine AllReadyH.cons rfl (fun K' hK' => ?_) AllReadyH.nil
    rw [if_pos (by rfl)]
    have cR0 := hRd.cell (i := 0) (by omega)
    have cR1 := hRd.cell (i := 1) (by omega)
    have cR2 := hRd.cell (i := 2) (by omega)
    have cR3 := hRd.cell (i := 3) (by omega)
    have cR4 := hRd.cell (i := 4) (by omega)
    have cR5 := hRd.cell (i := 5) (by omega)
    have cR6 := hRd.cell (i := 6) (by omega)
    have cR7 := hRd.cell (i := 7) (by omega)
    have fR0 := hRd.frozen 0
    have fR1 := hRd.frozen 1
    have fR2 := hRd.frozen 2
    have fR3 := hRd.frozen 3
    have fR4 := hRd.frozen 4
    have fR5 := hRd.frozen 5
    have fR6 := hRd.frozen 6
    have fR7 := hRd.frozen 7
    go_simp
    obtain ⟨Wf, hWf⟩ : ∃ Wf, ((((((((w3.setCell ⟨w.heap.size + 1, 0, none⟩ (.int .u8 (nth ys 0))).setCell ⟨w.heap.size + 1, 1, none⟩ (.int .u8 (nth ys 1))).setCell ⟨w.heap.size + 1, 2, none⟩ (.int .u8 (nth ys 2))).setCell ⟨w.heap.size + 1, 3, none⟩ (.int .u8 (nth ys 3))).setCell ⟨w.heap.size + 1, 4, none⟩ (.int .u8 (nth ys 4))).setCell ⟨w.heap.size + 1, 5, none⟩ (.int .u8 (nth ys 5))).setCell ⟨w.heap.size + 1, 6, none⟩ (.int .u8 (nth ys 6))).setCell ⟨w.heap.size + 1, 7, none⟩ (.int .u8 (nth ys 7))) = Wf := ⟨_, rfl⟩
    have hE : store8 w3 (w.heap.size + 1) ys = Wf := hWf
    rw [hWf]
    clear hWf
    have bR2 : Arr Wf (w.heap.size + 1) ys := by rw [← hE]; exact Arr.stored8 ys hRd
    have hgf := grownBy_set8 w3 (w.heap.size + 1) ys
    rw [hE] at hgf
    have hMf := hMd.kept hgf (by simp; omega)
    have hbf : Arr Wf w1.heap.size ys := hWb.kept hgf (by simp; omega)
    have hgw2 : w.grownBy Wf (some m) := ⟨hgf.os.trans hgw.os, hgf.tape.trans hgw.tape, hgf.output.trans hgw.output, Nat.le_trans hgw.size hgf.size, fun k hk hne => (hgf.block k (Nat.lt_of_lt_of_le hk hgw.size) (by simp; omega)).trans (hgw.block k hk hne)⟩
    clear hE
    clear cR0 cR1 cR2 cR3 cR4 cR5 cR6 cR7 fR0 fR1 fR2 fR3 fR4 fR5 fR6 fR7
    refine hK'.out _ _ hbf fun hS2 => ?_
    refine wpAnyH_take (i := 8) (v := ?vy8) rfl (by kernel_rfl) (by kernel_rfl) (by kernel_rfl) (fun _ _ _ h => h) (.inl ⟨by rfl, ?yy8⟩) hS2 ?_
    case yy8 =>
      intro w' hS
      (clear hS)
      go_simp
      try with_reducible rfl
    refine wpAnyH_done (by kernel_rfl) (NoPanic.normal ?_) _
    gi_wp2
    have cR0 := bR2.cell (i := 0) (by omega)
    have cR1 := bR2.cell (i := 1) (by omega)
    have cR2 := bR2.cell (i := 2) (by omega)
    have cR3 := bR2.cell (i := 3) (by omega)
    have cR4 := bR2.cell (i := 4) (by omega)
    have cR5 := bR2.cell (i := 5) (by omega)
    have cR6 := bR2.cell (i := 6) (by omega)
    have cR7 := bR2.cell (i := 7) (by omega)
    refine retM0 ⟨.tuple #[arrV ys, .bool false], by simp [results, Try.f178, go_sem, cR0, cR1, cR2, cR3, cR4, cR5, cR6, cR7]; rfl, hgw2, .inl ⟨hop, by rw [hys], hMf⟩⟩

end Go.Proofs.Ytieobjoijalijaa
