/-
  The laws' helpers for grounds: a ground as an argument, toGround, eqGround.
  Conditions: none.
-/
import Derived.Test.YtgndbifcncklgaaGnd
namespace Go.Proofs.Ytgndbifcncklgaa
open Go.RowKit Go.Shelf
attribute [local go_sem] Oper.semAt_some

theorem box2_marked {lo hi : Nat} {W W' : World} {b : Nat} {t : TypeId} {x y u : Value} {zs : List Int} (h : Box2 W b t x y) (hs : Seg lo hi W u zs) (hg : W.grownBy W' u.ownBlock) (hb : b < lo ∨ hi ≤ b) : Box2 W' b t x y :=
  h.kept hg (fun e => by have h1 := hs.top b e.symm; have h2 := (hs.own.blk b e.symm).1; omega)

/-! ### opening an argument -/
section
open Go.ChangeShapes Go.WideShapes Go.ChangeAt Go.Joins
variable {H : Type} {enc : TypeId × Value → H} {P : Program}
theorem open_ground {w : World} {base : Nat} {spare : Nat → Bool} {held : Bool} {r : Reach} {b0 : Nat} {t ti : TypeId} {f0 f1 : Field} {v : Value} {d : DataW H} {p : List MemPlace} (hs : P.underlying t = some (.struct #[f0, f1])) (ho0 : f0.offset = 0) (ho1 : f1.offset = 1)
    (ht0 : f0.type = ti) (ht1 : f1.type = ti) (hi : P.underlying ti = some (.int .i64)) (hk : P.cellsOf ti = 1) (hC : P.cellsOf t = 2) (hv : Value.okWide P w r b0 t v) (h : DataW.Trod enc P w base spare held t v d p) :
    ∃ (x y : Int), v = .agg #[.int .i64 x, .int .i64 y] ∧ (∃ d', d = d') ∧ p = [] ∧ I64 x ∧ I64 y := by
  obtain ⟨cs, rfl, hsz⟩ := okWide_struct hs hv
  obtain ⟨c0, c1, rfl⟩ : ∃ c0 c1, cs = #[c0, c1] := by
    have h1 : cs.size = 2 := hsz.trans hC
    obtain ⟨l⟩ := cs
    match l, h1 with
    | [c0, c1], _ => exact ⟨c0, c1, rfl⟩
  obtain ⟨fuel, hf⟩ := h
  obtain ⟨xs, n, _, hx, hl, hlen, hg⟩ := DataW.trod_struct hs hf
  match xs, hlen with
  | [y0, y1], _ =>
    have e0 := hg 0 f0 rfl
    have e1 := hg 1 f1 rfl
    simp only [Prod.mk.injEq] at hx
    have g0 : DataW.trod enc P w base spare held n ti [c0] = some y0 := by simpa [Value.cells, ho0, ht0, hk] using e0
    have g1 : DataW.trod enc P w base spare held n ti [c1] = some y1 := by simpa [Value.cells, ho1, ht1, hk] using e1
    obtain ⟨z0, q0, r0, w0⟩ := DataW.trod_int hi g0
    obtain ⟨z1, q1, r1, w1⟩ := DataW.trod_int hi g1
    simp only [List.cons.injEq, and_true] at q0 q1
    subst q0
    subst q1
    refine ⟨z0, z1, rfl, ⟨_, rfl⟩, ?_, i64_of_wf2 w0, i64_of_wf2 w1⟩
    have := hx.2
    simp [r0, r1] at this
    exact this
end

set_option maxRecDepth 100000 in
set_option maxHeartbeats 4000000 in
theorem toGround_c (x y : Int) (w : World) :
    Calls Try.prog 18 #[.agg #[.int .i64 x, .int .i64 y]] w fun e w' => e = .returned (.agg #[.int .i64 x, .int .i64 y]) ∧ Below w.heap.size w w' := by
  obtain ⟨W, hW⟩ : ∃ W, ((w.alloc (.cells #[.int .i64 x, .int .i64 y] 23)).alloc (.cells #[.int .i64 0, .int .i64 0] 30)).alloc (.cells #[.int .i64 0, .int .i64 0] 30) = W := ⟨_, rfl⟩
  have hB : Below w.heap.size w W := by rw [← hW]; exact (((Below.refl _ w).alloc (Nat.le_refl _) _).alloc (by simp) _).alloc (by simp; omega) _
  have hs : w.heap.size + 3 ≤ W.heap.size := by rw [← hW]; simp
  have bA : Box2 W w.heap.size 23 (.int .i64 x) (.int .i64 y) := by rw [← hW]; exact ((Box2.new _ _ _ _).alloc _).alloc _
  have bR : Box2 W (w.heap.size + 1) 30 (.int .i64 0) (.int .i64 0) := by rw [← hW]; refine Box2.alloc ?_ _; exact box2_at (by simp)
  have bO : Box2 W (w.heap.size + 1 + 1) 30 (.int .i64 0) (.int .i64 0) := by rw [← hW]; exact box2_at (by simp)
  have a0 := bA.c0
  have a1 := bA.c1
  have o0 := bO.c0
  have o1 := bO.c1
  have fO0 := bO.frozen 0
  have fO1 := bO.frozen 1
  have r0 := bR.c0
  have r1 := bR.c1
  have f0 := bR.frozen 0
  have f1 := bR.frozen 1
  go_enter Try.func18, Try.ntmps18
  go_wp2
  have bO2 := (bO.set0 (.int .i64 x)).set1 (.int .i64 y)
  have bR1 : Box2 ((W.setCell ⟨w.heap.size + 1 + 1, 0, none⟩ (.int .i64 x)).setCell ⟨w.heap.size + 1 + 1, 1, none⟩ (.int .i64 y)) (w.heap.size + 1) 30 (.int .i64 0) (.int .i64 0) := (bR.other (by omega) _).other (by omega) _
  have bR2 := (bR1.set0 (.int .i64 x)).set1 (.int .i64 y)
  have q0 := bR2.c0
  have q1 := bR2.c1
  refine bodyPost_ret (v := .agg #[.int .i64 x, .int .i64 y]) (by simp [results, Try.results18, go_sem, q0, q1]) rfl ⟨rfl, ?_⟩
  exact (((hB.setCell (p := ⟨w.heap.size + 1 + 1, 0, none⟩) (by simp; omega) _).setCell (p := ⟨w.heap.size + 1 + 1, 1, none⟩) (by simp; omega) _).setCell (p := ⟨w.heap.size + 1, 0, none⟩) (by simp) _).setCell (p := ⟨w.heap.size + 1, 1, none⟩) (by simp) _

end Go.Proofs.Ytgndbifcncklgaa
