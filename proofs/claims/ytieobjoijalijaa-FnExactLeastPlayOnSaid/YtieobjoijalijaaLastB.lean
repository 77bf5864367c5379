/-
  The program's search for lasting states: the iterator of keeping choices, and the search itself.
  Conditions: states of tasks.
-/
import Derived.Test.YtieobjoijalijaaLasts
namespace Go.Proofs.Ytieobjoijalijaa
open Go.RowKit Go.Shelf Go.Maps
attribute [local go_sem] Oper.semAt_some

theorem keeping_c (bO : Nat) (st : List Int) (w : World) :
    Calls Try.prog 162 #[.pointer (some ⟨bO, 0, none⟩), arrV st] w fun e w' => e = .returned (.func (.func 177) #[] #[.pointer (some ⟨w.heap.size, 0, none⟩), .pointer (some ⟨w.heap.size + 1, 0, none⟩)]) ∧
      w' = (w.alloc (.cells #[.pointer (some ⟨bO, 0, none⟩)] 80)).alloc (.cells (cells8 st) 126) := by
  unfold arrV cells8
  go_enter Try.func162, Try.ntmps162
  go_wp2
  go_ret
  exact ⟨rfl, rfl⟩

theorem retMn0 {F : Fence} {n : Nat} {P : Program} {fn : Func} {R : Ending → World → Prop} {tmps : Array Value} {W : World}
    (h : ∃ v, (results fn tmps).run P W = .ok v W ∧ R (.returned v) W) : bodyPostM F n P fn R .normal { tmps := tmps, defers := [] } W := h

set_option maxRecDepth 100000 in
set_option maxHeartbeats 8000000 in
/-- the iterator of keeping choices, under whatever it keeps: Inv before the choice j - 1, Mid where that choice keeps the state -/
theorem keeping1_at (n l bo bs bO m : Nat) (gs st : List Int) (W : World) (hl8 : gs.length ≤ 8) (Inv : Nat → World → Prop) (Mid : Nat → List Int → World → Prop) (Jx : World → Prop)
    (hInv : ∀ j W, Inv j W → Boxed W bo 80 (.pointer (some ⟨bO, 0, none⟩)) ∧ Arr W bs st ∧ Outl W bO gs m)
    (hkeep : ∀ (j : Nat) W, j < gs.length + 1 → Inv j W → Calls Try.prog 178 #[.pointer (some ⟨bO, 0, none⟩), arrV st, .int .i64 ((j : Int) - 1)] W fun e W' =>
      ∃ b r, e = .returned (.tuple #[arrV b, .bool r]) ∧ (r = false → Inv (j + 1) W') ∧ (r = true → Mid j b W'))
    (hyield : ∀ j b W, j < gs.length + 1 → Mid j b W → YieldAt Fence.wide 9 Try.prog l #[.int .i64 ((j : Int) - 1), arrV b] W fun e W' =>
      (e = .returned (.bool true) ∧ Inv (j + 1) W') ∨ (e = .returned (.bool false) ∧ Jx W'))
    (hA : ∀ j W o, Inv j W → Inv j (W.alloc o)) (hB : ∀ j b W o, Mid j b W → Mid j b (W.alloc o)) (h0 : Inv 0 W) :
    CallsIn Fence.wide n Try.prog 177 #[.func (.yield l) #[] #[], .pointer (some ⟨bo, 0, none⟩), .pointer (some ⟨bs, 0, none⟩)] W fun e W' => (∃ v, e = .returned v) ∧ (Inv (gs.length + 1) W' ∨ Jx W') := by
  refine callsIn_wide.2 ((callsIn_wide (n := 10)).1 ?_)
  refine callsIn_of_wp_marks Try.func177 rfl trivial ?_ rfl
  simp only [Try.ntmps177, List.size_toArray, List.length_cons, List.length_nil, Nat.reduceAdd, Nat.reduceSub, Array.replicate_succ, Array.replicate_zero, List.push_toArray, List.append_toArray, List.nil_append, List.cons_append]
  gi_wp2
  gi_loopw [4] (fun c wr => ∃ j : Nat, j ≤ gs.length + 1 ∧ c = .int .i64 ((j : Int) - 1) ∧ Inv j wr) (fun c _ => gs.length + 1 - (intOf c + 1).toNat)
  case atStart => exact ⟨0, Nat.zero_le _, rfl, h0⟩
  case round =>
    obtain ⟨j, hj, rfl, hi⟩ := hrel
    obtain ⟨b1, b2, b3⟩ := hInv j wr hi
    have k1 := b1.cell
    have k3 := b3.k
    by_cases hlt : j < gs.length + 1
    · have k20 := b2.cell (i := 0) (by omega)
      have k21 := b2.cell (i := 1) (by omega)
      have k22 := b2.cell (i := 2) (by omega)
      have k23 := b2.cell (i := 3) (by omega)
      have k24 := b2.cell (i := 4) (by omega)
      have k25 := b2.cell (i := 5) (by omega)
      have k26 := b2.cell (i := 6) (by omega)
      have k27 := b2.cell (i := 7) (by omega)
      have hk := hkeep j wr hlt hi
      have hy0 := hyield j
      have hB' := hB j
      have hA' := hA (j + 1)
      clear hyield hkeep hInv hA hB h0 b1 b2 b3
      unfold arrV cells8 at hk
      gi_wp2_with fail
      refine ⟨trivial, (callsIn_wide.2 hk).mono ?_⟩
      rintro e w1 ⟨b, r, rfl, hr0, hr1⟩
      simp only
      cases r
      · have hi2 := hA' w1 (.cells #[.int .u8 (nth b 0), .int .u8 (nth b 1), .int .u8 (nth b 2), .int .u8 (nth b 3), .int .u8 (nth b 4), .int .u8 (nth b 5), .int .u8 (nth b 6), .int .u8 (nth b 7)] 126) (hr0 rfl)
        clear hr0 hr1 hy0 hB' hA'
        gi_wp2
        refine ⟨(fun f hf => by cases hf), ?_⟩
        gi_wp2
        exact ⟨⟨j + 1, by omega, by congr 1; omega, hi2⟩, by simp [intOf]; omega⟩
      · have hm := hB' b w1 (.cells #[.int .u8 (nth b 0), .int .u8 (nth b 1), .int .u8 (nth b 2), .int .u8 (nth b 3), .int .u8 (nth b 4), .int .u8 (nth b 5), .int .u8 (nth b 6), .int .u8 (nth b 7)] 126) (hr1 rfl)
        obtain ⟨fn, tmps, assign, body, hy, hR⟩ := hy0 b _ hlt hm
        unfold arrV cells8 at hy
        clear hr0 hr1 hy0 hB' hA' hm
        gi_wp2
        refine hR.mono ?_
        rintro e W3 (⟨rfl, hi2⟩ | ⟨rfl, hx⟩)
        · gi_wp2
          exact ⟨⟨j + 1, by omega, by congr 1; omega, hi2⟩, by simp [intOf]; omega⟩
        · gi_wp2
          refine retM0 ⟨_, results_none rfl _ _ _, ?_⟩
          exact ⟨⟨_, rfl⟩, .inr hx⟩
    · have hge : gs.length + 1 ≤ j := by omega
      gi_wp2
      refine retMn0 ⟨_, results_none rfl _ _ _, ?_⟩
      exact ⟨⟨_, rfl⟩, .inl ((show j = gs.length + 1 by omega) ▸ hi)⟩

end Go.Proofs.Ytieobjoijalijaa
