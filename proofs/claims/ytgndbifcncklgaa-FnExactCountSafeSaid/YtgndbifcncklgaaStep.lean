/-
  The program's outlook of tasks, and its step.
  Conditions: states of tasks.
-/
import Derived.Test.YtgndbifcncklgaaArr
namespace Go.Proofs.Ytgndbifcncklgaa
open Go.RowKit Go.Shelf
attribute [local go_sem] Oper.semAt_some

/-- the block b is an outlook: the number of the tasks, the full state, the map in the block m -/
def outC (gs : List Int) (m : Nat) : Array Value := #[.int .i64 (gs.length : Int), .int .u8 (nth gs 0), .int .u8 (nth gs 1), .int .u8 (nth gs 2), .int .u8 (nth gs 3), .int .u8 (nth gs 4), .int .u8 (nth gs 5), .int .u8 (nth gs 6), .int .u8 (nth gs 7), .map (some m)]
def Outl (W : World) (b : Nat) (gs : List Int) (m : Nat) : Prop := W.heap[b]? = some (.cells (outC gs m) 111 (0, 0))
theorem outC_at {gs : List Int} {m i : Nat} (h : i < 8) : (outC gs m)[1 + i]? = some (.int .u8 (nth gs i)) := by
  have : i = 0 ∨ i = 1 ∨ i = 2 ∨ i = 3 ∨ i = 4 ∨ i = 5 ∨ i = 6 ∨ i = 7 := by omega
  rcases this with h | h | h | h | h | h | h | h <;> subst h <;> rfl
theorem Outl.lt {W : World} {b m : Nat} {gs : List Int} (h : Outl W b gs m) : b < W.heap.size := (Array.getElem?_eq_some_iff.1 h).1
theorem Outl.k {W : World} {b m : Nat} {gs : List Int} (h : Outl W b gs m) : W.cell? ⟨b, 0, none⟩ = some (.int .i64 (gs.length : Int)) := by
  simp [World.cell?, show W.heap[b]? = _ from h, outC]
theorem Outl.full {W : World} {b m : Nat} {gs : List Int} (h : Outl W b gs m) {i : Nat} (hi : i < 8) : W.cell? ⟨b, 1 + i, none⟩ = some (.int .u8 (nth gs i)) := by
  simp [World.cell?, show W.heap[b]? = _ from h, outC_at hi]
theorem Outl.map {W : World} {b m : Nat} {gs : List Int} (h : Outl W b gs m) : W.cell? ⟨b, 9, none⟩ = some (.map (some m)) := by
  simp [World.cell?, show W.heap[b]? = _ from h, outC]
theorem Outl.kept {W W' : World} {row : Option Nat} {b m : Nat} {gs : List Int} (h : Outl W b gs m) (hg : W.grownBy W' row) (hne : some b ≠ row) : Outl W' b gs m := (hg.block b h.lt hne).trans h
theorem Outl.below {n : Nat} {W W' : World} {b m : Nat} {gs : List Int} (h : Outl W b gs m) (hb : Below n W W') (hn : b < n) : Outl W' b gs m := (hb.block b hn).trans h
theorem Outl.later {W W' : World} {b m : Nat} {gs : List Int} (h : Outl W b gs m) (hb : Below W.heap.size W W') : Outl W' b gs m := (hb.block b h.lt).trans h
theorem outl_own {β : Type} (b m : Nat) (gs : List Int) : Own (fun (_ : β) W => Outl W b gs m) := fun s X Y row hs hg hrow =>
  hs.kept hg (fun e' => by obtain ⟨o, ho, hc⟩ := hrow b e'.symm; rw [show X.heap[b]? = _ from hs] at ho; cases ho; cases hc)

/-- the state while a step is made: the numbers of the first k tasks are done -/
def stepK (gs st : List Int) (c : Int) (k : Nat) : List Int := (List.range st.length).map fun (i : Nat) => if i < k then (if (i : Int) = c then nth gs i else nth st i - 1) else nth st i
theorem nth_stepK {gs st : List Int} {c : Int} {k i : Nat} : nth (stepK gs st c k) i = if i < st.length then (if i < k then (if (i : Int) = c then nth gs i else nth st i - 1) else nth st i) else 0 := by
  by_cases h : i < st.length
  · simp [nth, stepK, h]
  · simp [nth, stepK, h]
theorem stepK_zero (gs st : List Int) (c : Int) (i : Nat) : nth (stepK gs st c 0) i = nth st i := by
  rw [nth_stepK]
  by_cases h : i < st.length
  · rw [if_pos h, if_neg (by omega)]
  · rw [if_neg h]; unfold nth; rw [List.getElem?_eq_none (by omega)]; rfl
theorem stepK_all (gs st : List Int) (c : Int) : stepK gs st c st.length = stepL gs st c := by
  refine ext_nth (by simp [stepK, stepL]) fun i hi => ?_
  have hi' : i < st.length := by simpa [stepK] using hi
  rw [nth_stepK, if_pos hi', if_pos hi', nth_stepL hi']
theorem stepK_succ {gs st : List Int} {c : Int} {k : Nat} (hk : k < st.length) (j : Nat) : nth (stepK gs st c (k + 1)) j = if j = k then (if (k : Int) = c then nth gs k else nth st k - 1) else nth (stepK gs st c k) j := by
  rw [nth_stepK, nth_stepK]
  by_cases e : j = k
  · subst e; rw [if_pos hk, if_pos (by omega), if_pos rfl]
  · rw [if_neg e]
    by_cases h : j < st.length
    · rw [if_pos h, if_pos h]
      by_cases h2 : j < k
      · rw [if_pos (by omega), if_pos h2]
      · rw [if_neg (by omega), if_neg h2]
    · rw [if_neg h, if_neg h]
theorem stepK_at {gs st : List Int} {c : Int} {k : Nat} (hk : k < st.length) : nth (stepK gs st c k) k = nth st k := by
  rw [nth_stepK, if_pos hk, if_neg (by omega)]

set_option maxRecDepth 100000 in
set_option maxHeartbeats 8000000 in
theorem step_c (bO m : Nat) (gs st : List Int) (c : Int) (w : World) (hO : Outl w bO gs m) (ht : tasksOk gs = true) (hs : IsSt gs st) :
    Calls Try.prog 129 #[.pointer (some ⟨bO, 0, none⟩), arrV st, .int .i64 c] w fun e w' =>
      ((Opn st c ∧ e = .returned (.tuple #[arrV (stepL gs st c), .bool true])) ∨ (¬ Opn st c ∧ e = .returned (.tuple #[arrV [], .bool false]))) ∧ Below w.heap.size w w' := by
  have hO2 : Outl ((w.alloc (.cells #[.int .u8 (nth st 0), .int .u8 (nth st 1), .int .u8 (nth st 2), .int .u8 (nth st 3), .int .u8 (nth st 4), .int .u8 (nth st 5), .int .u8 (nth st 6), .int .u8 (nth st 7)] 64)).alloc (.cells #[.int .u8 0, .int .u8 0, .int .u8 0, .int .u8 0, .int .u8 0, .int .u8 0, .int .u8 0, .int .u8 0] 64)) bO gs m := (hO.kept (World.grownBy_alloc _ _ none) (by simp)).kept (World.grownBy_alloc _ _ none) (by simp)
  have k0 := hO2.k
  have hl8 := tasksOk_len ht
  have hls := hs.1
  have hls1 : st.length ≤ gs.length := by omega
  have hls2 : gs.length ≤ st.length := by omega
  have hbo := hO.lt
  have hbd : ∀ i, i < gs.length → (1 ≤ nth st i ∧ nth st i ≤ 40) ∧ 1 ≤ nth gs i ∧ nth gs i ≤ 40 := fun i hi => by have h1 := hs.2 i hi; have h2 := tasksOk_nth ht hi; omega
  have Hbd := Lib.hid hbd
  clear hbd hls
  unfold arrV cells8
  refine (callsIn_wide (n := 9)).1 ?_
  refine callsIn_of_wp_marks Try.func129 rfl trivial ?_ rfl
  simp only [Try.ntmps129, List.size_toArray, List.length_cons, List.length_nil, Nat.reduceAdd, Nat.reduceSub, Array.replicate_succ, Array.replicate_zero, List.push_toArray, List.append_toArray, List.nil_append, List.cons_append]
  gi_wp2
  obtain ⟨W0, hW0⟩ : ∃ W0, (w.alloc (.cells #[.int .u8 (nth st 0), .int .u8 (nth st 1), .int .u8 (nth st 2), .int .u8 (nth st 3), .int .u8 (nth st 4), .int .u8 (nth st 5), .int .u8 (nth st 6), .int .u8 (nth st 7)] 64)).alloc (.cells #[.int .u8 0, .int .u8 0, .int .u8 0, .int .u8 0, .int .u8 0, .int .u8 0, .int .u8 0, .int .u8 0] 64) = W0 := ⟨_, rfl⟩
  have bS : Arr W0 w.heap.size st := by rw [← hW0]; exact (Arr.new w st).alloc _
  have bR : Arr W0 (w.heap.size + 1) [] := by rw [← hW0]; exact (by simpa using Arr.new (w.alloc (.cells (cells8 st) 64)) [] : Arr ((w.alloc (.cells (cells8 st) 64)).alloc (.cells (cells8 []) 64)) (w.heap.size + 1) [])
  have hB0 : Below w.heap.size w W0 := by rw [← hW0]; exact ((Below.refl _ w).alloc (Nat.le_refl _) _).alloc (by simp) _
  have hs0 : w.heap.size + 2 ≤ W0.heap.size := by rw [← hW0]; simp
  rw [hW0] at hO2 ⊢
  clear hW0 k0
  gi_loopw [13] (fun i wr => ∃ k : Nat, k ≤ st.length ∧ i = .int .i64 k ∧ Arr wr w.heap.size (stepK gs st c k) ∧ Arr wr (w.heap.size + 1) [] ∧ Outl wr bO gs m ∧ Below w.heap.size w wr ∧ ∀ j : Nat, j < k → (j : Int) ≠ c → nth st j ≠ 1) (fun i _ => st.length - (intOf i).toNat)
  case atStart => exact ⟨0, Nat.zero_le _, rfl, bS.ext (fun i _ => (stepK_zero gs st c i).symm), bR, hO2, hB0, by simp⟩
  case round =>
    obtain ⟨k, hk, rfl, hS, hR, hO3, hB, hno⟩ := hrel
    clear hO2 bS bR hB0
    by_cases hlt : k < st.length
    · have hk8 : (k : Int) < 8 := by omega
      have c1 := hS.cell (i := k) (by omega)
      have f1 := hS.frozen k
      have c2 := hO3.full (i := k) (by omega)
      rw [stepK_at hlt] at c1
      have h1 := Hbd.out k (by omega)
      have hsu := fun j => stepK_succ (gs := gs) (c := c) hlt j
      have Hsu := Lib.hid hsu
      clear hsu
      have hpre : ∀ (h : (k : Int) = c ∨ nth st k ≠ 1), ∀ j : Nat, j < k + 1 → (j : Int) ≠ c → nth st j ≠ 1 := fun h j hj hjc => by
        by_cases e : j = k
        · subst e; exact h.resolve_left hjc
        · exact hno j (by omega) hjc
      have Hp := Lib.hid hpre
      clear hpre
      by_cases he : (k : Int) = c
      · subst he
        gi_wp2
        exact ⟨⟨k + 1, by omega, by simp, hS.set (fun j _ => by rw [Hsu.out, if_pos rfl]), hR.other (by omega) _, hO3.kept (grownBy_setCell2 _ _ _ _) (by simp; omega), hB.setCell (p := ⟨w.heap.size, k, none⟩) (Nat.le_refl _) _, Hp.out (.inl rfl)⟩, by simp [intOf]; omega⟩
      · by_cases h1' : nth st k = 1
        · have hno' : ¬ Opn st c := fun ho => ho k hlt he h1'
          have hq : nth st k < 2 := by omega
          have cR0 := hR.cell (i := 0) (by omega)
          have cR1 := hR.cell (i := 1) (by omega)
          have cR2 := hR.cell (i := 2) (by omega)
          have cR3 := hR.cell (i := 3) (by omega)
          have cR4 := hR.cell (i := 4) (by omega)
          have cR5 := hR.cell (i := 5) (by omega)
          have cR6 := hR.cell (i := 6) (by omega)
          have cR7 := hR.cell (i := 7) (by omega)
          have fR0 := hR.frozen 0
          have fR1 := hR.frozen 1
          have fR2 := hR.frozen 2
          have fR3 := hR.frozen 3
          have fR4 := hR.frozen 4
          have fR5 := hR.frozen 5
          have fR6 := hR.frozen 6
          have fR7 := hR.frozen 7
          clear h1' hno
          gi_wp2
          obtain ⟨W1, hW1⟩ : ∃ W1, ((((((((wr.setCell ⟨w.heap.size + 1, 0, none⟩ (.int .u8 (nth ([] : List Int) 0))).setCell ⟨w.heap.size + 1, 1, none⟩ (.int .u8 (nth ([] : List Int) 1))).setCell ⟨w.heap.size + 1, 2, none⟩ (.int .u8 (nth ([] : List Int) 2))).setCell ⟨w.heap.size + 1, 3, none⟩ (.int .u8 (nth ([] : List Int) 3))).setCell ⟨w.heap.size + 1, 4, none⟩ (.int .u8 (nth ([] : List Int) 4))).setCell ⟨w.heap.size + 1, 5, none⟩ (.int .u8 (nth ([] : List Int) 5))).setCell ⟨w.heap.size + 1, 6, none⟩ (.int .u8 (nth ([] : List Int) 6))).setCell ⟨w.heap.size + 1, 7, none⟩ (.int .u8 (nth ([] : List Int) 7))) = W1 := ⟨_, rfl⟩
          have hE : store8 wr (w.heap.size + 1) [] = W1 := hW1
          have hW2 : ((((((((wr.setCell ⟨w.heap.size + 1, 0, none⟩ (.int .u8 0)).setCell ⟨w.heap.size + 1, 1, none⟩ (.int .u8 0)).setCell ⟨w.heap.size + 1, 2, none⟩ (.int .u8 0)).setCell ⟨w.heap.size + 1, 3, none⟩ (.int .u8 0)).setCell ⟨w.heap.size + 1, 4, none⟩ (.int .u8 0)).setCell ⟨w.heap.size + 1, 5, none⟩ (.int .u8 0)).setCell ⟨w.heap.size + 1, 6, none⟩ (.int .u8 0)).setCell ⟨w.heap.size + 1, 7, none⟩ (.int .u8 0)) = W1 := hW1
          rw [hW2]
          clear hW1 hW2
          have bR2 : Arr W1 (w.heap.size + 1) [] := by rw [← hE]; exact Arr.stored8 [] hR
          have hB2 : Below w.heap.size w W1 := by rw [← hE]; exact below_set8 [] hB (by omega) (Nat.le_refl _)
          clear hE
          clear cR0 cR1 cR2 cR3 cR4 cR5 cR6 cR7 fR0 fR1 fR2 fR3 fR4 fR5 fR6 fR7
          have cR0 := bR2.cell (i := 0) (by omega)
          have cR1 := bR2.cell (i := 1) (by omega)
          have cR2 := bR2.cell (i := 2) (by omega)
          have cR3 := bR2.cell (i := 3) (by omega)
          have cR4 := bR2.cell (i := 4) (by omega)
          have cR5 := bR2.cell (i := 5) (by omega)
          have cR6 := bR2.cell (i := 6) (by omega)
          have cR7 := bR2.cell (i := 7) (by omega)
          refine retM0 ⟨.tuple #[arrV [], .bool false], by simp [results, Try.f129, go_sem, cR0, cR1, cR2, cR3, cR4, cR5, cR6, cR7]; rfl, .inr ⟨hno', rfl⟩, hB2⟩
        · have hq : ¬ nth st k < 2 := by omega
          have hw : IntKind.u8.wrap (nth st k - 1) = nth st k - 1 := by rw [IntKind.wrap_u8]; omega
          have Hne := Lib.hid h1'
          have He := Lib.hid he
          clear h1' hno
          gi_wp2
          exact ⟨⟨k + 1, by omega, by simp, hS.set (fun j _ => by rw [Hsu.out, if_neg He.out]), hR.other (by omega) _, hO3.kept (grownBy_setCell2 _ _ _ _) (by simp; omega), hB.setCell (p := ⟨w.heap.size, k, none⟩) (Nat.le_refl _) _, Hp.out (.inr Hne.out)⟩, by simp [intOf]; omega⟩
    · obtain rfl : k = st.length := by omega
      rw [stepK_all] at hS
      have hop : Opn st c := fun j hj hjc => hno j hj hjc
      clear hno
      have cS0 := hS.cell (i := 0) (by omega)
      have cS1 := hS.cell (i := 1) (by omega)
      have cS2 := hS.cell (i := 2) (by omega)
      have cS3 := hS.cell (i := 3) (by omega)
      have cS4 := hS.cell (i := 4) (by omega)
      have cS5 := hS.cell (i := 5) (by omega)
      have cS6 := hS.cell (i := 6) (by omega)
      have cS7 := hS.cell (i := 7) (by omega)
      have cR0 := hR.cell (i := 0) (by omega)
      have cR1 := hR.cell (i := 1) (by omega)
      have cR2 := hR.cell (i := 2) (by omega)
      have cR3 := hR.cell (i := 3) (by omega)
      have cR4 := hR.cell (i := 4) (by omega)
      have cR5 := hR.cell (i := 5) (by omega)
      have cR6 := hR.cell (i := 6) (by omega)
      have cR7 := hR.cell (i := 7) (by omega)
      have fR0 := hR.frozen 0
      have fR1 := hR.frozen 1
      have fR2 := hR.frozen 2
      have fR3 := hR.frozen 3
      have fR4 := hR.frozen 4
      have fR5 := hR.frozen 5
      have fR6 := hR.frozen 6
      have fR7 := hR.frozen 7
      gi_wp2
      obtain ⟨W1, hW1⟩ : ∃ W1, ((((((((wr.setCell ⟨w.heap.size + 1, 0, none⟩ (.int .u8 (nth (stepL gs st c) 0))).setCell ⟨w.heap.size + 1, 1, none⟩ (.int .u8 (nth (stepL gs st c) 1))).setCell ⟨w.heap.size + 1, 2, none⟩ (.int .u8 (nth (stepL gs st c) 2))).setCell ⟨w.heap.size + 1, 3, none⟩ (.int .u8 (nth (stepL gs st c) 3))).setCell ⟨w.heap.size + 1, 4, none⟩ (.int .u8 (nth (stepL gs st c) 4))).setCell ⟨w.heap.size + 1, 5, none⟩ (.int .u8 (nth (stepL gs st c) 5))).setCell ⟨w.heap.size + 1, 6, none⟩ (.int .u8 (nth (stepL gs st c) 6))).setCell ⟨w.heap.size + 1, 7, none⟩ (.int .u8 (nth (stepL gs st c) 7))) = W1 := ⟨_, rfl⟩
      have hE : store8 wr (w.heap.size + 1) (stepL gs st c) = W1 := hW1
      rw [hW1]
      clear hW1
      have bR2 : Arr W1 (w.heap.size + 1) (stepL gs st c) := by rw [← hE]; exact Arr.stored8 _ hR
      have hB2 : Below w.heap.size w W1 := by rw [← hE]; exact below_set8 _ hB (by omega) (Nat.le_refl _)
      clear hE
      clear cS0 cS1 cS2 cS3 cS4 cS5 cS6 cS7 cR0 cR1 cR2 cR3 cR4 cR5 cR6 cR7 fR0 fR1 fR2 fR3 fR4 fR5 fR6 fR7
      have cR0 := bR2.cell (i := 0) (by omega)
      have cR1 := bR2.cell (i := 1) (by omega)
      have cR2 := bR2.cell (i := 2) (by omega)
      have cR3 := bR2.cell (i := 3) (by omega)
      have cR4 := bR2.cell (i := 4) (by omega)
      have cR5 := bR2.cell (i := 5) (by omega)
      have cR6 := bR2.cell (i := 6) (by omega)
      have cR7 := bR2.cell (i := 7) (by omega)
      refine retM0 ⟨.tuple #[arrV (stepL gs st c), .bool true], by simp [results, Try.f129, go_sem, cR0, cR1, cR2, cR3, cR4, cR5, cR6, cR7]; rfl, .inl ⟨hop, rfl⟩, hB2⟩

end Go.Proofs.Ytgndbifcncklgaa
