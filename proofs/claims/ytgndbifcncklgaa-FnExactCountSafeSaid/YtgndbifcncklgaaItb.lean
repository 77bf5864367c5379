/-
  The program's iterator over all states: its body.
  Conditions: tasks.
-/
import Derived.Test.YtgndbifcncklgaaTop
import Derived.Scope
namespace Go.Proofs.Ytgndbifcncklgaa
open Go.RowKit Go.Shelf Go.Maps
attribute [local go_sem] Oper.semAt_some

/-! ### a scope inside a fence -/
section
variable {F : Fence} {n : Nat} {P : Program} {Q : Exit → Act → World → Prop} {b : Frame} {a : Act} {k : List Item} {cs : List Frame} {w : World}
theorem stepR_scope {c : Code} : step P (lone (b.atR a (.code (.scope c) :: k)) cs w) = .next (lone (b.atR a (.code c :: .inScope c :: k)) cs w) := step_lone_go (by simp [stepG, stepG.exec, Frame.atR])
theorem stepR_inScope {c : Code} : step P (lone (b.atR a (.inScope c :: k)) cs w) = .next (lone (b.atR a k) cs w) := step_lone_go (by simp [stepG, stepG.exec, Frame.atR])
theorem wpIn_scope {c : Code} (h : c.wpIn F n P (Exit.noGoto Q) a w) : (Code.scope c).wpIn F n P Q a w := by
  intro b k cs hro hb hr
  have h0 : (lone (b.atR a (.code (.scope c) :: k)) cs w).fenced P F := fenced_calm hb hr rfl
  obtain ⟨e, a₁, w₁, hq, harr⟩ := h b (.inScope c :: k) cs hro hb hr
  cases e with
  | normal => exact ⟨.normal, a₁, w₁, hq, .head h0 stepR_scope (StepsIn.trans harr (.one (fenced_calm hb hr rfl) stepR_inScope))⟩
  | exit id =>
    have hx : exitTo id (.inScope c :: k) = exitTo id k := by simp [exitTo]
    exact ⟨.exit id, a₁, w₁, hq, fun k' hk => .head h0 stepR_scope (harr.1 k' (by rw [hx]; exact hk)),
      fun hr' hk => let ⟨k₁, h1, h2⟩ := harr.2 hr' (by rw [hx]; exact hk); ⟨k₁, h1, .head h0 stepR_scope h2⟩⟩
  | goto l => exact hq.elim
  | ret => exact ⟨_, a₁, w₁, hq, .of_steps (.one h0 stepR_scope) harr⟩
  | panic ch => exact ⟨_, a₁, w₁, hq, .of_steps (.one h0 stepR_scope) harr⟩
  | outgrown => exact ⟨_, a₁, w₁, hq, .of_steps (.one h0 stepR_scope) harr⟩
end

theorem states_c (bO : Nat) (w : World) :
    Calls Try.prog 101 #[.pointer (some ⟨bO, 0, none⟩)] w fun e w' => e = .returned (.func (.func 128) #[] #[.pointer (some ⟨w.heap.size, 0, none⟩)]) ∧
      w' = w.alloc (.cells #[.pointer (some ⟨bO, 0, none⟩)] 101) := by
  go_enter Try.func101, Try.ntmps101
  go_wp2
  go_ret
  exact ⟨rfl, rfl⟩

/-- the digits that lie in an array -/
def rdA (W : World) (b n : Nat) : List Int := (List.range n).map fun i => match W.cell? ⟨b, i, none⟩ with | some (.int _ x) => x | _ => 0
theorem rdA_of {W : World} {b n : Nat} {xs : List Int} (h : Arr W b xs) (hl : xs.length = n) (h8 : n ≤ 8) : rdA W b n = xs := by
  subst hl
  refine List.ext_getElem (by simp [rdA]) fun i h1 h2 => ?_
  simp only [rdA, List.getElem_map, List.getElem_range]
  rw [h.cell (by omega)]
  simp [nth, h2]
theorem nth_rep {k j : Nat} : nth (List.replicate k (1 : Int)) j = if j < k then 1 else 0 := by
  unfold nth
  by_cases h : j < k
  · rw [if_pos h]; simp [h]
  · rw [if_neg h, List.getElem?_eq_none (by simp; omega)]; rfl
/-- the first i digits are set to 1 again -/
def backTo (xs : List Int) (i : Nat) : List Int := List.replicate i 1 ++ xs.drop i
theorem nth_back {xs : List Int} {i j : Nat} : nth (backTo xs i) j = if j < i then 1 else nth xs j := by
  unfold backTo nth
  by_cases h : j < i
  · rw [if_pos h, List.getElem?_append_left (by simpa using h)]; simp [h]
  · rw [if_neg h, List.getElem?_append_right (by simp; omega)]
    simp only [List.length_replicate, List.getElem?_drop]
    rw [show i + (j - i) = j by omega]

theorem back_length {xs : List Int} {i : Nat} (hi : i ≤ xs.length) : (backTo xs i).length = xs.length := by
  unfold backTo; simp; omega
theorem nth_setA {zs : List Int} {k m : Nat} {x : Int} (hk : k < zs.length) : nth (zs.set k x) m = if m = k then x else nth zs m := by
  unfold nth
  rw [List.getElem?_set]
  by_cases e : k = m
  · subst e; simp [hk]
  · rw [if_neg e, if_neg (fun h => e h.symm)]

set_option maxRecDepth 100000 in
set_option maxHeartbeats 8000000 in
/-- a loop over all states: Inv j ahead of the state j -/
theorem states1_at (n l bo bO m : Nat) (gs : List Int) (W : World) (ht : tasksOk gs = true) (Inv : Nat → World → Prop) (Jx : World → Prop)
    (hInv : ∀ j W, Inv j W → Boxed W bo 101 (.pointer (some ⟨bO, 0, none⟩)) ∧ Outl W bO gs m)
    (hgrow : ∀ j A B row, Inv j A → A.grownBy B row → (∀ r, row = some r → r = W.heap.size) → Inv j B)
    (hyield : ∀ j A, j < cntN gs → Inv j A → W.heap.size < A.heap.size → YieldAt Fence.wide 9 Try.prog l #[arrV (ofR gs j)] A fun e B =>
      (e = .returned (.bool true) ∧ Inv (j + 1) B ∧ A.heap.size ≤ B.heap.size ∧ B.heap[W.heap.size]? = A.heap[W.heap.size]?) ∨ (e = .returned (.bool false) ∧ Jx B))
    (h0 : Inv 0 W) :
    CallsIn Fence.wide n Try.prog 128 #[.func (.yield l) #[] #[], .pointer (some ⟨bo, 0, none⟩)] W fun e W' => (∃ v, e = .returned v) ∧ (Inv (cntN gs) W' ∨ Jx W') := by
  have hl8 := tasksOk_len ht
  have hp := pos_of ht
  obtain ⟨W0, hW0⟩ : ∃ W0, W.alloc (.cells #[.int .u8 0, .int .u8 0, .int .u8 0, .int .u8 0, .int .u8 0, .int .u8 0, .int .u8 0, .int .u8 0] 64) = W0 := ⟨_, rfl⟩
  have hi0 : Inv 0 W0 := by rw [← hW0]; exact hgrow 0 _ _ none h0 (World.grownBy_alloc _ _ _) (by simp)
  have hA0 : Arr W0 W.heap.size [] := by rw [← hW0]; exact Arr.new W []
  have hs0 : W.heap.size < W0.heap.size := by rw [← hW0]; simp
  obtain ⟨b1, b3⟩ := hInv 0 W0 hi0
  have kb := b1.cell
  have k3 := b3.k
  refine callsIn_wide.2 ((callsIn_wide (n := 10)).1 ?_)
  refine callsIn_of_wp_marks Try.func128 rfl trivial ?_ rfl
  simp only [Try.ntmps128, List.size_toArray, List.length_cons, List.length_nil, Nat.reduceAdd, Nat.reduceSub, Array.replicate_succ, Array.replicate_zero, List.push_toArray, List.append_toArray, List.nil_append, List.cons_append]
  refine wpIn_scope ?_
  gi_wp2
  clear kb k3 b1 b3 h0
  gi_loopw [10] (fun i wr => ∃ k : Nat, k ≤ gs.length ∧ i = .int .i64 (k : Int) ∧ Arr wr W.heap.size (List.replicate k 1) ∧ Inv 0 wr ∧ W.heap.size < wr.heap.size) (fun i _ => gs.length - (intOf i).toNat)
  case atStart => exact ⟨0, Nat.zero_le _, rfl, hA0, hi0, hs0⟩
  case round =>
    clear hA0 hi0 hs0 hW0
    obtain ⟨k, hk, rfl, hA, hi, hs⟩ := hrel
    by_cases hlt : k < gs.length
    · have hk8 : (k : Int) < 8 := by omega
      have cA := hA.cell (i := k) (by omega)
      have fA := hA.frozen k
      have hset : ∀ u, u = 1 → Arr (wr.setCell ⟨W.heap.size, k, none⟩ (.int .u8 u)) W.heap.size (List.replicate (k + 1) 1) := fun u hu => hA.set (fun j _ => by
        rw [nth_rep, nth_rep]
        by_cases e : j = k
        · subst e; simp [hu]
        · rw [if_neg e]
          by_cases h : j < k
          · rw [if_pos h, if_pos (by omega)]
          · rw [if_neg h, if_neg (by omega)])
      have Hset := Lib.hid (hset 1 rfl)
      have hi2 := hgrow 0 _ _ _ hi (grownBy_setCell2 wr W.heap.size k (.int .u8 1)) (fun r e => by cases e; rfl)
      have Hi2 := Lib.hid hi2
      clear hset hi2
      gi_wp2
      exact ⟨⟨k + 1, by omega, by simp, Hset.out, Hi2.out, by simp [World.setCell]; omega⟩, by simp [intOf]; omega⟩
    · obtain rfl : k = gs.length := by omega
      have hA1 : Arr wr W.heap.size (ofR gs 0) := hA.ext fun j _ => by
        rw [nth_rep]
        by_cases h : j < gs.length
        · rw [if_pos h, ofR_zero j h]
        · rw [if_neg h]; unfold nth; rw [List.getElem?_eq_none (by rw [ofR_length]; omega)]; rfl
      have hc1 : 0 < cntN gs := by have := cntL_cntN hp; have := cntP_pos hp (Nat.le_refl gs.length); unfold cntL at *; omega
      clear hA
      gi_wp2
      refine wpIn_label ?_
      gi_wp2
      gi_loopw [18] (fun _ wr => ∃ j : Nat, j < cntN gs ∧ Arr wr W.heap.size (ofR gs j) ∧ Inv j wr ∧ W.heap.size < wr.heap.size) (fun _ wr => cntN gs - numR gs (rdA wr W.heap.size gs.length))
      case atStart => exact ⟨0, hc1, hA1, hi, hs⟩
      case round =>
        clear hA1 hi hs
        obtain ⟨j, hj, hA, hi, hs⟩ := hrel
        have hrd := rdA_of hA (ofR_length gs j) (by omega)
        have hnum := numR_ofR hp hj
        have hst := isSt_ofR hp j
        have hy0 := hyield j wr hj hi hs
        obtain ⟨xs, hxs⟩ : ∃ xs, ofR gs j = xs := ⟨_, rfl⟩
        rw [hxs] at hA hrd hnum hst hy0
        have Hxs := Lib.hid hxs
        have Hrd := Lib.hid hrd
        have Hnum := Lib.hid hnum
        have Hyd := Lib.hid hyield
        have Hgr := Lib.hid hgrow
        have HInv := Lib.hid hInv
        clear hxs hrd hnum hyield hgrow hInv
        obtain ⟨fn, tmps, assign, body, hy, hR⟩ := hy0
        unfold arrV cells8 at hy
        have cA0 := hA.cell (i := 0) (by omega)
        have cA1 := hA.cell (i := 1) (by omega)
        have cA2 := hA.cell (i := 2) (by omega)
        have cA3 := hA.cell (i := 3) (by omega)
        have cA4 := hA.cell (i := 4) (by omega)
        have cA5 := hA.cell (i := 5) (by omega)
        have cA6 := hA.cell (i := 6) (by omega)
        have cA7 := hA.cell (i := 7) (by omega)
        gi_wp2
        refine hR.mono ?_
        rintro e A (⟨rfl, hi2, hsz, hbk⟩ | ⟨rfl, hx⟩)
        · have hA2 : Arr A W.heap.size xs := hbk.trans hA
          obtain ⟨b1, b3⟩ := HInv.out _ _ hi2
          have kb := b1.cell
          have k3 := b3.k
          clear cA0 cA1 cA2 cA3 cA4 cA5 cA6 cA7 hR hy hA hi hbk
          gi_wp2
          gi_loopw [23] (fun i wr => ∃ k : Nat, k ≤ gs.length ∧ i = .int .i64 (k : Int) ∧ Arr wr W.heap.size (backTo xs k) ∧ (∀ q, q < k → nth xs q = nth gs q) ∧ Inv (j + 1) wr ∧ W.heap.size < wr.heap.size) (fun i _ => gs.length - (intOf i).toNat)
          case atStart => exact ⟨0, Nat.zero_le _, rfl, by simpa [backTo] using hA2, fun q hq => by omega, hi2, by omega⟩
          case round =>
            clear hA2 hi2 b1 b3 kb k3 hsz
            obtain ⟨k, hk, rfl, hA3, hfu, hi3, hs3⟩ := hrel
            obtain ⟨b1, b3⟩ := HInv.out _ _ hi3
            have kb := b1.cell
            have k3 := b3.k
            have Hfu := Lib.hid hfu
            by_cases hlt : k < gs.length
            · have hk8 : (k : Int) < 8 := by omega
              have hkx : k < (backTo xs k).length := by rw [back_length (by rw [hst.1]; omega), hst.1]; exact hlt
              have c1 := hA3.cell (i := k) (by omega)
              rw [nth_back, if_neg (by omega)] at c1
              have f1 := hA3.frozen k
              have c2 := b3.full (i := k) (by omega)
              have h1 := hst.2 k hlt
              have h2 := tasksOk_nth ht hlt
              clear hfu
              by_cases hq : nth xs k < nth gs k
              · have hw : IntKind.u8.wrap (nth xs k + 1) = nth xs k + 1 := by rw [IntKind.wrap_u8]; omega
                have hx : (backTo xs k).set k (nth xs k + 1) = ofR gs (j + 1) := by
                  refine ofR_succ_at hp hlt (fun q hq' => by rw [Hxs.out]; exact Hfu.out q hq') (by rw [Hxs.out]; exact hq) (by rw [List.length_set, back_length (by rw [hst.1]; omega), hst.1]) (fun q hq' => ?_) ?_ (fun q hq1 hq2 => ?_)
                  · rw [nth_setA hkx, if_neg (by omega), nth_back, if_pos hq']
                  · rw [nth_setA hkx, if_pos rfl, Hxs.out]
                  · rw [nth_setA hkx, if_neg (by omega), nth_back, if_neg (by omega), Hxs.out]
                have hj1 : j + 1 < cntN gs := not_last hp hj (by rw [Hxs.out]; exact hq)
                have hset : Arr (wr.setCell ⟨W.heap.size, k, none⟩ (.int .u8 (nth xs k + 1))) W.heap.size (ofR gs (j + 1)) := hA3.set fun q _ => by rw [← hx, nth_setA hkx]
                have hi4 := Hgr.out _ _ _ _ hi3 (grownBy_setCell2 wr W.heap.size k (.int .u8 (nth xs k + 1))) (fun r e => by cases e; rfl)
                have Hset := Lib.hid hset
                have Hi4 := Lib.hid hi4
                clear hx hset hi4
                gi_wp2_with fail
                gi_quiet (fail)
                gi_wp2
                have hset : Arr ((wr.drewN nq).setCell ⟨W.heap.size, k, none⟩ (.int .u8 (nth xs k + 1))) W.heap.size (ofR gs (j + 1)) := Hset.out
                refine ⟨⟨j + 1, hj1, hset, Hgr.out _ _ _ _ hi3 ((grown_drewN wr nq _).trans (grownBy_setCell2 (wr.drewN nq) W.heap.size k (.int .u8 (nth xs k + 1)))) (fun r e => by cases e; rfl), by simp [World.setCell, World.drewN]; omega⟩, ?_⟩
                rw [Hrd.out, Hnum.out, rdA_of hset (ofR_length gs _) (by omega), numR_ofR hp hj1]
                omega
              · have hqe : nth xs k = nth gs k := by omega
                have hset : Arr (wr.setCell ⟨W.heap.size, k, none⟩ (.int .u8 1)) W.heap.size (backTo xs (k + 1)) := hA3.set fun q _ => by
                  rw [nth_back, nth_back]
                  by_cases e : q = k
                  · subst e; simp
                  · rw [if_neg e]
                    by_cases h : q < k
                    · rw [if_pos h, if_pos (by omega)]
                    · rw [if_neg h, if_neg (by omega)]
                have hi4 := Hgr.out _ _ _ _ hi3 (grownBy_setCell2 wr W.heap.size k (.int .u8 1)) (fun r e => by cases e; rfl)
                have Hset := Lib.hid hset
                have Hi4 := Lib.hid hi4
                have Hqe := Lib.hid hqe
                clear hset hi4 hqe
                gi_wp2_with fail
                gi_quiet (fail)
                gi_wp2
                have hset : Arr ((wr.drewN nq).setCell ⟨W.heap.size, k, none⟩ (.int .u8 1)) W.heap.size (backTo xs (k + 1)) := Hset.out
                refine ⟨⟨k + 1, by omega, by simp, hset, fun q hq' => ?_, Hgr.out _ _ _ _ hi3 ((grown_drewN wr nq _).trans (grownBy_setCell2 (wr.drewN nq) W.heap.size k (.int .u8 1))) (fun r e => by cases e; rfl), by simp [World.setCell, World.drewN]; omega⟩, by simp [intOf]; omega⟩
                by_cases e : q = k
                · subst e; exact Hqe.out
                · exact Hfu.out q (by omega)
            · obtain rfl : k = gs.length := by omega
              have hl := ofR_last hp hj (fun q hq => by rw [Hxs.out]; exact hfu q hq)
              clear hfu
              gi_wp2
              exact retM0 ⟨_, results_none rfl _ _ _, ⟨_, rfl⟩, .inl (hl ▸ hi3)⟩
        · gi_wp2
          exact retMn0 ⟨_, results_none rfl _ _ _, ⟨_, rfl⟩, .inr hx⟩

end Go.Proofs.Ytgndbifcncklgaa
