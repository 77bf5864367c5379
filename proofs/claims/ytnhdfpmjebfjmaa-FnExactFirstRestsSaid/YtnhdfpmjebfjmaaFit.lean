/-
  DoFit of both; a loop over an iterator whose variable lies in a box of one cell.
  Conditions: lists of at most 1048576 elements.
-/
import Derived.Test.YtnhdfpmjebfjmaaDens
import Derived.Test.YtnhdfpmjebfjmaaShift
import Derived.Test.YtnhdfpmjebfjmaaMiss
namespace Go.Proofs.Ytnhdfpmjebfjmaa
open Go.RowKit Go.Shelf
attribute [local go_sem] Oper.semAt_some

section
variable {F : Fence} {n : Nat} {P : Program}
/-- A LOOP WHOSE VARIABLE LIES IN A BOX OF ONE CELL, which each round lays anew. -/
theorem range_out1 (T : TypeId) (u : Nat → Value) {g : Operand} {ps : Array Tmp} {assign body : Code} {Q : Exit → Act → World → Prop} {a : Act} {w : World} (hro : F.round = none) (h1 : 1 ≤ n)
    {gf : Nat} {lb : Array Value} (hg : a.eval g = .func (.func gf) #[] lb) (hFg : F.fn gf) (eg : ∀ args w, (callFunc gf args).run P w = .ok (.enter gf args) w)
    {enc : Nat → Array Value} {Keep : Nat → Prop} {c N : Nat} (hseq : SeqAt F (n - 1) P gf lb enc Keep c N w) (hKeep : ∀ b, Keep b → b < w.heap.size) (hps : ∀ k, (enc k).size = ps.size)
    (I : Nat → World → Prop) (Ix : Code → Nat → World → Prop) (hI : OwnFrom w.heap.size I) (hIx : ∀ c, OwnFrom w.heap.size (Ix c)) (h0 : I 0 w) (a₁ : Nat → Nat → Act)
    (hassign : ∀ (l k b : Nat) (W : World) (K : Act → World → Prop), k < N → W.heap.size = b → K (a₁ k b) (W.alloc (.cells #[u k] T)) →
      assign.wpIn (F.inRound l) (n - 1 - 1) P (Exit.then K (fun _ _ _ => False)) { tmps := (ps.zip (enc k)).foldl (fun t (p, v) => t.setIfInBounds p v) a.tmps, defers := [] } W)
    (hbody : ∀ (l k b : Nat) (W : World), w.heap.size ≤ l → (∃ r, W.heap[l]? = some (.loop r)) → I k W → w.heap.size + 2 + c ≤ b → Boxed W b T (u k) → k < N → w.heap.size + 2 + c ≤ W.heap.size → body.wpIn (F.inRound l) (n - 1 - 1) P (roundEnd (Band Keep w.heap.size (w.heap.size + 2 + c)) I Ix k W) (a₁ k b) W)
    (hdone : ∀ (D : Nat) (W : World), w.heap.size ≤ D ∧ D < w.heap.size + 2 → I N W → W.heap[D]? = some (.deferred (some [])) → Q .normal { a with defers := { target := .collected D, args := #[] } :: a.defers } W)
    (hstop : ∀ (D : Nat) (c : Code) (k : Nat) (W : World), w.heap.size ≤ D ∧ D < w.heap.size + 2 → k ≤ N → Ix c k W → W.heap[D]? = some (.deferred (some [])) → c.wpIn F n P Q { a with defers := { target := .collected D, args := #[] } :: a.defers } W) :
    (Code.rangeFunc g ps assign body).wpIn F n P Q a w :=
  range_out hro h1 hg hFg eg hseq hKeep hps I Ix hI hIx h0 (fun k a' W => ∃ b, w.heap.size + 2 + c ≤ b ∧ a' = a₁ k b ∧ Boxed W b T (u k))
    (fun k a' s A B row ⟨b, h1, h2, h3⟩ hg hr => ⟨b, h1, h2, (Own.from (boxed_own b T (fun (_ : Unit) => u k)) w.heap.size) () A B row h3 hg hr⟩)
    (fun l k W K hi hk hs hK => hassign l k W.heap.size W K hk rfl (hK _ _ (Kps.alloc _ _ _) (hI.alloc _ hi) ⟨W.heap.size, hs, rfl, Boxed.new _ _ _⟩))
    (fun l k a' W hl hr hi ⟨b, h1, h2, h3⟩ hk hs => by subst h2; exact hbody l k b W hl hr hi h1 h3 hk hs) hdone hstop
end

/-! ### the mathematics -/
def gcdAt (zs : List Int) (i k : Nat) : Nat := Nat.gcd (nth zs i).toNat (nth zs k).toNat
def fitB (zs : List Int) : Bool := decide (∀ i, i < zs.length → ∀ k, k < i → gcdAt zs i k ≠ 1)
theorem fit_yes {zs : List Int} (h : ∀ i, i < zs.length → ∀ k, k < i → gcdAt zs i k ≠ 1) : fitB zs = true := decide_eq_true h
theorem fit_no {zs : List Int} {i k : Nat} (hi : i < zs.length) (hk : k < i) (h : gcdAt zs i k = 1) : fitB zs = false := decide_eq_false fun ha => ha i hi k hk h
def fiC (zs : List Int) : Int := if tasksOk zs then 0 else 1
def fiV (zs : List Int) : Bool := tasksOk zs && fitB zs
theorem gap_nat {zs : List Int} (ht : tasksOk zs = true) {i : Nat} (hi : i < zs.length) : ∃ g : Nat, nth zs i = g ∧ 1 ≤ g ∧ g ≤ 40 := ⟨(nth zs i).toNat, by have := tasksOk_nth ht hi; omega, by have := tasksOk_nth ht hi; omega, by have := tasksOk_nth ht hi; omega⟩

/-! ### the model -/
set_option maxRecDepth 100000 in
set_option maxHeartbeats 8000000 in
theorem l05Fit_c (c0 : Value) (zs : List Int) (w : World) (hI : Ints w.heap.size w c0 zs) (ht : tasksOk zs = true) :
    Calls Try.prog 86 #[.agg #[c0]] w fun e w' => e = .returned (.bool (fitB zs)) ∧ Below w.heap.size w w' := by
  obtain ⟨a, cap, rfl⟩ := hI.shape
  have hl := tasksOk_len ht
  have Ht := Lib.hid ht
  have hfw : Try.prog.follows Departure.mixedOrders = true := by kernel_rfl
  have hB0 : Below w.heap.size w (w.alloc (.cells #[.slice a zs.length cap] 29)) := (Below.refl _ w).alloc (Nat.le_refl _) _
  have b0 : Boxed (w.alloc (.cells #[.slice a zs.length cap] 29)) w.heap.size 29 (.slice a zs.length cap) := Boxed.new _ _ _
  clear ht
  go_enter Try.func86, Try.ntmps86
  go_wp2
  go_loopw [3] (fun i wr => ∃ k : Nat, k ≤ zs.length ∧ i = .int .i64 k ∧ (∀ j, j < k → ∀ m, m < j → gcdAt zs j m ≠ 1) ∧ Boxed wr w.heap.size 29 (.slice a zs.length cap) ∧ Below w.heap.size w wr) (fun i _ => zs.length - (intOf i).toNat)
  case atStart => exact ⟨0, Nat.zero_le _, rfl, by omega, b0, hB0⟩
  case round =>
    obtain ⟨k, hk, rfl, hall, bx, hB⟩ := hrel
    have Hall := Lib.hid hall
    clear hall b0 hB0
    have cx := bx.cell
    by_cases hlt : k < zs.length
    · have hlt' : (k : Int) < (zs.length : Int) := by omega
      go_wp2
      clear cx
      go_loopw [4] (fun i wr => ∃ m : Nat, m ≤ k ∧ i = .int .i64 m ∧ (∀ j, j < m → gcdAt zs k j ≠ 1) ∧ Boxed wr w.heap.size 29 (.slice a zs.length cap) ∧ Below w.heap.size w wr) (fun i _ => k - (intOf i).toNat)
      case atStart => exact ⟨0, Nat.zero_le _, rfl, by omega, bx, hB⟩
      case round =>
        obtain ⟨m, hmk, rfl, hin, bx1, hB1⟩ := hrel
        have Hin := Lib.hid hin
        clear hin hB bx
        by_cases hltm : m < k
        · obtain ⟨b, off, rfl, hb, hc⟩ := hI.at_ hlt
          have x0 := hc k hlt
          have y0 := hc m (by omega)
          have hltm' : (m : Int) < (k : Int) := by omega
          have hltm2 : (m : Int) < (zs.length : Int) := by omega
          obtain ⟨g, hg, hg1, hg2⟩ := gap_nat Ht.out hlt
          obtain ⟨q, hq, hq1, hq2⟩ := gap_nat Ht.out (i := m) (by omega)
          have hgc : gcdAt zs k m = Nat.gcd g q := by unfold gcdAt; rw [hg, hq]; rfl
          rw [hg] at x0
          rw [hq] at y0
          clear hc hg hq
          by_cases he : Nat.gcd g q = 1
          · have He := Lib.hid (hgc.trans he)
            have He2 := Lib.hid he
            clear he hgc
            go_wp2_with fail
            refine wp_region_held_drew (S := fun w' => Boxed w' w.heap.size 29 (.slice (some ⟨b, off, none⟩) zs.length cap) ∧ Below w.heap.size w w') hfw ⟨bx1, hB1.drew⟩ ?_
            intro hS0
            refine wpAnyH_take (i := 0) (v := ?vf1q0) rfl (by kernel_rfl) (by kernel_rfl) (by kernel_rfl) (fun _ _ _ h => h) (.inl ⟨by first | kernel_rfl | rfl, ?yf1q0⟩) hS0 ?_
            case yf1q0 =>
              intro w' hS
              (have k1 := hS.1.cell; have k2 := (hS.2.cell (p := ⟨b, off + k, none⟩) hb).trans x0; have k3 := (hS.2.cell (p := ⟨b, off + m, none⟩) hb).trans y0; clear hS)
              go_simp
              try with_reducible rfl
            refine wpAnyH_take (i := 1) (v := ?vf1q1) rfl (by kernel_rfl) (by kernel_rfl) (by kernel_rfl) (fun _ _ _ h => h) (.inl ⟨by first | kernel_rfl | rfl, ?yf1q1⟩) hS0 ?_
            case yf1q1 =>
              intro w' hS
              (have k1 := hS.1.cell; have k2 := (hS.2.cell (p := ⟨b, off + k, none⟩) hb).trans x0; have k3 := (hS.2.cell (p := ⟨b, off + m, none⟩) hb).trans y0; clear hS)
              go_simp
              try with_reducible rfl
            refine wpAnyH_take (i := 2) (v := ?vf1q2) rfl (by kernel_rfl) (by kernel_rfl) (by kernel_rfl) (fun _ _ _ h => h) (.inl ⟨by first | kernel_rfl | rfl, ?yf1q2⟩) hS0 ?_
            case yf1q2 =>
              intro w' hS
              (have k1 := hS.1.cell; have k2 := (hS.2.cell (p := ⟨b, off + k, none⟩) hb).trans x0; have k3 := (hS.2.cell (p := ⟨b, off + m, none⟩) hb).trans y0; clear hS)
              go_simp
              try with_reducible rfl
            refine wpAnyH_take (i := 3) (v := ?vf1q3) rfl (by kernel_rfl) (by kernel_rfl) (by kernel_rfl) (fun _ _ _ h => h) (.inl ⟨by first | kernel_rfl | rfl, ?yf1q3⟩) hS0 ?_
            case yf1q3 =>
              intro w' hS
              (have k1 := hS.1.cell; have k2 := (hS.2.cell (p := ⟨b, off + k, none⟩) hb).trans x0; have k3 := (hS.2.cell (p := ⟨b, off + m, none⟩) hb).trans y0; clear hS)
              go_simp
              try with_reducible rfl
            refine wpAnyH_take (i := 4) (v := ?vf1q4) rfl (by kernel_rfl) (by kernel_rfl) (by kernel_rfl) (fun _ _ _ h => h) (.inl ⟨by first | kernel_rfl | rfl, ?yf1q4⟩) hS0 ?_
            case yf1q4 =>
              intro w' hS
              (have k1 := hS.1.cell; have k2 := (hS.2.cell (p := ⟨b, off + k, none⟩) hb).trans x0; have k3 := (hS.2.cell (p := ⟨b, off + m, none⟩) hb).trans y0; clear hS)
              go_simp
              try with_reducible rfl
            refine wpAnyH_take (i := 5) (v := ?vf1q5) rfl (by kernel_rfl) (by kernel_rfl) (by kernel_rfl) (fun _ _ _ h => h) (.inl ⟨by first | kernel_rfl | rfl, ?yf1q5⟩) hS0 ?_
            case yf1q5 =>
              intro w' hS
              (have k1 := hS.1.cell; have k2 := (hS.2.cell (p := ⟨b, off + k, none⟩) hb).trans x0; have k3 := (hS.2.cell (p := ⟨b, off + m, none⟩) hb).trans y0; clear hS)
              go_simp
              try with_reducible rfl
            refine wpAnyH_take (i := 6) (v := ?vf1q6) rfl (by kernel_rfl) (by kernel_rfl) (by kernel_rfl) (fun _ _ _ h => h) (.inl ⟨by first | kernel_rfl | rfl, ?yf1q6⟩) hS0 ?_
            case yf1q6 =>
              intro w' hS
              (have k1 := hS.1.cell; have k2 := (hS.2.cell (p := ⟨b, off + k, none⟩) hb).trans x0; have k3 := (hS.2.cell (p := ⟨b, off + m, none⟩) hb).trans y0; clear hS)
              go_simp
              try with_reducible rfl
            refine wpAnyH_take (i := 7) (v := ?vf1q7) rfl (by kernel_rfl) (by kernel_rfl) (by kernel_rfl) (fun _ _ _ h => h) (.inl ⟨by first | kernel_rfl | rfl, ?yf1q7⟩) hS0 ?_
            case yf1q7 =>
              intro w' hS
              (have k1 := hS.1.cell; have k2 := (hS.2.cell (p := ⟨b, off + k, none⟩) hb).trans x0; have k3 := (hS.2.cell (p := ⟨b, off + m, none⟩) hb).trans y0; clear hS)
              go_simp
              try with_reducible rfl
            refine wpAnyH_take (i := 8) (v := ?vf1q8) rfl (by kernel_rfl) (by kernel_rfl) (by kernel_rfl) (fun _ _ _ h => h) (.inl ⟨by first | kernel_rfl | rfl, ?yf1q8⟩) hS0 ?_
            case yf1q8 =>
              intro w' hS
              (have k1 := hS.1.cell; have k2 := (hS.2.cell (p := ⟨b, off + k, none⟩) hb).trans x0; have k3 := (hS.2.cell (p := ⟨b, off + m, none⟩) hb).trans y0; clear hS)
              go_simp
              try with_reducible rfl
            refine wpAnyH_take (i := 9) (v := ?vf1q9) rfl (by kernel_rfl) (by kernel_rfl) (by kernel_rfl) (fun _ _ _ h => h) (.inl ⟨by first | kernel_rfl | rfl, ?yf1q9⟩) hS0 ?_
            case yf1q9 =>
              intro w' hS
              (have k1 := hS.1.cell; have k2 := (hS.2.cell (p := ⟨b, off + k, none⟩) hb).trans x0; have k3 := (hS.2.cell (p := ⟨b, off + m, none⟩) hb).trans y0; clear hS)
              go_simp
              try with_reducible rfl
            refine wpAnyH_ready (rs := [10]) (by kernel_rfl) (by simp) ?_
            refine AllReadyH.cons rfl (fun K' hK' => ?_) AllReadyH.nil
            rw [if_pos (by first | kernel_rfl | rfl)]
            go_simp
            refine (l01Gcd_c g q _ (by omega) (by omega)).mono ?_
            rintro e w1 ⟨hee, hb1⟩
            rw [He2.out] at hee
            subst hee
            refine hK'.out _ _ ⟨boxed_later hS0.1 hb1, hS0.2.trans (hb1.mono hS0.2.size)⟩ fun hS1 => ?_
            refine wpAnyH_take (i := 11) (v := ?vf2q11) rfl (by kernel_rfl) (by kernel_rfl) (by kernel_rfl) (fun _ _ _ h => h) (.inl ⟨by first | kernel_rfl | rfl, ?yf2q11⟩) hS1 ?_
            case yf2q11 =>
              intro w' hS
              (clear hS)
              go_simp
              try with_reducible rfl
            try simp only [Act.put, List.getElem_toArray, List.getElem_cons_zero, List.getElem_cons_succ, List.setIfInBounds_toArray, List.set_cons_zero, List.set_cons_succ]
            refine wpAnyH_done (by kernel_rfl) ?_ _
            have hB2 := hS1.2
            clear hS1 hS0 hb1
            go_wp2
            go_ret
            exact ⟨ret_bool (fit_no hlt hltm He.out).symm, hB2⟩
          · have He := Lib.hid (show gcdAt zs k m ≠ 1 by rw [hgc]; exact he)
            obtain ⟨d, hd⟩ : ∃ d, Nat.gcd g q = d := ⟨_, rfl⟩
            have hdle : Nat.gcd g q ≤ g := Nat.le_of_dvd (by omega) (Nat.gcd_dvd_left _ _)
            rw [hd] at he hdle
            have hq9 : (((d : Nat) : Int) == 1) = false := by rw [beq_eq_false_iff_ne]; omega
            have He2 := Lib.hid hd
            clear hd hgc he
            go_wp2_with fail
            refine wp_region_held_drew (S := fun w' => Boxed w' w.heap.size 29 (.slice (some ⟨b, off, none⟩) zs.length cap) ∧ Below w.heap.size w w') hfw ⟨bx1, hB1.drew⟩ ?_
            intro hS0
            refine wpAnyH_take (i := 0) (v := ?vf3q0) rfl (by kernel_rfl) (by kernel_rfl) (by kernel_rfl) (fun _ _ _ h => h) (.inl ⟨by first | kernel_rfl | rfl, ?yf3q0⟩) hS0 ?_
            case yf3q0 =>
              intro w' hS
              (have k1 := hS.1.cell; have k2 := (hS.2.cell (p := ⟨b, off + k, none⟩) hb).trans x0; have k3 := (hS.2.cell (p := ⟨b, off + m, none⟩) hb).trans y0; clear hS)
              go_simp
              try with_reducible rfl
            refine wpAnyH_take (i := 1) (v := ?vf3q1) rfl (by kernel_rfl) (by kernel_rfl) (by kernel_rfl) (fun _ _ _ h => h) (.inl ⟨by first | kernel_rfl | rfl, ?yf3q1⟩) hS0 ?_
            case yf3q1 =>
              intro w' hS
              (have k1 := hS.1.cell; have k2 := (hS.2.cell (p := ⟨b, off + k, none⟩) hb).trans x0; have k3 := (hS.2.cell (p := ⟨b, off + m, none⟩) hb).trans y0; clear hS)
              go_simp
              try with_reducible rfl
            refine wpAnyH_take (i := 2) (v := ?vf3q2) rfl (by kernel_rfl) (by kernel_rfl) (by kernel_rfl) (fun _ _ _ h => h) (.inl ⟨by first | kernel_rfl | rfl, ?yf3q2⟩) hS0 ?_
            case yf3q2 =>
              intro w' hS
              (have k1 := hS.1.cell; have k2 := (hS.2.cell (p := ⟨b, off + k, none⟩) hb).trans x0; have k3 := (hS.2.cell (p := ⟨b, off + m, none⟩) hb).trans y0; clear hS)
              go_simp
              try with_reducible rfl
            refine wpAnyH_take (i := 3) (v := ?vf3q3) rfl (by kernel_rfl) (by kernel_rfl) (by kernel_rfl) (fun _ _ _ h => h) (.inl ⟨by first | kernel_rfl | rfl, ?yf3q3⟩) hS0 ?_
            case yf3q3 =>
              intro w' hS
              (have k1 := hS.1.cell; have k2 := (hS.2.cell (p := ⟨b, off + k, none⟩) hb).trans x0; have k3 := (hS.2.cell (p := ⟨b, off + m, none⟩) hb).trans y0; clear hS)
              go_simp
              try with_reducible rfl
            refine wpAnyH_take (i := 4) (v := ?vf3q4) rfl (by kernel_rfl) (by kernel_rfl) (by kernel_rfl) (fun _ _ _ h => h) (.inl ⟨by first | kernel_rfl | rfl, ?yf3q4⟩) hS0 ?_
            case yf3q4 =>
              intro w' hS
              (have k1 := hS.1.cell; have k2 := (hS.2.cell (p := ⟨b, off + k, none⟩) hb).trans x0; have k3 := (hS.2.cell (p := ⟨b, off + m, none⟩) hb).trans y0; clear hS)
              go_simp
              try with_reducible rfl
            refine wpAnyH_take (i := 5) (v := ?vf3q5) rfl (by kernel_rfl) (by kernel_rfl) (by kernel_rfl) (fun _ _ _ h => h) (.inl ⟨by first | kernel_rfl | rfl, ?yf3q5⟩) hS0 ?_
            case yf3q5 =>
              intro w' hS
              (have k1 := hS.1.cell; have k2 := (hS.2.cell (p := ⟨b, off + k, none⟩) hb).trans x0; have k3 := (hS.2.cell (p := ⟨b, off + m, none⟩) hb).trans y0; clear hS)
              go_simp
              try with_reducible rfl
            refine wpAnyH_take (i := 6) (v := ?vf3q6) rfl (by kernel_rfl) (by kernel_rfl) (by kernel_rfl) (fun _ _ _ h => h) (.inl ⟨by first | kernel_rfl | rfl, ?yf3q6⟩) hS0 ?_
            case yf3q6 =>
              intro w' hS
              (have k1 := hS.1.cell; have k2 := (hS.2.cell (p := ⟨b, off + k, none⟩) hb).trans x0; have k3 := (hS.2.cell (p := ⟨b, off + m, none⟩) hb).trans y0; clear hS)
              go_simp
              try with_reducible rfl
            refine wpAnyH_take (i := 7) (v := ?vf3q7) rfl (by kernel_rfl) (by kernel_rfl) (by kernel_rfl) (fun _ _ _ h => h) (.inl ⟨by first | kernel_rfl | rfl, ?yf3q7⟩) hS0 ?_
            case yf3q7 =>
              intro w' hS
              (have k1 := hS.1.cell; have k2 := (hS.2.cell (p := ⟨b, off + k, none⟩) hb).trans x0; have k3 := (hS.2.cell (p := ⟨b, off + m, none⟩) hb).trans y0; clear hS)
              go_simp
              try with_reducible rfl
            refine wpAnyH_take (i := 8) (v := ?vf3q8) rfl (by kernel_rfl) (by kernel_rfl) (by kernel_rfl) (fun _ _ _ h => h) (.inl ⟨by first | kernel_rfl | rfl, ?yf3q8⟩) hS0 ?_
            case yf3q8 =>
              intro w' hS
              (have k1 := hS.1.cell; have k2 := (hS.2.cell (p := ⟨b, off + k, none⟩) hb).trans x0; have k3 := (hS.2.cell (p := ⟨b, off + m, none⟩) hb).trans y0; clear hS)
              go_simp
              try with_reducible rfl
            refine wpAnyH_take (i := 9) (v := ?vf3q9) rfl (by kernel_rfl) (by kernel_rfl) (by kernel_rfl) (fun _ _ _ h => h) (.inl ⟨by first | kernel_rfl | rfl, ?yf3q9⟩) hS0 ?_
            case yf3q9 =>
              intro w' hS
              (have k1 := hS.1.cell; have k2 := (hS.2.cell (p := ⟨b, off + k, none⟩) hb).trans x0; have k3 := (hS.2.cell (p := ⟨b, off + m, none⟩) hb).trans y0; clear hS)
              go_simp
              try with_reducible rfl
            refine wpAnyH_ready (rs := [10]) (by kernel_rfl) (by simp) ?_
            refine AllReadyH.cons rfl (fun K' hK' => ?_) AllReadyH.nil
            rw [if_pos (by first | kernel_rfl | rfl)]
            go_simp
            refine (l01Gcd_c g q _ (by omega) (by omega)).mono ?_
            rintro e w1 ⟨hee, hb1⟩
            rw [He2.out] at hee
            subst hee
            refine hK'.out _ _ ⟨boxed_later hS0.1 hb1, hS0.2.trans (hb1.mono hS0.2.size)⟩ fun hS1 => ?_
            refine wpAnyH_take (i := 11) (v := (.bool false)) rfl (by kernel_rfl) (by kernel_rfl) (by kernel_rfl) (fun _ _ _ h => h) (.inl ⟨by first | kernel_rfl | rfl, ?yf4q11⟩) hS1 ?_
            case yf4q11 =>
              intro w' hS
              (clear hS)
              go_simp
              first | done | (simp; done) | (simp; omega) | omega | (simp [*]; done)
            refine wpAnyH_done (by kernel_rfl) ?_ _
            have bx2 := hS1.1
            have hB2 := hS1.2
            clear hS1 hS0 hb1
            go_wp2
            go_roundw
            case rel => exact ⟨m + 1, by omega, by simp, fun j hj => by by_cases e : j = m; exact e ▸ He.out; exact Hin.out j (by omega), bx2, hB2⟩
            case measure => simp [intOf]; omega
        · obtain rfl : m = k := by omega
          go_wp2
          go_roundw
          case rel => exact ⟨m + 1, by omega, by simp, fun j hj => by by_cases e : j = m; exact e ▸ Hin.out; exact Hall.out j (by omega), bx1, hB1⟩
          case measure => simp [intOf]; omega
    · obtain rfl : k = zs.length := by omega
      go_wp2
      go_ret
      exact ⟨ret_bool (fit_yes Hall.out).symm, hB⟩

end Go.Proofs.Ytnhdfpmjebfjmaa
