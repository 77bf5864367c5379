/-
  DoFit of both; a loop over an iterator whose variable lies in a box of one cell.
  Conditions: lists of at most 1048576 elements.
-/
import Derived.Test.YtckkhgpciglbmaaDens
import Derived.Test.YtckkhgpciglbmaaShift
import Derived.Test.YtckkhgpciglbmaaMiss
namespace Go.Proofs.Ytckkhgpciglbmaa
open Go.RowKit Go.Shelf
attribute [local go_sem] Oper.semAt_some

section
variable {F : Fence} {n : Nat} {P : Program}
/-- A LOOP WHOSE VARIABLE LIES IN A BOX OF ONE CELL, which each round lays anew. -/
theorem range_out1 (T : TypeId) (u : Nat → Value) {g : Operand} {ps : Array Tmp} {assign body : Code} {Q : Exit → Act → World → Prop} {a : Act} {w : World} (hro : F.round = none) (h1 : 1 ≤ n)
    {gf : Nat} {lb : Array Value} (hg : a.eval g = .func (.func gf) #[] lb) (hFg : F.fn gf) (eg : ∀ args w, (callFunc gf args).run P w = .ok (.enter gf args) w)
    {enc : Nat → Array Value} {Keep : Nat → Prop} {c N : Nat} (hseq : SeqAt F (n - 1) P gf lb enc Keep c N w) (hKeep : ∀ b, Keep b → b < w.heap.size) (hps : ∀ k, (enc k).size = ps.size)
    (I : Nat → World → Prop) (Ix : Code → Nat → World → Prop) (hI : OwnFrom w.heap.size I) (hIx : ∀ c, OwnFrom w.heap.size (Ix c)) (h0 : I 0 w) (a₁ : Nat → Nat → Act)
    (hassign : ∀ (l k b : Nat) (W : World) (K : Act → World → Prop), k < N → W.heap.size = b → K (a₁ k b) (W.alloc (.cells #[u k] T)) →
      assign.wpIn (F.inRound l) (n - 1 - 1) P (Exit.then K (fun _ _ _ => False)) { tmps := (ps.zip (enc k)).foldl (fun t (p, v) => t.setIfInBounds p v) a.tmps, defers := [] } W)
    (hbody : ∀ (l k b : Nat) (W : World), w.heap.size ≤ l → (∃ r, W.heap[l]? = some (.loop r)) → I k W → w.heap.size + 2 + c ≤ b → Boxed W b T (u k) → k < N → w.heap.size + 2 + c ≤ W.heap.size → body.wpIn (F.inRound l) (n - 1 - 1) P (roundEnd (Band Keep w.heap.size (w.heap.size + 2 + c)) I Ix k W) (a₁ k b) W)
    (hdone : ∀ (D : Nat) (W : World), w.heap.size ≤ D ∧ D < w.heap.size + 2 → I N W → W.heap[D]? = some (.deferred (some [])) → Q .normal { a with defers := { target := .collected D, args := #[] } :: a.defers } W)
    (hstop : ∀ (D : Nat) (c : Code) (k : Nat) (W : World), w.heap.size ≤ D ∧ D < w.heap.size + 2 → k ≤ N → Ix c k W → W.heap[D]? = some (.deferred (some [])) → c.wpIn F n P Q { a with defers := { target := .collected D, args := #[] } :: a.defers } W) :
    (Code.rangeFunc g ps assign body).wpIn F n P Q a w :=
  range_out hro h1 hg hFg eg hseq hKeep hps I Ix hI hIx h0 (fun k a' W => ∃ b, w.heap.size + 2 + c ≤ b ∧ a' = a₁ k b ∧ Boxed W b T (u k))
    (fun k a' s A B row ⟨b, h1, h2, h3⟩ hg hr => ⟨b, h1, h2, (Own.from (boxed_own b T (fun (_ : Unit) => u k)) w.heap.size) () A B row h3 hg hr⟩)
    (fun l k W K hi hk hs hK => hassign l k W.heap.size W K hk rfl (hK _ _ (Kps.alloc _ _ _) (hI.alloc _ hi) ⟨W.heap.size, hs, rfl, Boxed.new _ _ _⟩))
    (fun l k a' W hl hr hi ⟨b, h1, h2, h3⟩ hk hs => by subst h2; exact hbody l k b W hl hr hi h1 h3 hk hs) hdone hstop
end

/-! ### the mathematics -/
def gcdAt (zs : List Int) (i k : Nat) : Nat := Nat.gcd (nth zs i).toNat (nth zs k).toNat
def fitB (zs : List Int) : Bool := decide (∀ i, i < zs.length → ∀ k, k < i → gcdAt zs i k ≠ 1)
theorem fit_yes {zs : List Int} (h : ∀ i, i < zs.length → ∀ k, k < i → gcdAt zs i k ≠ 1) : fitB zs = true := decide_eq_true h
theorem fit_no {zs : List Int} {i k : Nat} (hi : i < zs.length) (hk : k < i) (h : gcdAt zs i k = 1) : fitB zs = false := decide_eq_false fun ha => ha i hi k hk h
def fiC (zs : List Int) : Int := if tasksOk zs then 0 else 1
def fiV (zs : List Int) : Bool := tasksOk zs && fitB zs
theorem gap_nat {zs : List Int} (ht : tasksOk zs = true) {i : Nat} (hi : i < zs.length) : ∃ g : Nat, nth zs i = g ∧ 1 ≤ g ∧ g ≤ 40 := ⟨(nth zs i).toNat, by have := tasksOk_nth ht hi; omega, by have := tasksOk_nth ht hi; omega, by have := tasksOk_nth ht hi; omega⟩

/-! ### the model -/
set_option maxRecDepth 100000 in
set_option maxHeartbeats 8000000 in
theorem l05Fit_c (c0 : Value) (zs : List Int) (w : World) (hI : Ints w.heap.size w c0 zs) (ht : tasksOk zs = true) :
    Calls Try.prog 128 #[.agg #[c0]] w fun e w' => e = .returned (.bool (fitB zs)) ∧ Below w.heap.size w w' := by
  obtain ⟨a, cap, rfl⟩ := hI.shape
  have hl := tasksOk_len ht
  have Ht := Lib.hid ht
  have hfw : Try.prog.follows Departure.mixedOrders = true := by kernel_rfl
  have hB0 : Below w.heap.size w (w.alloc (.cells #[.slice a zs.length cap] 28)) := (Below.refl _ w).alloc (Nat.le_refl _) _
  have b0 : Boxed (w.alloc (.cells #[.slice a zs.length cap] 28)) w.heap.size 28 (.slice a zs.length cap) := Boxed.new _ _ _
  clear ht
  go_enter Try.func128, Try.ntmps128
  go_wp2
  go_loopw [3] (fun i wr => ∃ k : Nat, k ≤ zs.length ∧ i = .int .i64 k ∧ (∀ j, j < k → ∀ m, m < j → gcdAt zs j m ≠ 1) ∧ Boxed wr w.heap.size 28 (.slice a zs.length cap) ∧ Below w.heap.size w wr) (fun i _ => zs.length - (intOf i).toNat)
  case atStart => exact ⟨0, Nat.zero_le _, rfl, by omega, b0, hB0⟩
  case round =>
    obtain ⟨k, hk, rfl, hall, bx, hB⟩ := hrel
    have Hall := Lib.hid hall
    clear hall b0 hB0
    have cx := bx.cell
    by_cases hlt : k < zs.length
    · have hlt' : (k : Int) < (zs.length : Int) := by omega
      go_wp2
      clear cx
      go_loopw [4] (fun i wr => ∃ m : Nat, m ≤ k ∧ i = .int .i64 m ∧ (∀ j, j < m → gcdAt zs k j ≠ 1) ∧ Boxed wr w.heap.size 28 (.slice a zs.length cap) ∧ Below w.heap.size w wr) (fun i _ => k - (intOf i).toNat)
      case atStart => exact ⟨0, Nat.zero_le _, rfl, by omega, bx, hB⟩
      case round =>
        obtain ⟨m, hmk, rfl, hin, bx1, hB1⟩ := hrel
        have Hin := Lib.hid hin
        clear hin hB bx
        by_cases hltm : m < k
        · obtain ⟨b, off, rfl, hb, hc⟩ := hI.at_ hlt
          have x0 := hc k hlt
          have y0 := hc m (by omega)
          have hltm' : (m : Int) < (k : Int) := by omega
          have hltm2 : (m : Int) < (zs.length : Int) := by omega
          obtain ⟨g, hg, hg1, hg2⟩ := gap_nat Ht.out hlt
          obtain ⟨q, hq, hq1, hq2⟩ := gap_nat Ht.out (i := m) (by omega)
          have hgc : gcdAt zs k m = Nat.gcd g q := by unfold gcdAt; rw [hg, hq]; rfl
          rw [hg] at x0
          rw [hq] at y0
          clear hc hg hq
          by_cases he : Nat.gcd g q = 1
          · have He := Lib.hid (hgc.trans he)
            have He2 := Lib.hid he
            clear he hgc
            go_wp2_with fail
            refine wp_region_held_drew (S := fun w' => Boxed w' w.heap.size 28 (.slice (some ⟨b, off, none⟩) zs.length cap) ∧ Below w.heap.size w w') hfw ⟨bx1, hB1.drew⟩ ?_
            intro hS0
            refine wpAnyH_take (i := 0) (v := ?vf1q0) rfl (by kernel_rfl) (by kernel_rfl) (by kernel_rfl) (fun _ _ _ h => h) (.inl ⟨by first | kernel_rfl | rfl, ?yf1q0⟩) hS0 ?_
            case yf1q0 =>
              intro w' hS
              (have k1 := hS.1.cell; have k2 := (hS.2.cell (p := ⟨b, off + k, none⟩) hb).trans x0; have k3 := (hS.2.cell (p := ⟨b, off + m, none⟩) hb).trans y0; clear hS)
              go_simp
              try with_reducible rfl
            refine wpAnyH_take (i := 1) (v := ?vf1q1) rfl (by kernel_rfl) (by kernel_rfl) (by kernel_rfl) (fun _ _ _ h => h) (.inl ⟨by first | kernel_rfl | rfl, ?yf1q1⟩) hS0 ?_
            case yf1q1 =>
              intro w' hS
              (have k1 := hS.1.cell; have k2 := (hS.2.cell (p := ⟨b, off + k, none⟩) hb).trans x0; have k3 := (hS.2.cell (p := ⟨b, off + m, none⟩) hb).trans y0; clear hS)
              go_simp
              try with_reducible rfl
            refine wpAnyH_take (i := 2) (v := ?vf1q2) rfl (by kernel_rfl) (by kernel_rfl) (by kernel_rfl) (fun _ _ _ h => h) (.inl ⟨by first | kernel_rfl | rfl, ?yf1q2⟩) hS0 ?_
            case yf1q2 =>
              intro w' hS
              (have k1 := hS.1.cell; have k2 := (hS.2.cell (p := ⟨b, off + k, none⟩) hb).trans x0; have k3 := (hS.2.cell (p := ⟨b, off + m, none⟩) hb).trans y0; clear hS)
              go_simp
              try with_reducible rfl
            refine wpAnyH_take (i := 3) (v := ?vf1q3) rfl (by kernel_rfl) (by kernel_rfl) (by kernel_rfl) (fun _ _ _ h => h) (.inl ⟨by first | kernel_rfl | rfl, ?yf1q3⟩) hS0 ?_
            case yf1q3 =>
              intro w' hS
              (have k1 := hS.1.cell; have k2 := (hS.2.cell (p := ⟨b, off + k, none⟩) hb).trans x0; have k3 := (hS.2.cell (p := ⟨b, off + m, none⟩) hb).trans y0; clear hS)
              go_simp
              try with_reducible rfl
            refine wpAnyH_take (i := 4) (v := ?vf1q4) rfl (by kernel_rfl) (by kernel_rfl) (by kernel_rfl) (fun _ _ _ h => h) (.inl ⟨by first | kernel_rfl | rfl, ?yf1q4⟩) hS0 ?_
            case yf1q4 =>
              intro w' hS
              (have k1 := hS.1.cell; have k2 := (hS.2.cell (p := ⟨b, off + k, none⟩) hb).trans x0; have k3 := (hS.2.cell (p := ⟨b, off + m, none⟩) hb).trans y0; clear hS)
              go_simp
              try with_reducible rfl
            refine wpAnyH_take (i := 5) (v := ?vf1q5) rfl (by kernel_rfl) (by kernel_rfl) (by kernel_rfl) (fun _ _ _ h => h) (.inl ⟨by first | kernel_rfl | rfl, ?yf1q5⟩) hS0 ?_
            case yf1q5 =>
              intro w' hS
              (have k1 := hS.1.cell; have k2 := (hS.2.cell (p := ⟨b, off + k, none⟩) hb).trans x0; have k3 := (hS.2.cell (p := ⟨b, off + m, none⟩) hb).trans y0; clear hS)
              go_simp
              try with_reducible rfl
            refine wpAnyH_take (i := 6) (v := ?vf1q6) rfl (by kernel_rfl) (by kernel_rfl) (by kernel_rfl) (fun _ _ _ h => h) (.inl ⟨by first | kernel_rfl | rfl, ?yf1q6⟩) hS0 ?_
            case yf1q6 =>
              intro w' hS
              (have k1 := hS.1.cell; have k2 := (hS.2.cell (p := ⟨b, off + k, none⟩) hb).trans x0; have k3 := (hS.2.cell (p := ⟨b, off + m, none⟩) hb).trans y0; clear hS)
              go_simp
              try with_reducible rfl
            refine wpAnyH_take (i := 7) (v := ?vf1q7) rfl (by kernel_rfl) (by kernel_rfl) (by kernel_rfl) (fun _ _ _ h => h) (.inl ⟨by first | kernel_rfl | rfl, ?yf1q7⟩) hS0 ?_
            case yf1q7 =>
              intro w' hS
              (have k1 := hS.1.cell; have k2 := (hS.2.cell (p := ⟨b, off + k, none⟩) hb).trans x0; have k3 := (hS.2.cell (p := ⟨b, off + m, none⟩) hb).trans y0; clear hS)
              go_simp
              try with_reducible rfl
            refine wpAnyH_take (i := 8) (v := ?vf1q8) rfl (by kernel_rfl) (by kernel_rfl) (by kernel_rfl) (fun _ _ _ h => h) (.inl ⟨by first | kernel_rfl | rfl, ?yf1q8⟩) hS0 ?_
            case yf1q8 =>
              intro w' hS
              (have k1 := hS.1.cell; have k2 := (hS.2.cell (p := ⟨b, off + k, none⟩) hb).trans x0; have k3 := (hS.2.cell (p := ⟨b, off + m, none⟩) hb).trans y0; clear hS)
              go_simp
              try with_reducible rfl
            refine wpAnyH_take (i := 9) (v := ?vf1q9) rfl (by kernel_rfl) (by kernel_rfl) (by kernel_rfl) (fun _ _ _ h => h) (.inl ⟨by first | kernel_rfl | rfl, ?yf1q9⟩) hS0 ?_
            case yf1q9 =>
              intro w' hS
              (have k1 := hS.1.cell; have k2 := (hS.2.cell (p := ⟨b, off + k, none⟩) hb).trans x0; have k3 := (hS.2.cell (p := ⟨b, off + m, none⟩) hb).trans y0; clear hS)
              go_simp
              try with_reducible rfl
            refine wpAnyH_ready (rs := [10]) (by kernel_rfl) (by simp) ?_
            refine AllReadyH.cons rfl (fun K' hK' => ?_) AllReadyH.nil
            rw [if_pos (by first | kernel_rfl | rfl)]
            go_simp
            refine (l01Gcd_c g q _ (by omega) (by omega)).mono ?_
            rintro e w1 ⟨hee, hb1⟩
            rw [He2.out] at hee
            subst hee
            refine hK'.out _ _ ⟨boxed_later hS0.1 hb1, hS0.2.trans (hb1.mono hS0.2.size)⟩ fun hS1 => ?_
            refine wpAnyH_take (i := 11) (v := ?vf2q11) rfl (by kernel_rfl) (by kernel_rfl) (by kernel_rfl) (fun _ _ _ h => h) (.inl ⟨by first | kernel_rfl | rfl, ?yf2q11⟩) hS1 ?_
            case yf2q11 =>
              intro w' hS
              (clear hS)
              go_simp
              try with_reducible rfl
            try simp only [Act.put, List.getElem_toArray, List.getElem_cons_zero, List.getElem_cons_succ, List.setIfInBounds_toArray, List.set_cons_zero, List.set_cons_succ]
            refine wpAnyH_done (by kernel_rfl) ?_ _
            have hB2 := hS1.2
            clear hS1 hS0 hb1
            go_wp2
            go_ret
            exact ⟨ret_bool (fit_no hlt hltm He.out).symm, hB2⟩
          · have He := Lib.hid (show gcdAt zs k m ≠ 1 by rw [hgc]; exact he)
            obtain ⟨d, hd⟩ : ∃ d, Nat.gcd g q = d := ⟨_, rfl⟩
            have hdle : Nat.gcd g q ≤ g := Nat.le_of_dvd (by omega) (Nat.gcd_dvd_left _ _)
            rw [hd] at he hdle
            have hq9 : (((d : Nat) : Int) == 1) = false := by rw [beq_eq_false_iff_ne]; omega
            have He2 := Lib.hid hd
            clear hd hgc he
            go_wp2_with fail
            refine wp_region_held_drew (S := fun w' => Boxed w' w.heap.size 28 (.slice (some ⟨b, off, none⟩) zs.length cap) ∧ Below w.heap.size w w') hfw ⟨bx1, hB1.drew⟩ ?_
            intro hS0
            refine wpAnyH_take (i := 0) (v := ?vf3q0) rfl (by kernel_rfl) (by kernel_rfl) (by kernel_rfl) (fun _ _ _ h => h) (.inl ⟨by first | kernel_rfl | rfl, ?yf3q0⟩) hS0 ?_
            case yf3q0 =>
              intro w' hS
              (have k1 := hS.1.cell; have k2 := (hS.2.cell (p := ⟨b, off + k, none⟩) hb).trans x0; have k3 := (hS.2.cell (p := ⟨b, off + m, none⟩) hb).trans y0; clear hS)
              go_simp
              try with_reducible rfl
            refine wpAnyH_take (i := 1) (v := ?vf3q1) rfl (by kernel_rfl) (by kernel_rfl) (by kernel_rfl) (fun _ _ _ h => h) (.inl ⟨by first | kernel_rfl | rfl, ?yf3q1⟩) hS0 ?_
            case yf3q1 =>
              intro w' hS
              (have k1 := hS.1.cell; have k2 := (hS.2.cell (p := ⟨b, off + k, none⟩) hb).trans x0; have k3 := (hS.2.cell (p := ⟨b, off + m, none⟩) hb).trans y0; clear hS)
              go_simp
              try with_reducible rfl
            refine wpAnyH_take (i := 2) (v := ?vf3q2) rfl (by kernel_rfl) (by kernel_rfl) (by kernel_rfl) (fun _ _ _ h => h) (.inl ⟨by first | kernel_rfl | rfl, ?yf3q2⟩) hS0 ?_
            case yf3q2 =>
              intro w' hS
              (have k1 := hS.1.cell; have k2 := (hS.2.cell (p := ⟨b, off + k, none⟩) hb).trans x0; have k3 := (hS.2.cell (p := ⟨b, off + m, none⟩) hb).trans y0; clear hS)
              go_simp
              try with_reducible rfl
            refine wpAnyH_take (i := 3) (v := ?vf3q3) rfl (by kernel_rfl) (by kernel_rfl) (by kernel_rfl) (fun _ _ _ h => h) (.inl ⟨by first | kernel_rfl | rfl, ?yf3q3⟩) hS0 ?_
            case yf3q3 =>
              intro w' hS
              (have k1 := hS.1.cell; have k2 := (hS.2.cell (p := ⟨b, off + k, none⟩) hb).trans x0; have k3 := (hS.2.cell (p := ⟨b, off + m, none⟩) hb).trans y0; clear hS)
              go_simp
              try with_reducible rfl
            refine wpAnyH_take (i := 4) (v := ?vf3q4) rfl (by kernel_rfl) (by kernel_rfl) (by kernel_rfl) (fun _ _ _ h => h) (.inl ⟨by first | kernel_rfl | rfl, ?yf3q4⟩) hS0 ?_
            case yf3q4 =>
              intro w' hS
              (have k1 := hS.1.cell; have k2 := (hS.2.cell (p := ⟨b, off + k, none⟩) hb).trans x0; have k3 := (hS.2.cell (p := ⟨b, off + m, none⟩) hb).trans y0; clear hS)
              go_simp
              try with_reducible rfl
            refine wpAnyH_take (i := 5) (v := ?vf3q5) rfl (by kernel_rfl) (by kernel_rfl) (by kernel_rfl) (fun _ _ _ h => h) (.inl ⟨by first | kernel_rfl | rfl, ?yf3q5⟩) hS0 ?_
            case yf3q5 =>
              intro w' hS
              (have k1 := hS.1.cell; have k2 := (hS.2.cell (p := ⟨b, off + k, none⟩) hb).trans x0; have k3 := (hS.2.cell (p := ⟨b, off + m, none⟩) hb).trans y0; clear hS)
              go_simp
              try with_reducible rfl
            refine wpAnyH_take (i := 6) (v := ?vf3q6) rfl (by kernel_rfl) (by kernel_rfl) (by kernel_rfl) (fun _ _ _ h => h) (.inl ⟨by first | kernel_rfl | rfl, ?yf3q6⟩) hS0 ?_
            case yf3q6 =>
              intro w' hS
              (have k1 := hS.1.cell; have k2 := (hS.2.cell (p := ⟨b, off + k, none⟩) hb).trans x0; have k3 := (hS.2.cell (p := ⟨b, off + m, none⟩) hb).trans y0; clear hS)
              go_simp
              try with_reducible rfl
            refine wpAnyH_take (i := 7) (v := ?vf3q7) rfl (by kernel_rfl) (by kernel_rfl) (by kernel_rfl) (fun _ _ _ h => h) (.inl ⟨by first | kernel_rfl | rfl, ?yf3q7⟩) hS0 ?_
            case yf3q7 =>
              intro w' hS
              (have k1 := hS.1.cell; have k2 := (hS.2.cell (p := ⟨b, off + k, none⟩) hb).trans x0; have k3 := (hS.2.cell (p := ⟨b, off + m, none⟩) hb).trans y0; clear hS)
              go_simp
              try with_reducible rfl
            refine wpAnyH_take (i := 8) (v := ?vf3q8) rfl (by kernel_rfl) (by kernel_rfl) (by kernel_rfl) (fun _ _ _ h => h) (.inl ⟨by first | kernel_rfl | rfl, ?yf3q8⟩) hS0 ?_
            case yf3q8 =>
              intro w' hS
              (have k1 := hS.1.cell; have k2 := (hS.2.cell (p := ⟨b, off + k, none⟩) hb).trans x0; have k3 := (hS.2.cell (p := ⟨b, off + m, none⟩) hb).trans y0; clear hS)
              go_simp
              try with_reducible rfl
            refine wpAnyH_take (i := 9) (v := ?vf3q9) rfl (by kernel_rfl) (by kernel_rfl) (by kernel_rfl) (fun _ _ _ h => h) (.inl ⟨by first | kernel_rfl | rfl, ?yf3q9⟩) hS0 ?_
            case yf3q9 =>
              intro w' hS
              (have k1 := hS.1.cell; have k2 := (hS.2.cell (p := ⟨b, off + k, none⟩) hb).trans x0; have k3 := (hS.2.cell (p := ⟨b, off + m, none⟩) hb).trans y0; clear hS)
              go_simp
              try with_reducible rfl
            refine wpAnyH_ready (rs := [10]) (by kernel_rfl) (by simp) ?_
            refine AllReadyH.cons rfl (fun K' hK' => ?_) AllReadyH.nil
            rw [if_pos (by first | kernel_rfl | rfl)]
            go_simp
            refine (l01Gcd_c g q _ (by omega) (by omega)).mono ?_
            rintro e w1 ⟨hee, hb1⟩
            rw [He2.out] at hee
            subst hee
            refine hK'.out _ _ ⟨boxed_later hS0.1 hb1, hS0.2.trans (hb1.mono hS0.2.size)⟩ fun hS1 => ?_
            refine wpAnyH_take (i := 11) (v := (.bool false)) rfl (by kernel_rfl) (by kernel_rfl) (by kernel_rfl) (fun _ _ _ h => h) (.inl ⟨by first | kernel_rfl | rfl, ?yf4q11⟩) hS1 ?_
            case yf4q11 =>
              intro w' hS
              (clear hS)
              go_simp
              first | done | (simp; done) | (simp; omega) | omega | (simp [*]; done)
            refine wpAnyH_done (by kernel_rfl) ?_ _
            have bx2 := hS1.1
            have hB2 := hS1.2
            clear hS1 hS0 hb1
            go_wp2
            go_roundw
            case rel => exact ⟨m + 1, by omega, by simp, fun j hj => by by_cases e : j = m; exact e ▸ He.out; exact Hin.out j (by omega), bx2, hB2⟩
            case measure => simp [intOf]; omega
        · obtain rfl : m = k := by omega
          go_wp2
          go_roundw
          case rel => exact ⟨m + 1, by omega, by simp, fun j hj => by by_cases e : j = m; exact e ▸ Hin.out; exact Hall.out j (by omega), bx1, hB1⟩
          case measure => simp [intOf]; omega
    · obtain rfl : k = zs.length := by omega
      go_wp2
      go_ret
      exact ⟨ret_bool (fit_yes Hall.out).symm, hB⟩

theorem s_DoFit (c0 : Value) (zs : List Int) (w : World) (hI : Ints w.heap.size w c0 zs) (_hN : I64s zs) (hm : zs.length ≤ 1048576) (_hcp : CapOk c0 zs.length) :
    Calls Try.prog 73 #[.agg #[c0]] w fun e w' => e = .returned (.tuple #[.bool (fiV zs), .int .i64 (fiC zs)]) ∧ Below w.heap.size w w' := by
  obtain ⟨a, cap, rfl⟩ := hI.shape
  have hB0 : Below w.heap.size w (w.alloc (.cells #[.slice a zs.length cap] 28)) := (Below.refl _ w).alloc (Nat.le_refl _) _
  cases h : tasksOk zs
  · have Hv := Lib.hid (show fiV zs = false by unfold fiV; rw [h]; rfl)
    have Hc := Lib.hid (show fiC zs = 1 by unfold fiC; rw [h]; rfl)
    have H := Lib.hid h
    clear h
    go_enter Try.func73, Try.ntmps73
    go_wp2_with fail
    refine (l01Is_c _ zs _ (hI.later hB0) (by omega)).mono ?_
    rintro e w1 ⟨he, hb⟩
    rw [H.out] at he
    subst he
    go_wp2
    go_ret2
    exact ⟨by rw [Hv.out, Hc.out]; rfl, hB0.trans (hb.mono (by simp))⟩
  · have Hv := Lib.hid (show fiV zs = fitB zs by unfold fiV; rw [h]; rfl)
    have Hc := Lib.hid (show fiC zs = 0 by unfold fiC; rw [h]; rfl)
    have H := Lib.hid h
    clear h
    go_enter Try.func73, Try.ntmps73
    go_wp2_with fail
    refine (l01Is_c _ zs _ (hI.later hB0) (by omega)).mono ?_
    rintro e w1 ⟨he, hb⟩
    rw [H.out] at he
    subst he
    have b1 : Boxed w1 w.heap.size 28 (.slice a zs.length cap) := boxed_later (Boxed.new _ _ _) hb
    have k1 := b1.cell
    have hB1 := hB0.trans (hb.mono (by simp))
    go_wp2_with fail
    refine (l05Fit_c _ zs _ (hI.later hB1) H.out).mono ?_
    rintro e w2 ⟨rfl, hb2⟩
    go_wp2
    go_ret2
    exact ⟨by rw [Hv.out, Hc.out]; rfl, hB1.trans (hb2.mono hB1.size)⟩

/-! ### the program -/
set_option maxRecDepth 100000 in
set_option maxHeartbeats 8000000 in
theorem i_DoFit (c0 : Value) (zs : List Int) (w : World) (hI : Ints w.heap.size w c0 zs) (_hN : I64s zs) (hm : zs.length ≤ 1048576) (hcp : CapOk c0 zs.length) :
    Calls Try.prog 74 #[.agg #[c0]] w fun e w' => e = .returned (.tuple #[.bool (fiV zs), .int .i64 (fiC zs)]) ∧ Below w.heap.size w w' := by
  obtain ⟨a, cap, rfl⟩ := hI.shape
  obtain ⟨_, _, hce, hcap, hcapm⟩ := hcp
  cases hce
  unfold maxLen at hcapm
  refine (callsIn_wide (n := 9)).1 ?_
  cases h : tasksOk zs
  · have Hv := Lib.hid (show fiV zs = false by unfold fiV; rw [h]; rfl)
    have Hc := Lib.hid (show fiC zs = 1 by unfold fiC; rw [h]; rfl)
    have H := Lib.hid h
    clear h
    refine callsIn_of_wp_marks Try.func74 rfl trivial ?_ rfl
    simp only [Try.ntmps74, List.size_toArray, List.length_cons, List.length_nil, Nat.reduceAdd, Nat.reduceSub, Array.replicate_succ, Array.replicate_zero, List.push_toArray, List.append_toArray, List.nil_append, List.cons_append]
    gi_wp2_with fail
    obtain ⟨W0, hW0⟩ : ∃ W0, (((w.alloc (.cells #[.slice a zs.length cap] 28)).alloc (.cells #[.bool false] 4)).alloc (.cells #[.int .i64 0] 2)) = W0 := ⟨_, rfl⟩
    have hB0 : Below w.heap.size w W0 := by rw [← hW0]; exact ((((Below.refl _ w).alloc (Nat.le_refl _) _).alloc (by simp; try omega) _).alloc (by simp; try omega) _)
    have hs0 : w.heap.size + 3 ≤ W0.heap.size := by rw [← hW0]; simp
    have bG : Boxed W0 (w.heap.size) 28 (.slice a zs.length cap) := by rw [← hW0]; repeat first | (refine boxed_at ?_; (simp; done)) | refine Boxed.alloc ?_ _
    have bX : Boxed W0 (w.heap.size + 1) 4 (.bool false) := by rw [← hW0]; repeat first | (refine boxed_at ?_; (simp; done)) | refine Boxed.alloc ?_ _
    have bY : Boxed W0 (w.heap.size + 1 + 1) 2 (.int .i64 0) := by rw [← hW0]; repeat first | (refine boxed_at ?_; (simp; done)) | refine Boxed.alloc ?_ _
    rw [hW0]
    clear hW0
    refine ⟨trivial, (callsIn_wide.2 (isTasks_c _ zs _ (hI.later hB0) (by omega))).mono ?_⟩
    rintro e w1 ⟨he, hb⟩
    rw [H.out] at he
    subst he
    have hB1 := hB0.trans (hb.mono (by omega))
    replace bG := boxed_later bG hb
    replace bX := boxed_later bX hb
    replace bY := boxed_later bY hb
    have fX := bX.frozen
    have fY := bY.frozen
    have dX := bX.cell
    have dY := bY.cell
    clear hb
    gi_wp2
    have cX := ((bX.set (.bool false)).other (B' := w.heap.size + 1 + 1) (by omega) (.int .i64 1)).cell
    have cY := ((bY.other (B' := w.heap.size + 1) (by omega) (.bool false)).set (.int .i64 1)).cell
    exact retM0 ⟨.tuple #[.bool false, .int .i64 1], by simp [results, Try.f74, go_sem, cX, cY], by rw [Hv.out, Hc.out], (hB1.setCell (p := ⟨w.heap.size + 1, 0, none⟩) (by show w.heap.size ≤ w.heap.size + 1; omega) _).setCell (p := ⟨w.heap.size + 1 + 1, 0, none⟩) (by show w.heap.size ≤ w.heap.size + 1 + 1; omega) _⟩
  have hl := tasksOk_len h
  have Hc := Lib.hid (show fiC zs = 0 by unfold fiC; rw [h]; rfl)
  have Hv := Lib.hid (show fiV zs = fitB zs by unfold fiV; rw [h]; rfl)
  have H := Lib.hid h
  clear h
  refine callsIn_of_wp_marks Try.func74 rfl trivial ?_ rfl
  simp only [Try.ntmps74, List.size_toArray, List.length_cons, List.length_nil, Nat.reduceAdd, Nat.reduceSub, Array.replicate_succ, Array.replicate_zero, List.push_toArray, List.append_toArray, List.nil_append, List.cons_append]
  gi_wp2_with fail
  obtain ⟨W0, hW0⟩ : ∃ W0, (((w.alloc (.cells #[.slice a zs.length cap] 28)).alloc (.cells #[.bool false] 4)).alloc (.cells #[.int .i64 0] 2)) = W0 := ⟨_, rfl⟩
  have hB0 : Below w.heap.size w W0 := by rw [← hW0]; exact ((((Below.refl _ w).alloc (Nat.le_refl _) _).alloc (by simp; try omega) _).alloc (by simp; try omega) _)
  have hs0 : w.heap.size + 3 ≤ W0.heap.size := by rw [← hW0]; simp
  have bG : Boxed W0 (w.heap.size) 28 (.slice a zs.length cap) := by rw [← hW0]; repeat first | (refine boxed_at ?_; (simp; done)) | refine Boxed.alloc ?_ _
  have bX : Boxed W0 (w.heap.size + 1) 4 (.bool false) := by rw [← hW0]; repeat first | (refine boxed_at ?_; (simp; done)) | refine Boxed.alloc ?_ _
  have bY : Boxed W0 (w.heap.size + 1 + 1) 2 (.int .i64 0) := by rw [← hW0]; repeat first | (refine boxed_at ?_; (simp; done)) | refine Boxed.alloc ?_ _
  rw [hW0]
  clear hW0
  refine ⟨trivial, (callsIn_wide.2 (isTasks_c _ zs _ (hI.later hB0) (by omega))).mono ?_⟩
  rintro e w1 ⟨he, hb⟩
  rw [H.out] at he
  subst he
  have hB1 := hB0.trans (hb.mono (by omega))
  have hs1 := hb.size
  replace bG := boxed_later bG hb
  replace bX := boxed_later bX hb
  replace bY := boxed_later bY hb
  have cG := bG.cell
  clear hb hB0
  gi_wp2_with (first | (gi_at_call 129; refine (callsIn_wide.2 (numbered_c _ _ _ _)).mono ?_; rintro e w' ⟨rfl, rfl⟩) | (refine ⟨trivial, ?_⟩; gi_at_call 129; refine (callsIn_wide.2 (numbered_c _ _ _ _)).mono ?_; rintro e w' ⟨rfl, rfl⟩))
  obtain ⟨W2, hW2⟩ : ∃ W2, (w1.alloc (.cells #[.slice a zs.length cap] 22)) = W2 := ⟨_, rfl⟩
  have hB2 : Below w1.heap.size w1 W2 := by rw [← hW2]; exact ((Below.refl _ w1).alloc (Nat.le_refl _) _)
  have hs2 : w1.heap.size + 1 ≤ W2.heap.size := by rw [← hW2]; simp
  have bN : Boxed W2 (w1.heap.size) 22 (.slice a zs.length cap) := by rw [← hW2]; repeat first | (refine boxed_at ?_; (simp; done)) | refine Boxed.alloc ?_ _
  rw [hW2]
  clear hW2
  replace bG := boxed_later bG hB2
  replace bX := boxed_later bX hB2
  replace bY := boxed_later bY hB2
  have hB3 := hB1.trans (hB2.mono (by omega))
  clear hB1 hB2 cG
  refine range_out1 2 (fun k => .int .i64 (nth zs k)) (Keep := fun b => b < w.heap.size) (c := 0) rfl (by omega) rfl trivial (enters_of Try.func163 (by kernel_rfl) rfl) (numbered_at Fence.wide 8 trivial rfl (by omega) _ w.heap.size _ zs (by omega) W2 bN (by omega) (hI.below hB3)) (fun b hb => by omega) (fun _ => rfl)
    (fun k W => (∀ j, j < k → ∀ m, m < j → gcdAt zs j m ≠ 1) ∧ Boxed W w.heap.size 28 (.slice a zs.length cap) ∧ Boxed W (w.heap.size + 1) 4 (.bool false) ∧ Boxed W (w.heap.size + 1 + 1) 2 (.int .i64 0) ∧ Below w.heap.size w W)
    (fun c _ W => (c = .ret ∧ fitB zs = false) ∧ Boxed W (w.heap.size + 1) 4 (.bool false) ∧ Boxed W (w.heap.size + 1 + 1) 2 (.int .i64 0) ∧ Below w.heap.size w W)
    (by repeat' (first | exact ownFrom_pure _ _ | exact Own.from (boxed_own _ _ _) _ | exact Own.from (ownI_Own _ _ _) _ | exact Own.from (ownB_Own _ _ _) _ | exact ownFrom_below (Nat.le_refl _) (by omega) | exact ownFrom_kps (by omega) | apply OwnFrom.and)) (fun _ => (by repeat' (first | exact ownFrom_pure _ _ | exact Own.from (boxed_own _ _ _) _ | exact Own.from (ownI_Own _ _ _) _ | exact Own.from (ownB_Own _ _ _) _ | exact ownFrom_below (Nat.le_refl _) (by omega) | exact ownFrom_kps (by omega) | apply OwnFrom.and))) ⟨by omega, bG, bX, bY, hB3⟩ ?a1 ?assign ?body ?done ?stop
  case assign =>
    intro l k b W K hk hb hK
    simp only [numAt]
    gi_wp2_with fail
    exact hK
  case body =>
    rintro l k b W hl' hr ⟨hall, bG1, bX1, bY1, hB⟩ hbb bS hk hs
    have Hall := Lib.hid hall
    clear hall bG bX bY bN hB3
    obtain ⟨b0, off, rfl, hb0, hc⟩ := (hI.below hB).at_ hk
    have hkc : (k : Int) ≤ (cap : Int) := by omega
    have cG := bG1.cell
    have hbW := bS.lt
    have hsW := hB.size
    clear hc
    gi_wp2_with (first | (gi_at_call 129; refine (callsIn_wide.2 (numbered_c _ _ _ _)).mono ?_; rintro e w' ⟨rfl, rfl⟩) | (refine ⟨trivial, ?_⟩; gi_at_call 129; refine (callsIn_wide.2 (numbered_c _ _ _ _)).mono ?_; rintro e w' ⟨rfl, rfl⟩))
    obtain ⟨W4, hW4⟩ : ∃ W4, (W.alloc (.cells #[.slice (some ⟨b0, off, none⟩) k cap] 22)) = W4 := ⟨_, rfl⟩
    have hB4 : Below W.heap.size W W4 := by rw [← hW4]; exact ((Below.refl _ W).alloc (Nat.le_refl _) _)
    have hs4 : W.heap.size + 1 ≤ W4.heap.size := by rw [← hW4]; simp
    have bM : Boxed W4 (W.heap.size) 22 (.slice (some ⟨b0, off, none⟩) k cap) := by rw [← hW4]; repeat first | (refine boxed_at ?_; (simp; done)) | refine Boxed.alloc ?_ _
    rw [hW4]
    clear hW4
    replace bG1 := boxed_later bG1 hB4
    replace bX1 := boxed_later bX1 hB4
    replace bY1 := boxed_later bY1 hB4
    replace bS := boxed_later bS hB4
    have hB5 := hB.trans (hB4.mono (by omega))
    obtain ⟨r0, hr0⟩ := hr
    have hlw : l < W.heap.size := (Array.getElem?_eq_some_iff.1 hr0).1
    have hr2 := (hB4.block l hlw).trans hr0
    have hkp : Kps (Band (fun b => b < w.heap.size) W2.heap.size (W2.heap.size + 2 + 0)) W W4 := Kps.below hB4
    have hlt2 : (zs.take k).length = k := by simp; omega
    have hIt : Ints w.heap.size W4 (.slice (some ⟨b0, off, none⟩) k cap) (zs.take k) := ints_take (hI.below hB5) (by omega)
    have Hlt := Lib.hid hlt2
    clear cG hr0 hB4 hB hlt2
    refine range_inA (Keep := fun b => b < w.heap.size) rfl hr2 (by omega) rfl trivial (enters_of Try.func163 (by kernel_rfl) rfl) ((numbered_at Fence.wide 6 trivial rfl (by omega) _ w.heap.size _ (zs.take k) (by rw [Hlt.out]; omega) W4 bM (by omega) hIt).inRound l) (fun b hb => by omega) (fun _ => rfl)
      (fun i W' => (∀ j, j < i → gcdAt zs k j ≠ 1) ∧ (Boxed W' w.heap.size 28 (.slice (some ⟨b0, off, none⟩) zs.length cap) ∧ Boxed W' b 2 (.int .i64 (nth zs k))) ∧ (Boxed W' (w.heap.size + 1) 4 (.bool false) ∧ Boxed W' (w.heap.size + 1 + 1) 2 (.int .i64 0)) ∧ Below w.heap.size w W' ∧ Kps (Band (fun b => b < w.heap.size) W2.heap.size (W2.heap.size + 2 + 0)) W W')
      (fun c _ W' => (c = .ret ∧ fitB zs = false) ∧ (Boxed W' (w.heap.size + 1) 4 (.bool false) ∧ Boxed W' (w.heap.size + 1 + 1) 2 (.int .i64 0)) ∧ Below w.heap.size w W' ∧ Kps (Band (fun b => b < w.heap.size) W2.heap.size (W2.heap.size + 2 + 0)) W W')
      (by repeat' (first | exact ownFrom_pure _ _ | exact Own.from (boxed_own _ _ _) _ | exact Own.from (ownI_Own _ _ _) _ | exact Own.from (ownB_Own _ _ _) _ | exact ownFrom_below (Nat.le_refl _) (by omega) | exact ownFrom_kps (by omega) | apply OwnFrom.and)) (fun _ => (by repeat' (first | exact ownFrom_pure _ _ | exact Own.from (boxed_own _ _ _) _ | exact Own.from (ownI_Own _ _ _) _ | exact Own.from (ownB_Own _ _ _) _ | exact ownFrom_below (Nat.le_refl _) (by omega) | exact ownFrom_kps (by omega) | apply OwnFrom.and))) ⟨by omega, ⟨bG1, bS⟩, ⟨bX1, bY1⟩, hB5, hkp⟩ ?b1 ?assign2 ?body2 ?done2 ?stop2
    case assign2 =>
      intro l2 i W' K hi hK
      simp only [numAt]
      gi_wp2
      exact hK
    case body2 =>
      rintro l2 i W' hl2 hr3 ⟨hno2, ⟨bG2, bS2⟩, ⟨bX2, bY2⟩, hB6, hkp2⟩ hi hs'
      rw [Hlt.out] at hi
      have Hno2 := Lib.hid hno2
      obtain ⟨g, hg, hg1, hg2⟩ := gap_nat H.out hk
      obtain ⟨q, hq, hq1, hq2⟩ := gap_nat H.out (i := i) (by omega)
      have hgc : gcdAt zs k i = Nat.gcd g q := by unfold gcdAt; rw [hg, hq]; rfl
      have cS := bS2.cell
      have fX := bX2.frozen
      have fY := bY2.frozen
      rw [hg] at cS
      have htk : nth (zs.take k) i = q := by rw [nth_take hi, hq]
      rw [htk]
      have Hg := Lib.hid hg
      clear hno2 hg hq htk
      obtain ⟨d, hd⟩ : ∃ d, Nat.gcd g q = d := ⟨_, rfl⟩
      have hdle : Nat.gcd g q ≤ g := Nat.le_of_dvd (by omega) (Nat.gcd_dvd_left _ _)
      rw [hd] at hdle hgc
      have Hd := Lib.hid hd
      clear hd
      by_cases he : d = 1
      · subst he
        have Hf := Lib.hid (fit_no hk hi hgc)
        clear hgc
        gi_wp2_with fail
        refine ⟨trivial, (callsIn_wide.2 (greatestDivisor_c g q _ (by omega) (by omega))).mono ?_⟩
        rintro e w9 ⟨hee, hb9⟩
        rw [Hd.out] at hee
        subst hee
        have bX9 := boxed_later bX2 hb9
        have bY9 := boxed_later bY2 hb9
        have fX9 := bX9.frozen
        have fY9 := bY9.frozen
        have dX9 := bX9.cell
        have dY9 := bY9.cell
        have hB9 := hB6.trans (hb9.mono hB6.size)
        have hk9 : Kps (Band (fun b => b < w.heap.size) W4.heap.size (W4.heap.size + 1 + 0)) W' w9 := Kps.below hb9
        have hk8 := hkp2.trans (Kps.below hb9)
        clear hb9 fX fY cS
        gi_wp2
        refine ⟨hk9.trans ((Kps.setCell _ _ _ _ (not_band (by omega) (by omega))).trans (Kps.setCell _ _ _ _ (not_band (by omega) (by omega)))), ⟨rfl, Hf.out⟩, ⟨(bX9.set _).other (by omega) _, (bY9.other (by omega) _).set _⟩,
          (hB9.setCell (p := ⟨w.heap.size + 1, 0, none⟩) (by show w.heap.size ≤ w.heap.size + 1; omega) _).setCell (p := ⟨w.heap.size + 1 + 1, 0, none⟩) (by show w.heap.size ≤ w.heap.size + 1 + 1; omega) _, hk8.trans ((Kps.setCell _ _ _ _ (not_band (by omega) (by omega))).trans (Kps.setCell _ _ _ _ (not_band (by omega) (by omega))))⟩
      · have hq9 : (((d : Nat) : Int) == 1) = false := by rw [beq_eq_false_iff_ne]; omega
        have He := Lib.hid (show gcdAt zs k i ≠ 1 by rw [hgc]; exact he)
        clear he hgc
        gi_wp2_with fail
        refine ⟨trivial, (callsIn_wide.2 (greatestDivisor_c g q _ (by omega) (by omega))).mono ?_⟩
        rintro e w9 ⟨hee, hb9⟩
        rw [Hd.out] at hee
        subst hee
        have bX9 := boxed_later bX2 hb9
        have bY9 := boxed_later bY2 hb9
        have bG9 := boxed_later bG2 hb9
        have bS9 := boxed_later bS2 hb9
        have hB9 := hB6.trans (hb9.mono hB6.size)
        have hk9 : Kps (Band (fun b => b < w.heap.size) W4.heap.size (W4.heap.size + 1 + 0)) W' w9 := Kps.below hb9
        have hk8 := hkp2.trans (Kps.below hb9)
        clear hb9 fX fY cS
        gi_wp2
        exact ⟨hk9, fun j hj => by by_cases e : j = i; exact e ▸ He.out; exact Hno2.out j (by omega), ⟨bG9, bS9⟩, ⟨bX9, bY9⟩, hB9, hk8⟩
    case done2 =>
      rintro W' ⟨hno2, ⟨bG2, bS2⟩, ⟨bX2, bY2⟩, hB6, hkp2⟩
      rw [Hlt.out] at hno2
      have Hno2 := Lib.hid hno2
      clear hno2
      gi_wp2
      exact ⟨hkp2, fun j hj => by by_cases e : j = k; exact e ▸ Hno2.out; exact Hall.out j (by omega), bG2, bX2, bY2, hB6⟩
    case stop2 =>
      rintro c j W' hj ⟨⟨rfl, hf⟩, ⟨bX2, bY2⟩, hB6, hkp2⟩
      gi_wp2
      exact ⟨hkp2, ⟨rfl, hf⟩, bX2, bY2, hB6⟩
  case done =>
    rintro D W hD ⟨hall, bG1, bX1, bY1, hB⟩ hK
    have Hf := Lib.hid (fit_yes hall)
    have fX := bX1.frozen
    have fY := bY1.frozen
    have dX := bX1.cell
    have dY := bY1.cell
    clear hall bG bX bY bN hB3
    gi_wp2
    have hK' := (KeepsOthers.setCell (W.setCell ⟨w.heap.size + 1, 0, none⟩ (.bool true)) ⟨w.heap.size + 1 + 1, 0, none⟩ (.int .i64 0)).same D _ ((KeepsOthers.setCell W ⟨w.heap.size + 1, 0, none⟩ (.bool true)).same D _ hK rfl) rfl
    have cX := (boxed_shut ((bX1.set (.bool true)).other (B' := w.heap.size + 1 + 1) (by omega) (.int .i64 0)) hK').cell
    have cY := (boxed_shut ((bY1.other (B' := w.heap.size + 1) (by omega) (.bool true)).set (.int .i64 0)) hK').cell
    exact retM1 hK' ⟨.tuple #[.bool true, .int .i64 0], by simp [results, Try.f74, go_sem, cX, cY], by rw [Hv.out, Hc.out, Hf.out], below_shut ((hB.setCell (p := ⟨w.heap.size + 1, 0, none⟩) (by show w.heap.size ≤ w.heap.size + 1; omega) _).setCell (p := ⟨w.heap.size + 1 + 1, 0, none⟩) (by show w.heap.size ≤ w.heap.size + 1 + 1; omega) _) (by omega)⟩
  case stop =>
    rintro D c k W hD hk ⟨⟨rfl, hf⟩, bX1, bY1, hB⟩ hK
    have Hf := Lib.hid hf
    clear hf bG bX bY bN hB3
    gi_wp2
    have cX := (boxed_shut bX1 hK).cell
    have cY := (boxed_shut bY1 hK).cell
    exact retM1 hK ⟨.tuple #[.bool false, .int .i64 0], by simp [results, Try.f74, go_sem, cX, cY], by rw [Hv.out, Hc.out, Hf.out], below_shut hB (by omega)⟩

end Go.Proofs.Ytckkhgpciglbmaa
