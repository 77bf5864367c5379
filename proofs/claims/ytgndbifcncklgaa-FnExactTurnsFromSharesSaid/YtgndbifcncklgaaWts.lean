/-
  Turns from shares: which task is next; nextByShares of the program.
  Conditions: lists of at most 1048576 elements.
-/
import Derived.Test.YtgndbifcncklgaaWsh
namespace Go.Proofs.Ytgndbifcncklgaa
open Go.RowKit Go.Shelf
attribute [local go_sem] Oper.semAt_some

/-- the task that gets the next slot, of the first k, for the shares g and the numbers of turns so far f -/
def pkTo (g f : Nat → Nat) : Nat → Option Nat
  | 0 => none
  | k + 1 => match pkTo g f k with
    | none => if f k < g k then some k else none
    | some j => if f k < g k ∧ (2 * f k + 1) * g j < (2 * f j + 1) * g k then some k else some j
def opI : Option Nat → Int
  | none => -1
  | some j => j
/-- what is least so far -/
def opA (f : Nat → Nat) : Option Nat → Nat
  | none => 0
  | some j => 2 * f j + 1
def opB (g : Nat → Nat) : Option Nat → Nat
  | none => 0
  | some j => g j
theorem pkTo_off {g f : Nat → Nat} {k : Nat} (h : ¬ f k < g k) : pkTo g f (k + 1) = pkTo g f k := by
  simp only [pkTo]
  cases pkTo g f k with
  | none => simp only; rw [if_neg h]
  | some j => simp only; rw [if_neg (fun c => h c.1)]
theorem pkTo_new {g f : Nat → Nat} {k : Nat} (h : f k < g k) (hp : pkTo g f k = none ∨ (2 * f k + 1) * opB g (pkTo g f k) < opA f (pkTo g f k) * g k) : pkTo g f (k + 1) = some k := by
  simp only [pkTo]
  cases hq : pkTo g f k with
  | none => simp only; rw [if_pos h]
  | some j =>
    rw [hq] at hp
    rcases hp with hp | hp
    · cases hp
    · simp only; rw [if_pos ⟨h, hp⟩]
theorem pkTo_old {g f : Nat → Nat} {k : Nat} (hn : pkTo g f k ≠ none) (hp : ¬ (2 * f k + 1) * opB g (pkTo g f k) < opA f (pkTo g f k) * g k) : pkTo g f (k + 1) = pkTo g f k := by
  simp only [pkTo]
  cases hq : pkTo g f k with
  | none => exact absurd hq hn
  | some j =>
    rw [hq] at hp
    simp only; rw [if_neg (fun c => hp c.2)]
theorem pkTo_some {g f : Nat → Nat} {k j : Nat} (h : pkTo g f k = some j) : j < k ∧ f j < g j := by
  induction k generalizing j with
  | zero => cases h
  | succ k ih =>
    simp only [pkTo] at h
    cases hq : pkTo g f k with
    | none =>
      rw [hq] at h
      simp only at h
      by_cases c : f k < g k
      · rw [if_pos c] at h; cases h; exact ⟨by omega, c⟩
      · rw [if_neg c] at h; cases h
    | some i =>
      rw [hq] at h
      simp only at h
      by_cases c : f k < g k ∧ (2 * f k + 1) * g i < (2 * f i + 1) * g k
      · rw [if_pos c] at h; cases h; exact ⟨by omega, c.1⟩
      · rw [if_neg c] at h; cases h; have := ih hq; exact ⟨by omega, this.2⟩
theorem pkTo_none {g f : Nat → Nat} {k : Nat} (h : pkTo g f k = none) : ∀ i, i < k → ¬ f i < g i := by
  induction k with
  | zero => intro i hi; omega
  | succ k ih =>
    simp only [pkTo] at h
    cases hq : pkTo g f k with
    | none =>
      rw [hq] at h
      simp only at h
      intro i hi
      by_cases e : i = k
      · subst e; intro c; rw [if_pos c] at h; cases h
      · exact ih hq i (by omega)
    | some j =>
      rw [hq] at h
      simp only at h
      split at h <;> cases h
theorem opI_bd {g f : Nat → Nat} {k : Nat} : -1 ≤ opI (pkTo g f k) ∧ opI (pkTo g f k) < k ∨ k = 0 ∧ opI (pkTo g f k) = -1 := by
  cases h : pkTo g f k with
  | none => by_cases e : k = 0
            · right; exact ⟨e, rfl⟩
            · left; simp only [opI]; omega
  | some j => have := pkTo_some h; left; simp only [opI]; omega

set_option maxRecDepth 100000 in
set_option maxHeartbeats 8000000 in
theorem nextByShares_c (sv hv : Value) (ds h : List Int) (N : Nat) (w : World) (hI : Ints w.heap.size w sv ds) (hH : Ints w.heap.size w hv h) (hS : Sho ds N) (hh : h.length = ds.length) (hb : ∀ i, i < ds.length → 0 ≤ nth h i ∧ nth h i ≤ nth ds i) :
    Calls Try.prog 85 #[sv, hv] w fun e w' => e = .returned (.int .i64 (opI (pkTo (shN ds) (shN h) ds.length))) ∧ Below w.heap.size w w' := by
  obtain ⟨a, cap, rfl⟩ := hI.shape
  obtain ⟨a2, cap2, rfl⟩ := hH.shape
  have hl := hS.len
  have HS := Lib.hid hS
  have Hb := Lib.hid hb
  have Hh := Lib.hid hh
  clear hS hb hh
  refine (callsIn_wide (n := 9)).1 ?_
  refine callsIn_of_wp_marks Try.func85 rfl trivial ?_ rfl
  simp only [Try.ntmps85, List.size_toArray, List.length_cons, List.length_nil, Nat.reduceAdd, Nat.reduceSub, Array.replicate_succ, Array.replicate_zero, List.push_toArray, List.append_toArray, List.nil_append, List.cons_append]
  gi_wp2_with (first | (gi_at_call 87; refine (callsIn_wide.2 (numbered_c _ _ _ _)).mono ?_; rintro e w' ⟨rfl, rfl⟩) | (refine ⟨trivial, ?_⟩; gi_at_call 87; refine (callsIn_wide.2 (numbered_c _ _ _ _)).mono ?_; rintro e w' ⟨rfl, rfl⟩))
  obtain ⟨W0, hW0⟩ : ∃ W0, (((w.alloc (.cells #[.slice a2 h.length cap2] 24)).alloc (.cells #[.int .i64 (-1)] 2)).alloc (.cells #[.int .i64 0, .int .i64 0] 76)).alloc (.cells #[.slice a ds.length cap] 24) = W0 := ⟨_, rfl⟩
  have hB0 : Below w.heap.size w W0 := by rw [← hW0]; exact ((((Below.refl _ w).alloc (Nat.le_refl _) _).alloc (by simp) _).alloc (by simp; omega) _).alloc (by simp; omega) _
  have hs0 : w.heap.size + 4 ≤ W0.heap.size := by rw [← hW0]; simp
  have bH : Boxed W0 w.heap.size 24 (.slice a2 h.length cap2) := by rw [← hW0]; exact (((Boxed.new _ _ _).alloc _).alloc _).alloc _
  have bX : Boxed W0 (w.heap.size + 1) 2 (.int .i64 (-1)) := by rw [← hW0]; exact ((boxed_at (by simp)).alloc _).alloc _
  have bL : Box2 W0 (w.heap.size + 1 + 1) 76 (.int .i64 0) (.int .i64 0) := by rw [← hW0]; exact (box2_at (by simp)).alloc _
  have bN : Boxed W0 (w.heap.size + 1 + 1 + 1) 24 (.slice a ds.length cap) := by rw [← hW0]; exact boxed_at (by simp)
  rw [hW0]
  clear hW0
  refine range_outA rfl (by omega) rfl trivial (enters_of Try.func124 (by kernel_rfl) rfl) (numbered_at Fence.wide 8 trivial rfl (by omega) _ w.heap.size _ ds (by omega) W0 bN (by omega) (hI.below hB0)) (fun b hb => by omega) (fun _ => rfl)
    (fun k W => (Boxed W w.heap.size 24 (.slice a2 h.length cap2) ∧ Boxed W (w.heap.size + 1) 2 (.int .i64 (opI (pkTo (shN ds) (shN h) k))) ∧ Box2 W (w.heap.size + 1 + 1) 76 (.int .i64 (opA (shN h) (pkTo (shN ds) (shN h) k) : Nat)) (.int .i64 (opB (shN ds) (pkTo (shN ds) (shN h) k) : Nat))) ∧ Below w.heap.size w W)
    (fun _ _ _ => False)
    (OwnFrom.and (OwnFrom.and (Own.from (boxed_own _ _ _) _) (OwnFrom.and (Own.from (boxed_own _ _ _) _) (Own.from (box2_own _ _ _ _) _))) (ownFrom_below (Nat.le_refl _) (by omega)))
    (fun _ _ _ _ _ hs _ _ => hs)
    ⟨⟨bH, bX, bL⟩, hB0⟩ ?a1 ?assign ?body ?done ?stop
  case assign =>
    intro l k W K hk hK
    simp only [numAt]
    gi_wp2
    exact hK
  case body =>
    rintro l k W hl' hr ⟨⟨bH1, bX1, bL1⟩, hB⟩ hlt hs
    have hn1 : ¬ Band (fun b => b < w.heap.size) W0.heap.size (W0.heap.size + 2 + 0) (w.heap.size + 1) := not_band (by omega) (by omega)
    have hn2 : ¬ Band (fun b => b < w.heap.size) W0.heap.size (W0.heap.size + 2 + 0) (w.heap.size + 1 + 1) := not_band (by omega) (by omega)
    have cH := bH1.cell
    have cX := bX1.cell
    have cL0 := bL1.c0
    have cL1 := bL1.c1
    have q1 := bH1.lt
    have q2 := bX1.lt
    have q3 := bL1.lt
    obtain ⟨b, off, rfl, hbb, hc⟩ := (hH.later hB).at_ (show k < h.length by rw [Hh.out]; exact hlt)
    have hcx := hc k (by rw [Hh.out]; exact hlt)
    have hkh : k < h.length := by rw [Hh.out]; exact hlt
    have hbk := Hb.out k hlt
    have hek := HS.out.nat k hlt
    have hfk : (shN h k : Int) = nth h k := by unfold shN; omega
    have Hoff := Lib.hid (pkTo_off (g := shN ds) (f := shN h) (k := k))
    have Hnew := Lib.hid (pkTo_new (g := shN ds) (f := shN h) (k := k))
    have Hold := Lib.hid (pkTo_old (g := shN ds) (f := shN h) (k := k))
    have Hsome := Lib.hid (fun j => pkTo_some (g := shN ds) (f := shN h) (k := k) (j := j))
    rw [← hfk] at hcx
    have Hg := Lib.hid hek.2.2
    rw [← hek.2.2]
    obtain ⟨f, hf⟩ : ∃ f, shN h k = f := ⟨_, rfl⟩
    obtain ⟨g, hg⟩ : ∃ g, shN ds k = g := ⟨_, rfl⟩
    have hfg : f ≤ g := by omega
    have hgb : g ≤ 120 := by omega
    rw [hf] at hcx
    have HF := Lib.hid hf
    have HG := Lib.hid hg
    rw [hg]
    have hfw : Try.prog.follows Departure.mixedOrders = true := by kernel_rfl
    have hdwk : (k : Int) ≤ 120 := by omega
    obtain ⟨u, hu⟩ : ∃ u, 2 * f + 1 = u := ⟨_, rfl⟩
    have m1 : 2 * (f : Int) + 1 = (u : Int) := by omega
    have hub : u ≤ 241 := by omega
    have Hu := Lib.hid hu
    clear hc hf hg hu hek hbk hfk bN bH bX bL
    cases hp : pkTo (shN ds) (shN h) k with
    | none =>
      have HP := Lib.hid hp
      rw [hp] at bX1 bL1 cX cL0 cL1
      simp only [opI, opA, opB] at bX1 bL1 cX cL0 cL1
      by_cases hlt2 : f < g
      · have hfi : (f : Int) < (g : Int) := by omega
        have E := Lib.hid (Hnew.out (by rw [HF.out, HG.out]; exact hlt2) (.inl hp))
        clear hp
        gi_wp2_with fail
        refine ⟨trivial, ?_⟩
        obtain ⟨W2, hW2⟩ : ∃ W2, W.alloc (.cells #[.int .i64 (u : Int), .int .i64 (g : Int)] 76) = W2 := ⟨_, rfl⟩
        have bD2 : Box2 W2 W.heap.size 76 (.int .i64 (u : Int)) (.int .i64 (g : Int)) := by rw [← hW2]; exact Box2.new _ _ _ _
        have bH2 := bH1.alloc (.cells #[.int .i64 (u : Int), .int .i64 (g : Int)] 76)
        have bX2 := bX1.alloc (.cells #[.int .i64 (u : Int), .int .i64 (g : Int)] 76)
        have bL2 := bL1.alloc (.cells #[.int .i64 (u : Int), .int .i64 (g : Int)] 76)
        have hB2 := hB.alloc hB.size (.cells #[.int .i64 (u : Int), .int .i64 (g : Int)] 76)
        have hk2 := Kps.alloc (Band (fun b => b < w.heap.size) W0.heap.size (W0.heap.size + 2 + 0)) W (.cells #[.int .i64 (u : Int), .int .i64 (g : Int)] 76)
        rw [hW2] at bH2 bX2 bL2 hB2 hk2 ⊢
        obtain ⟨dw, hdw⟩ : ∃ dw, W.heap.size = dw := ⟨_, rfl⟩
        rw [hdw] at bD2 ⊢
        have hdw1 : w.heap.size + 4 ≤ dw := by omega
        clear hW2 bH1 bX1 bL1 cH cX cL0 cL1 m1
        gi_wp2_with fail
        refine wpIn_region_held (S := fun w' => Box2 w' dw 76 (.int .i64 (u : Int)) (.int .i64 (g : Int)) ∧ True) hfw (by kernel_rfl) (fun ⟨_, _, h⟩ => h) ⟨bD2, trivial⟩ ?_
        intro hS0
        refine wpAnyH_take (i := 0) (v := ?vn10) rfl (by kernel_rfl) (by kernel_rfl) (by kernel_rfl) (fun _ _ _ h => h) (.inl ⟨by first | kernel_rfl | rfl, ?yn10⟩) hS0 ?_
        case yn10 =>
          intro w' hS
          (have k1 := hS.1.c0; have k2 := hS.1.c1; clear hS)
          go_simp
          try with_reducible rfl
        refine wpAnyH_take (i := 1) (v := ?vn11) rfl (by kernel_rfl) (by kernel_rfl) (by kernel_rfl) (fun _ _ _ h => h) (.inl ⟨by first | kernel_rfl | rfl, ?yn11⟩) hS0 ?_
        case yn11 =>
          intro w' hS
          (have k1 := hS.1.c0; have k2 := hS.1.c1; clear hS)
          go_simp
          try with_reducible rfl
        try simp only [Act.put, List.getElem_toArray, List.getElem_cons_zero, List.getElem_cons_succ, List.setIfInBounds_toArray, List.set_cons_zero, List.set_cons_succ]
        have fX := bX2.frozen
        have dX := bX2.cell
        have f0 := bL2.frozen 0
        have f1 := bL2.frozen 1
        have l0 := bL2.c0
        have l1 := bL2.c1
        refine wpAnyH_ready (rs := [2]) (by kernel_rfl) (by simp) ?_
        refine AllReadyH.cons rfl (fun K' hK' => ?_) AllReadyH.nil
        rw [if_pos (by first | kernel_rfl | rfl)]
        go_simp
        refine hK'.out _ _ ⟨bD2.other (by omega) _, trivial⟩ fun hS1 => ?_
        clear hK'
        refine wpAnyH_ready (rs := [3]) (by kernel_rfl) (by simp) ?_
        refine AllReadyH.cons rfl (fun K' hK' => ?_) AllReadyH.nil
        rw [if_pos (by first | kernel_rfl | rfl)]
        go_simp
        refine hK'.out _ _ ⟨((bD2.other (b' := w.heap.size + 1) (i := 0) (by omega) (.int .i64 (k : Int))).other (b' := w.heap.size + 1 + 1) (i := 0) (by omega) (.int .i64 (u : Int))).other (b' := w.heap.size + 1 + 1) (i := 1) (by omega) (.int .i64 (g : Int)), trivial⟩ fun hS2 => ?_
        refine wpAnyH_done (by kernel_rfl) ?_ _
        have k5 := ((hk2.trans (Kps.setCell W2 _ 0 (.int .i64 (k : Int)) hn1)).trans (Kps.setCell _ _ 0 (.int .i64 (u : Int)) hn2)).trans (Kps.setCell _ _ 1 (.int .i64 (g : Int)) hn2)
        have b5 := ((hB2.setCell (p := ⟨w.heap.size + 1, 0, none⟩) (by simp) (.int .i64 (k : Int))).setCell (p := ⟨w.heap.size + 1 + 1, 0, none⟩) (by simp; omega) (.int .i64 (u : Int))).setCell (p := ⟨w.heap.size + 1 + 1, 1, none⟩) (by simp; omega) (.int .i64 (g : Int))
        have h5 := ((bH2.other (B' := w.heap.size + 1) (by omega) (.int .i64 (k : Int))).kept (grownBy_setC _ (w.heap.size + 1 + 1) 0 (.int .i64 (u : Int))) (by simp <;> omega)).kept (grownBy_setC _ (w.heap.size + 1 + 1) 1 (.int .i64 (g : Int))) (by simp <;> omega)
        have x5 := ((bX2.set (.int .i64 (k : Int))).kept (grownBy_setC _ (w.heap.size + 1 + 1) 0 (.int .i64 (u : Int))) (by simp <;> omega)).kept (grownBy_setC _ (w.heap.size + 1 + 1) 1 (.int .i64 (g : Int))) (by simp <;> omega)
        have l5 := ((bL2.other (b' := w.heap.size + 1) (i := 0) (by omega) (.int .i64 (k : Int))).set0 (.int .i64 (u : Int))).set1 (.int .i64 (g : Int))
        clear bH2 bX2 bL2 hB2 hk2 fX dX f0 f1 l0 l1
        gi_wp2
        exact ⟨⟨k5.size, k5.same⟩, ⟨h5, by rw [E.out]; exact x5, by rw [E.out]; show Box2 _ _ _ (.int .i64 ((2 * shN h k + 1 : Nat) : Int)) (.int .i64 (shN ds k : Nat)); rw [HF.out, HG.out, Hu.out]; exact l5⟩, b5.drew⟩
      · have hfi : ¬ (f : Int) < (g : Int) := by omega
        have E := Lib.hid ((Hoff.out (by rw [HF.out, HG.out]; exact hlt2)).trans HP.out)
        gi_wp2_with fail
        all_goals try (rename_i hx hy; exact absurd hx (by simp [undef]))
        refine ⟨trivial, ?_⟩
        gi_wp2
        exact ⟨(Kps.alloc _ W _), ⟨bH1.alloc _, by rw [E.out]; exact bX1.alloc _, by rw [E.out]; exact bL1.alloc _⟩, hB.alloc hB.size _⟩
    | some j =>
      have hj := Hsome.out j hp
      have HP := Lib.hid hp
      have hje := HS.out.nat j (by omega)
      rw [hp] at bX1 bL1 cX cL0 cL1
      simp only [opI, opA, opB] at bX1 bL1 cX cL0 cL1
      have hjn : ((j : Int) == -1) = false := by simp
      by_cases hlt2 : f < g
      · have hfi : (f : Int) < (g : Int) := by omega
        have hjb := Hb.out j (by omega)
        obtain ⟨x, hx⟩ : ∃ x, 2 * shN h j + 1 = x := ⟨_, rfl⟩
        obtain ⟨y, hy⟩ : ∃ y, shN ds j = y := ⟨_, rfl⟩
        have hxb : x ≤ 241 := by have : shN h j ≤ 120 := by (unfold shN; omega)
                                 omega
        have hyb : y ≤ 120 := by omega
        have hA : opA (shN h) (pkTo (shN ds) (shN h) k) = x := by rw [hp]; exact hx
        have hO : opB (shN ds) (pkTo (shN ds) (shN h) k) = y := by rw [hp]; exact hy
        rw [hx] at bL1 cL0
        rw [hy] at bL1 cL1
        have HA := Lib.hid hA
        have HO := Lib.hid hO
        have hp1 : u * y ≤ 241 * 120 := Nat.mul_le_mul hub hyb
        have hp2 : x * g ≤ 241 * 120 := Nat.mul_le_mul hxb hgb
        clear hx hy hA hO hje hjb
        obtain ⟨W2, hW2⟩ : ∃ W2, W.alloc (.cells #[.int .i64 (u : Int), .int .i64 (g : Int)] 76) = W2 := ⟨_, rfl⟩
        have bD2 : Box2 W2 W.heap.size 76 (.int .i64 (u : Int)) (.int .i64 (g : Int)) := by rw [← hW2]; exact Box2.new _ _ _ _
        have bH2 := bH1.alloc (.cells #[.int .i64 (u : Int), .int .i64 (g : Int)] 76)
        have bX2 := bX1.alloc (.cells #[.int .i64 (u : Int), .int .i64 (g : Int)] 76)
        have bL2 := bL1.alloc (.cells #[.int .i64 (u : Int), .int .i64 (g : Int)] 76)
        have hB2 := hB.alloc hB.size (.cells #[.int .i64 (u : Int), .int .i64 (g : Int)] 76)
        have hk2 := Kps.alloc (Band (fun b => b < w.heap.size) W0.heap.size (W0.heap.size + 2 + 0)) W (.cells #[.int .i64 (u : Int), .int .i64 (g : Int)] 76)
        have hs2 : W.heap.size ≤ W2.heap.size := by rw [← hW2]; simp
        rw [hW2] at bH2 bX2 bL2 hB2 hk2
        have HW2 := Lib.hid hW2
        clear hW2
        by_cases hcmp : u * y < x * g
        · have E := Lib.hid (Hnew.out (by rw [HF.out, HG.out]; exact hlt2) (.inr (by rw [HA.out, HO.out, HF.out, HG.out, Hu.out]; exact hcmp)))
          gi_wp2_with fail
          rw [HW2.out]
          refine ⟨trivial, (callsIn_wide.2 (isLess_c u g x y _ true (by simp; omega) (by omega) (by omega))).mono ?_⟩
          rintro e w5 ⟨rfl, hb5⟩
          replace bD2 := bD2.later hb5
          replace bH2 := boxed_later bH2 hb5
          replace bX2 := boxed_later bX2 hb5
          replace bL2 := bL2.later hb5
          replace hB2 := hB2.trans (hb5.mono hB2.size)
          replace hk2 := hk2.trans (show Kps (Band (fun b => b < w.heap.size) W0.heap.size (W0.heap.size + 2 + 0)) W2 w5 from ⟨hb5.size, fun j _ hj => hb5.block j hj⟩)
          have hs5 := hb5.size
          clear hb5 bH1 bX1 bL1 cH cX cL0 cL1 m1 hp
          obtain ⟨dw, hdw⟩ : ∃ dw, W.heap.size = dw := ⟨_, rfl⟩
          rw [hdw] at bD2 ⊢
          have hdw1 : w.heap.size + 4 ≤ dw := by omega
          gi_wp2_with fail
          refine wpIn_region_held (S := fun w' => Box2 w' dw 76 (.int .i64 (u : Int)) (.int .i64 (g : Int)) ∧ True) hfw (by kernel_rfl) (fun ⟨_, _, h⟩ => h) ⟨bD2, trivial⟩ ?_
          intro hS0
          refine wpAnyH_take (i := 0) (v := ?vs10) rfl (by kernel_rfl) (by kernel_rfl) (by kernel_rfl) (fun _ _ _ h => h) (.inl ⟨by first | kernel_rfl | rfl, ?ys10⟩) hS0 ?_
          case ys10 =>
            intro w' hS
            (have k1 := hS.1.c0; have k2 := hS.1.c1; clear hS)
            go_simp
            try with_reducible rfl
          refine wpAnyH_take (i := 1) (v := ?vs11) rfl (by kernel_rfl) (by kernel_rfl) (by kernel_rfl) (fun _ _ _ h => h) (.inl ⟨by first | kernel_rfl | rfl, ?ys11⟩) hS0 ?_
          case ys11 =>
            intro w' hS
            (have k1 := hS.1.c0; have k2 := hS.1.c1; clear hS)
            go_simp
            try with_reducible rfl
          try simp only [Act.put, List.getElem_toArray, List.getElem_cons_zero, List.getElem_cons_succ, List.setIfInBounds_toArray, List.set_cons_zero, List.set_cons_succ]
          have fX := bX2.frozen
          have dX := bX2.cell
          have f0 := bL2.frozen 0
          have f1 := bL2.frozen 1
          have l0 := bL2.c0
          have l1 := bL2.c1
          refine wpAnyH_ready (rs := [2]) (by kernel_rfl) (by simp) ?_
          refine AllReadyH.cons rfl (fun K' hK' => ?_) AllReadyH.nil
          rw [if_pos (by first | kernel_rfl | rfl)]
          go_simp
          refine hK'.out _ _ ⟨bD2.other (by omega) _, trivial⟩ fun hS1 => ?_
          clear hK'
          refine wpAnyH_ready (rs := [3]) (by kernel_rfl) (by simp) ?_
          refine AllReadyH.cons rfl (fun K' hK' => ?_) AllReadyH.nil
          rw [if_pos (by first | kernel_rfl | rfl)]
          go_simp
          refine hK'.out _ _ ⟨((bD2.other (b' := w.heap.size + 1) (i := 0) (by omega) (.int .i64 (k : Int))).other (b' := w.heap.size + 1 + 1) (i := 0) (by omega) (.int .i64 (u : Int))).other (b' := w.heap.size + 1 + 1) (i := 1) (by omega) (.int .i64 (g : Int)), trivial⟩ fun hS2 => ?_
          refine wpAnyH_done (by kernel_rfl) ?_ _
          have k5 := ((hk2.trans (Kps.setCell w5 _ 0 (.int .i64 (k : Int)) hn1)).trans (Kps.setCell _ _ 0 (.int .i64 (u : Int)) hn2)).trans (Kps.setCell _ _ 1 (.int .i64 (g : Int)) hn2)
          have b5 := ((hB2.setCell (p := ⟨w.heap.size + 1, 0, none⟩) (by simp) (.int .i64 (k : Int))).setCell (p := ⟨w.heap.size + 1 + 1, 0, none⟩) (by simp; omega) (.int .i64 (u : Int))).setCell (p := ⟨w.heap.size + 1 + 1, 1, none⟩) (by simp; omega) (.int .i64 (g : Int))
          have h5 := ((bH2.other (B' := w.heap.size + 1) (by omega) (.int .i64 (k : Int))).kept (grownBy_setC _ (w.heap.size + 1 + 1) 0 (.int .i64 (u : Int))) (by simp <;> omega)).kept (grownBy_setC _ (w.heap.size + 1 + 1) 1 (.int .i64 (g : Int))) (by simp <;> omega)
          have x5 := ((bX2.set (.int .i64 (k : Int))).kept (grownBy_setC _ (w.heap.size + 1 + 1) 0 (.int .i64 (u : Int))) (by simp <;> omega)).kept (grownBy_setC _ (w.heap.size + 1 + 1) 1 (.int .i64 (g : Int))) (by simp <;> omega)
          have l5 := ((bL2.other (b' := w.heap.size + 1) (i := 0) (by omega) (.int .i64 (k : Int))).set0 (.int .i64 (u : Int))).set1 (.int .i64 (g : Int))
          clear bH2 bX2 bL2 hB2 hk2 fX dX f0 f1 l0 l1
          gi_wp2
          exact ⟨⟨k5.size, k5.same⟩, ⟨h5, by rw [E.out]; exact x5, by rw [E.out]; show Box2 _ _ _ (.int .i64 ((2 * shN h k + 1 : Nat) : Int)) (.int .i64 (shN ds k : Nat)); rw [HF.out, HG.out, Hu.out]; exact l5⟩, b5.drew⟩
        · have E := Lib.hid ((Hold.out (by rw [hp]; simp) (by rw [HA.out, HO.out, HF.out, HG.out, Hu.out]; exact hcmp)).trans HP.out)
          gi_wp2_with fail
          rw [HW2.out]
          refine ⟨trivial, (callsIn_wide.2 (isLess_c u g x y _ false (by simp; omega) (by omega) (by omega))).mono ?_⟩
          rintro e w5 ⟨rfl, hb5⟩
          replace bD2 := bD2.later hb5
          replace bH2 := boxed_later bH2 hb5
          replace bX2 := boxed_later bX2 hb5
          replace bL2 := bL2.later hb5
          replace hB2 := hB2.trans (hb5.mono hB2.size)
          replace hk2 := hk2.trans (show Kps (Band (fun b => b < w.heap.size) W0.heap.size (W0.heap.size + 2 + 0)) W2 w5 from ⟨hb5.size, fun j _ hj => hb5.block j hj⟩)
          have hs5 := hb5.size
          clear hb5 bH1 bX1 bL1 cH cX cL0 cL1 m1 hp
          gi_wp2
          exact ⟨hk2, ⟨bH2, by rw [E.out]; exact bX2, by rw [E.out]; show Box2 _ _ _ (.int .i64 ((2 * shN h j + 1 : Nat) : Int)) (.int .i64 (shN ds j : Nat)); rw [show 2 * shN h j + 1 = x by rw [← HA.out, HP.out]; rfl, show shN ds j = y by rw [← HO.out, HP.out]; rfl]; exact bL2⟩, hB2⟩
      · have hfi : ¬ (f : Int) < (g : Int) := by omega
        have E := Lib.hid ((Hoff.out (by rw [HF.out, HG.out]; exact hlt2)).trans HP.out)
        gi_wp2_with fail
        all_goals try (rename_i hx hy; exact absurd hx (by simp [undef]))
        refine ⟨trivial, ?_⟩
        gi_wp2
        exact ⟨(Kps.alloc _ W _), ⟨bH1.alloc _, by rw [E.out]; exact bX1.alloc _, by rw [E.out]; exact bL1.alloc _⟩, hB.alloc hB.size _⟩
  case done =>
    rintro D W hD ⟨⟨bH1, bX1, bL1⟩, hB⟩ hK
    have cX := bX1.cell
    gi_wp2
    exact retM1 hK ⟨_, results_tmp rfl _ _ _, rfl, below_shut hB (by omega)⟩
  case stop =>
    rintro D c k W hD hk h
    exact h.elim

end Go.Proofs.Ytgndbifcncklgaa
