/-
  Shares by weights: which task gets a further slot; nextByWeights of the program.
  Conditions: lists of at most 1048576 elements.
-/
import Derived.Test.YtgndbifcncklgaaWmb
import Derived.Test.YtgndbifcncklgaaWsh
namespace Go.Proofs.Ytgndbifcncklgaa
open Go.RowKit Go.Shelf
attribute [local go_sem] Oper.semAt_some

/-- the first task of the greatest right, of the first k, for the weights w and the divisors t -/
def bwTo (w t : Nat → Nat) : Nat → Nat
  | 0 => 0
  | k + 1 => if w (bwTo w t k) * t k < w k * t (bwTo w t k) then k else bwTo w t k
/-- the program's way: the task and its right, 0 / 1 at first -/
def gwTo (w t : Nat → Nat) : Nat → Nat × Nat × Nat
  | 0 => (0, 0, 1)
  | k + 1 => if (gwTo w t k).2.1 * t k < w k * (gwTo w t k).2.2 then (k, w k, t k) else gwTo w t k
theorem gwTo_yes {w t : Nat → Nat} {k : Nat} (h : (gwTo w t k).2.1 * t k < w k * (gwTo w t k).2.2) : gwTo w t (k + 1) = (k, w k, t k) := by simp only [gwTo]; rw [if_pos h]
theorem gwTo_no {w t : Nat → Nat} {k : Nat} (h : ¬ (gwTo w t k).2.1 * t k < w k * (gwTo w t k).2.2) : gwTo w t (k + 1) = gwTo w t k := by simp only [gwTo]; rw [if_neg h]
theorem bwTo_le (w t : Nat → Nat) (k : Nat) : bwTo w t k ≤ k := by
  induction k with
  | zero => exact Nat.le_refl _
  | succ k ih => simp only [bwTo]; split <;> omega
theorem gw_bw {w t : Nat → Nat} {n : Nat} (ht : ∀ i, i < n → 0 < t i) {k : Nat} (hkn : k ≤ n) : (gwTo w t k).1 = bwTo w t k ∧ ((w (bwTo w t k) = 0 ∧ bwTo w t k = 0 ∧ (gwTo w t k).2 = (0, 1)) ∨ (0 < w (bwTo w t k) ∧ (gwTo w t k).2 = (w (bwTo w t k), t (bwTo w t k))) ∨ (k = 0 ∧ bwTo w t k = 0 ∧ (gwTo w t k).2 = (0, 1))) := by
  induction k with
  | zero => exact ⟨rfl, .inr (.inr ⟨rfl, rfl, rfl⟩)⟩
  | succ k ih =>
    obtain ⟨h1, h2⟩ := ih (by omega)
    have hb := ht (bwTo w t k) (by have := bwTo_le w t k; omega)
    have hk := ht k (by omega)
    rcases h2 with ⟨a1, a2, a3⟩ | ⟨a1, a3⟩ | ⟨a0, a2, a3⟩
    · by_cases c : 0 < w k
      · have c1 : (gwTo w t k).2.1 * t k < w k * (gwTo w t k).2.2 := by rw [a3]; simp; exact c
        have c2 : w (bwTo w t k) * t k < w k * t (bwTo w t k) := by rw [a1, Nat.zero_mul]; exact Nat.mul_pos c hb
        have e2 : bwTo w t (k + 1) = k := by simp only [bwTo]; rw [if_pos c2]
        rw [gwTo_yes c1, e2]
        exact ⟨rfl, .inr (.inl ⟨c, rfl⟩)⟩
      · have c0 : w k = 0 := by omega
        have c1 : ¬ (gwTo w t k).2.1 * t k < w k * (gwTo w t k).2.2 := by rw [a3, c0]; simp
        have c2 : ¬ w (bwTo w t k) * t k < w k * t (bwTo w t k) := by rw [c0]; simp
        have e2 : bwTo w t (k + 1) = bwTo w t k := by simp only [bwTo]; rw [if_neg c2]
        rw [gwTo_no c1, e2]
        exact ⟨h1, .inl ⟨a1, a2, a3⟩⟩
    · by_cases c : w (bwTo w t k) * t k < w k * t (bwTo w t k)
      · have c1 : (gwTo w t k).2.1 * t k < w k * (gwTo w t k).2.2 := by rw [a3]; exact c
        have e2 : bwTo w t (k + 1) = k := by simp only [bwTo]; rw [if_pos c]
        have hp : 0 < w k := Nat.pos_of_ne_zero fun e => by rw [e, Nat.zero_mul] at c; omega
        rw [gwTo_yes c1, e2]
        exact ⟨rfl, .inr (.inl ⟨hp, rfl⟩)⟩
      · have c1 : ¬ (gwTo w t k).2.1 * t k < w k * (gwTo w t k).2.2 := by rw [a3]; exact c
        have e2 : bwTo w t (k + 1) = bwTo w t k := by simp only [bwTo]; rw [if_neg c]
        rw [gwTo_no c1, e2]
        exact ⟨h1, .inr (.inl ⟨a1, a3⟩)⟩
    · subst a0
      have c2 : ¬ w (bwTo w t 0) * t 0 < w 0 * t (bwTo w t 0) := by rw [a2]; exact Nat.lt_irrefl _
      have e2 : bwTo w t (0 + 1) = bwTo w t 0 := if_neg c2
      by_cases c : 0 < w 0
      · have c1 : (gwTo w t 0).2.1 * t 0 < w 0 * (gwTo w t 0).2.2 := by rw [a3]; simp; exact c
        rw [gwTo_yes c1, e2, a2]
        exact ⟨rfl, .inr (.inl ⟨c, rfl⟩)⟩
      · have c0 : w 0 = 0 := by omega
        have c1 : ¬ (gwTo w t 0).2.1 * t 0 < w 0 * (gwTo w t 0).2.2 := by rw [a3, c0]; simp
        rw [gwTo_no c1, e2]
        exact ⟨h1, .inl ⟨by rw [a2]; exact c0, a2, a3⟩⟩
theorem bwTo_lt (w t : Nat → Nat) {k : Nat} (h : 0 < k) : bwTo w t k < k := by
  induction k with
  | zero => omega
  | succ k ih =>
    simp only [bwTo]
    split
    · omega
    · by_cases e : k = 0
      · subst e; simp [bwTo]
      · have := ih (by omega); omega
/-- the divisors for the shares so far -/
def dvN (h : List Int) (i : Nat) : Nat := shN h i * (shN h i + 1)
theorem gwTo_bd {ws h : List Int} {n : Nat} (hw : ∀ i, i < n → wQ ws i ≤ 100) (hh : ∀ i, i < n → shN h i ≤ 120) : ∀ {k : Nat}, k ≤ n → (gwTo (wQ ws) (dvN h) k).2.1 ≤ 100 ∧ (gwTo (wQ ws) (dvN h) k).2.2 ≤ 14520 ∧ (gwTo (wQ ws) (dvN h) k).1 ≤ k
  | 0, _ => by simp [gwTo]
  | k + 1, hk => by
    have ih := gwTo_bd hw hh (k := k) (by omega)
    by_cases c : (gwTo (wQ ws) (dvN h) k).2.1 * dvN h k < wQ ws k * (gwTo (wQ ws) (dvN h) k).2.2
    · rw [gwTo_yes c]
      refine ⟨hw k (by omega), ?_, by simp⟩
      have := hh k (by omega)
      exact Nat.mul_le_mul this (show shN h k + 1 ≤ 121 by omega)
    · rw [gwTo_no c]; omega

set_option maxRecDepth 100000 in
set_option maxHeartbeats 8000000 in
theorem nextByWeights_c (sv hv : Value) (ws h : List Int) (w : World) (hI : Ints w.heap.size w sv ws) (hH : Ints w.heap.size w hv h) (hW : Wgt ws 0) (hh : h.length = ws.length) (hb : ∀ i, i < ws.length → 1 ≤ nth h i ∧ nth h i ≤ 120) :
    Calls Try.prog 81 #[sv, hv] w fun e w' => e = .returned (.int .i64 ((gwTo (wQ ws) (dvN h) ws.length).1 : Nat)) ∧ Below w.heap.size w w' := by
  obtain ⟨a, cap, rfl⟩ := hI.shape
  obtain ⟨a2, cap2, rfl⟩ := hH.shape
  have hl := hW.len
  have HW := Lib.hid hW
  have Hb := Lib.hid hb
  have Hh := Lib.hid hh
  have Hbd := Lib.hid (fun (k : Nat) (hk : k ≤ ws.length) => gwTo_bd (ws := ws) (h := h) (n := ws.length) (fun i hi => by have := hW.el i hi; unfold wQ; omega) (fun i hi => by have := hb i hi; unfold shN; omega) hk)
  clear hW hb hh
  refine (callsIn_wide (n := 9)).1 ?_
  refine callsIn_of_wp_marks Try.func81 rfl trivial ?_ rfl
  simp only [Try.ntmps81, List.size_toArray, List.length_cons, List.length_nil, Nat.reduceAdd, Nat.reduceSub, Array.replicate_succ, Array.replicate_zero, List.push_toArray, List.append_toArray, List.nil_append, List.cons_append]
  gi_wp2_with (first | (gi_at_call 87; refine (callsIn_wide.2 (numbered_c _ _ _ _)).mono ?_; rintro e w' ⟨rfl, rfl⟩) | (refine ⟨trivial, ?_⟩; gi_at_call 87; refine (callsIn_wide.2 (numbered_c _ _ _ _)).mono ?_; rintro e w' ⟨rfl, rfl⟩))
  obtain ⟨W0, hW0⟩ : ∃ W0, (((w.alloc (.cells #[.slice a2 h.length cap2] 24)).alloc (.cells #[.int .i64 0] 2)).alloc (.cells #[.int .i64 0, .int .i64 1] 76)).alloc (.cells #[.slice a ws.length cap] 24) = W0 := ⟨_, rfl⟩
  have hB0 : Below w.heap.size w W0 := by rw [← hW0]; exact ((((Below.refl _ w).alloc (Nat.le_refl _) _).alloc (by simp) _).alloc (by simp; omega) _).alloc (by simp; omega) _
  have hs0 : w.heap.size + 4 ≤ W0.heap.size := by rw [← hW0]; simp
  have bH : Boxed W0 w.heap.size 24 (.slice a2 h.length cap2) := by rw [← hW0]; exact (((Boxed.new _ _ _).alloc _).alloc _).alloc _
  have bX : Boxed W0 (w.heap.size + 1) 2 (.int .i64 0) := by rw [← hW0]; exact ((boxed_at (by simp)).alloc _).alloc _
  have bL : Box2 W0 (w.heap.size + 1 + 1) 76 (.int .i64 0) (.int .i64 1) := by rw [← hW0]; exact (box2_at (by simp)).alloc _
  have bN : Boxed W0 (w.heap.size + 1 + 1 + 1) 24 (.slice a ws.length cap) := by rw [← hW0]; exact boxed_at (by simp)
  rw [hW0]
  clear hW0
  refine range_outA rfl (by omega) rfl trivial (enters_of Try.func124 (by kernel_rfl) rfl) (numbered_at Fence.wide 8 trivial rfl (by omega) _ w.heap.size _ ws (by omega) W0 bN (by omega) (hI.below hB0)) (fun b hb => by omega) (fun _ => rfl)
    (fun k W => (Boxed W w.heap.size 24 (.slice a2 h.length cap2) ∧ Boxed W (w.heap.size + 1) 2 (.int .i64 ((gwTo (wQ ws) (dvN h) k).1 : Nat)) ∧ Box2 W (w.heap.size + 1 + 1) 76 (.int .i64 ((gwTo (wQ ws) (dvN h) k).2.1 : Nat)) (.int .i64 ((gwTo (wQ ws) (dvN h) k).2.2 : Nat))) ∧ Below w.heap.size w W)
    (fun _ _ _ => False)
    (OwnFrom.and (OwnFrom.and (Own.from (boxed_own _ _ _) _) (OwnFrom.and (Own.from (boxed_own _ _ _) _) (Own.from (box2_own _ _ _ _) _))) (ownFrom_below (Nat.le_refl _) (by omega)))
    (fun _ _ _ _ _ hs _ _ => hs)
    ⟨⟨bH, bX, bL⟩, hB0⟩ ?a1 ?assign ?body ?done ?stop
  case assign =>
    intro l k W K hk hK
    simp only [numAt]
    gi_wp2
    exact hK
  case body =>
    rintro l k W hl' hr ⟨⟨bH1, bX1, bL1⟩, hB⟩ hlt hs
    have hn1 : ¬ Band (fun b => b < w.heap.size) W0.heap.size (W0.heap.size + 2 + 0) (w.heap.size + 1) := not_band (by omega) (by omega)
    have hn2 : ¬ Band (fun b => b < w.heap.size) W0.heap.size (W0.heap.size + 2 + 0) (w.heap.size + 1 + 1) := not_band (by omega) (by omega)
    have hbd := Hbd.out k (by omega)
    have Hy := Lib.hid (gwTo_yes (w := wQ ws) (t := dvN h) (k := k))
    have Hn := Lib.hid (gwTo_no (w := wQ ws) (t := dvN h) (k := k))
    obtain ⟨x, hx⟩ : ∃ x, (gwTo (wQ ws) (dvN h) k).2.1 = x := ⟨_, rfl⟩
    obtain ⟨y, hy⟩ : ∃ y, (gwTo (wQ ws) (dvN h) k).2.2 = y := ⟨_, rfl⟩
    rw [hx, hy] at bL1 hbd
    have HX := Lib.hid hx
    have HY := Lib.hid hy
    have cH := bH1.cell
    have cL0 := bL1.c0
    have cL1 := bL1.c1
    have q1 := bH1.lt
    have q2 := bX1.lt
    have q3 := bL1.lt
    obtain ⟨b, off, rfl, hbb, hc⟩ := (hH.later hB).at_ (show k < h.length by rw [Hh.out]; exact hlt)
    have hcx := hc k (by rw [Hh.out]; exact hlt)
    have hkh : k < h.length := by rw [Hh.out]; exact hlt
    have hbk := Hb.out k hlt
    have hek := HW.out.el k hlt
    have hfk : (shN h k : Int) = nth h k := by unfold shN; omega
    have hgk : (wQ ws k : Int) = nth ws k := by unfold wQ; omega
    rw [← hfk] at hcx
    rw [← hgk]
    obtain ⟨f, hf⟩ : ∃ f, shN h k = f := ⟨_, rfl⟩
    obtain ⟨u, hu⟩ : ∃ u, wQ ws k = u := ⟨_, rfl⟩
    have hfb : f ≤ 120 := by omega
    have hub : u ≤ 100 := by omega
    rw [hf] at hcx
    rw [hu]
    obtain ⟨f1, hf1⟩ : ∃ f1, f + 1 = f1 := ⟨_, rfl⟩
    obtain ⟨g, hg⟩ : ∃ g, f * f1 = g := ⟨_, rfl⟩
    have HU := Lib.hid hu
    have HG := Lib.hid (show dvN h k = g by unfold dvN; rw [hf, hf1, hg])
    have m1 : (f : Int) + 1 = (f1 : Int) := by omega
    have m2 : (f : Int) * (f1 : Int) = (g : Int) := by rw [← hg]; simp
    have hgb : g ≤ 120 * 121 := by rw [← hg]; exact Nat.mul_le_mul hfb (by omega)
    have hp1 : x * g ≤ 100 * 14520 := Nat.mul_le_mul hbd.1 hgb
    have hp2 : u * y ≤ 100 * 14520 := Nat.mul_le_mul hub hbd.2.1
    have hfw : Try.prog.follows Departure.mixedOrders = true := by kernel_rfl
    clear hc hf hu hf1 hg hek hbk hfk hgk bN bH bX bL hx hy
    gi_wp2_with fail
    refine wpIn_region_held (S := fun w' => Below W.heap.size W w') hfw (by kernel_rfl) (fun ⟨_, _, h⟩ => h) (Below.refl _ _).drew ?_
    intro hS0
    have hki : (k : Int) < (h.length : Int) := by omega
    refine wpAnyH_take (i := 0) (v := ?vr10) rfl (by kernel_rfl) (by kernel_rfl) (by kernel_rfl) (fun _ _ _ h => h) (.inl ⟨by first | kernel_rfl | rfl, ?yr10⟩) hS0 ?_
    case yr10 =>
      intro w' hS
      (clear hS)
      go_simp
      try with_reducible rfl
    refine wpAnyH_take (i := 2) (v := ?vr12) rfl (by kernel_rfl) (by kernel_rfl) (by kernel_rfl) (fun _ _ _ h => h) (.inl ⟨by first | kernel_rfl | rfl, ?yr12⟩) hS0 ?_
    case yr12 =>
      intro w' hS
      (clear hS)
      go_simp
      try with_reducible rfl
    refine wpAnyH_take (i := 6) (v := ?vr16) rfl (by kernel_rfl) (by kernel_rfl) (by kernel_rfl) (fun _ _ _ h => h) (.inl ⟨by first | kernel_rfl | rfl, ?yr16⟩) hS0 ?_
    case yr16 =>
      intro w' hS
      (clear hS)
      go_simp
      try with_reducible rfl
    try simp only [Act.put, List.getElem_toArray, List.getElem_cons_zero, List.getElem_cons_succ, List.setIfInBounds_toArray, List.set_cons_zero, List.set_cons_succ]
    refine wpAnyH_take (i := 1) (v := ?vr21) rfl (by kernel_rfl) (by kernel_rfl) (by kernel_rfl) (fun _ _ _ h => h) (.inl ⟨by first | kernel_rfl | rfl, ?yr21⟩) hS0 ?_
    case yr21 =>
      intro w' hS
      (have k1 := (hS.cell (p := ⟨w.heap.size, 0, none⟩) q1).trans cH; clear hS)
      go_simp
      try with_reducible rfl
    refine wpAnyH_take (i := 5) (v := ?vr25) rfl (by kernel_rfl) (by kernel_rfl) (by kernel_rfl) (fun _ _ _ h => h) (.inl ⟨by first | kernel_rfl | rfl, ?yr25⟩) hS0 ?_
    case yr25 =>
      intro w' hS
      (have k1 := (hS.cell (p := ⟨w.heap.size, 0, none⟩) q1).trans cH; clear hS)
      go_simp
      try with_reducible rfl
    try simp only [Act.put, List.getElem_toArray, List.getElem_cons_zero, List.getElem_cons_succ, List.setIfInBounds_toArray, List.set_cons_zero, List.set_cons_succ]
    refine wpAnyH_take (i := 3) (v := ?vr33) rfl (by kernel_rfl) (by kernel_rfl) (by kernel_rfl) (fun _ _ _ h => h) (.inl ⟨by first | kernel_rfl | rfl, ?yr33⟩) hS0 ?_
    case yr33 =>
      intro w' hS
      (clear hS)
      go_simp
      try with_reducible rfl
    refine wpAnyH_take (i := 7) (v := ?vr37) rfl (by kernel_rfl) (by kernel_rfl) (by kernel_rfl) (fun _ _ _ h => h) (.inl ⟨by first | kernel_rfl | rfl, ?yr37⟩) hS0 ?_
    case yr37 =>
      intro w' hS
      (clear hS)
      go_simp
      try with_reducible rfl
    try simp only [Act.put, List.getElem_toArray, List.getElem_cons_zero, List.getElem_cons_succ, List.setIfInBounds_toArray, List.set_cons_zero, List.set_cons_succ]
    refine wpAnyH_take (i := 4) (v := ?vr44) rfl (by kernel_rfl) (by kernel_rfl) (by kernel_rfl) (fun _ _ _ h => h) (.inl ⟨by first | kernel_rfl | rfl, ?yr44⟩) hS0 ?_
    case yr44 =>
      intro w' hS
      (have k1 := (hS.cell (p := ⟨b, off + k, none⟩) hbb).trans hcx; clear hS)
      go_simp
      try with_reducible rfl
    refine wpAnyH_take (i := 8) (v := ?vr48) rfl (by kernel_rfl) (by kernel_rfl) (by kernel_rfl) (fun _ _ _ h => h) (.inl ⟨by first | kernel_rfl | rfl, ?yr48⟩) hS0 ?_
    case yr48 =>
      intro w' hS
      (have k1 := (hS.cell (p := ⟨b, off + k, none⟩) hbb).trans hcx; clear hS)
      go_simp
      try with_reducible rfl
    try simp only [Act.put, List.getElem_toArray, List.getElem_cons_zero, List.getElem_cons_succ, List.setIfInBounds_toArray, List.set_cons_zero, List.set_cons_succ]
    refine wpAnyH_take (i := 9) (v := (.int .i64 (f1 : Int))) rfl (by kernel_rfl) (by kernel_rfl) (by kernel_rfl) (fun _ _ _ h => h) (.inl ⟨by first | kernel_rfl | rfl, ?yr59⟩) hS0 ?_
    case yr59 =>
      intro w' hS
      (clear hS)
      go_simp
      (rw [IntKind.wrap_i64]; omega)
      first | done | (simp; done) | (simp; omega) | omega | (simp [*]; done)
    refine wpAnyH_take (i := 10) (v := (.int .i64 (g : Int))) rfl (by kernel_rfl) (by kernel_rfl) (by kernel_rfl) (fun _ _ _ h => h) (.inl ⟨by first | kernel_rfl | rfl, ?yr610⟩) hS0 ?_
    case yr610 =>
      intro w' hS
      (clear hS)
      go_simp
      (rw [IntKind.wrap_i64]; omega)
      first | done | (simp; done) | (simp; omega) | omega | (simp [*]; done)
    refine wpAnyH_take (i := 11) (v := ?vr711) rfl (by kernel_rfl) (by kernel_rfl) (by kernel_rfl) (fun _ _ _ h => h) (.inl ⟨by first | kernel_rfl | rfl, ?yr711⟩) hS0 ?_
    case yr711 =>
      intro w' hS
      (clear hS)
      go_simp
      try with_reducible rfl
    try simp only [Act.put, List.getElem_toArray, List.getElem_cons_zero, List.getElem_cons_succ, List.setIfInBounds_toArray, List.set_cons_zero, List.set_cons_succ]
    refine wpAnyH_ready (rs := [12]) (by kernel_rfl) (by simp) ?_
    refine AllReadyH.cons rfl (fun K' hK' => ?_) AllReadyH.nil
    rw [if_pos (by first | kernel_rfl | rfl)]
    go_simp
    obtain ⟨Wz, hWz⟩ : ∃ Wz, (W.alloc (.cells #[.int .i64 0, .int .i64 0] 76)).drew = Wz := ⟨_, rfl⟩
    have bz : Box2 Wz W.heap.size 76 (.int .i64 0) (.int .i64 0) := by rw [← hWz]; exact Box2.new W _ _ _
    have hbz : Below W.heap.size W Wz := by rw [← hWz]; exact ((Below.refl _ W).alloc (Nat.le_refl _) _).drew
    rw [hWz]
    clear hWz
    refine hK'.out _ _ hbz fun _ => ?_
    clear hK' hS0
    have z0 := bz.c0
    have z1 := bz.c1
    have zf0 := bz.frozen 0
    have zf1 := bz.frozen 1
    refine wpAnyH_ready (rs := [13]) (by kernel_rfl) (by simp) ?_
    refine AllReadyH.cons rfl (fun K' hK' => ?_) AllReadyH.nil
    rw [if_pos (by first | kernel_rfl | rfl)]
    go_simp
    have bD2 := (bz.set0 (.int .i64 (u : Int))).set1 (.int .i64 (g : Int))
    have hb2 := (hbz.setCell (p := ⟨W.heap.size, 0, none⟩) (Nat.le_refl _) (.int .i64 (u : Int))).setCell (p := ⟨W.heap.size, 1, none⟩) (Nat.le_refl _) (.int .i64 (g : Int))
    obtain ⟨W2, hW2⟩ : ∃ W2, (Wz.setCell ⟨W.heap.size, 0, none⟩ (.int .i64 (u : Int))).setCell ⟨W.heap.size, 1, none⟩ (.int .i64 (g : Int)) = W2 := ⟨_, rfl⟩
    rw [hW2] at bD2 hb2 ⊢
    refine hK'.out _ _ hb2 fun _ => ?_
    refine wpAnyH_done (by kernel_rfl) ?_ _
    have bH2 := boxed_later bH1 hb2
    have bX2 := boxed_later bX1 hb2
    have bL2 := bL1.later hb2
    have hB2 := hB.trans (hb2.mono hB.size)
    have hk2 : Kps (Band (fun b => b < w.heap.size) W0.heap.size (W0.heap.size + 2 + 0)) W W2 := ⟨hb2.size, fun j _ hj => hb2.block j hj⟩
    have hs2 := hb2.size
    have lL0 := bL2.c0
    have lL1 := bL2.c1
    have d0 := bD2.c0
    have d1 := bD2.c1
    clear hW2 bz hbz z0 z1 zf0 zf1 hb2 bH1 bX1 bL1 cH cL0 cL1 hcx m1 m2 hK'
    by_cases hcmp : x * g < u * y
    · have E := Lib.hid (Hy.out (by rw [HX.out, HY.out, HG.out, HU.out]; exact hcmp))
      gi_wp2_with fail
      refine ⟨trivial, (callsIn_wide.2 (isLess_c x y u g _ true (by simp; omega) (by omega) (by omega))).mono ?_⟩
      rintro e w5 ⟨rfl, hb5⟩
      replace bD2 := bD2.later hb5
      replace bH2 := boxed_later bH2 hb5
      replace bX2 := boxed_later bX2 hb5
      replace bL2 := bL2.later hb5
      replace hB2 := hB2.trans (hb5.mono hB2.size)
      replace hk2 := hk2.trans (show Kps (Band (fun b => b < w.heap.size) W0.heap.size (W0.heap.size + 2 + 0)) W2 w5 from ⟨hb5.size, fun j _ hj => hb5.block j hj⟩)
      have hs5 := hb5.size
      clear hb5 lL0 lL1 d0 d1
      obtain ⟨dw, hdw⟩ : ∃ dw, W.heap.size = dw := ⟨_, rfl⟩
      rw [hdw] at bD2 ⊢
      have hdw1 : w.heap.size + 4 ≤ dw := by omega
      gi_wp2_with fail
      refine wpIn_region_held (S := fun w' => Box2 w' dw 76 (.int .i64 (u : Int)) (.int .i64 (g : Int)) ∧ True) hfw (by kernel_rfl) (fun ⟨_, _, h⟩ => h) ⟨bD2, trivial⟩ ?_
      intro hS0
      refine wpAnyH_take (i := 0) (v := ?vs10) rfl (by kernel_rfl) (by kernel_rfl) (by kernel_rfl) (fun _ _ _ h => h) (.inl ⟨by first | kernel_rfl | rfl, ?ys10⟩) hS0 ?_
      case ys10 =>
        intro w' hS
        (have k1 := hS.1.c0; have k2 := hS.1.c1; clear hS)
        go_simp
        try with_reducible rfl
      refine wpAnyH_take (i := 1) (v := ?vs11) rfl (by kernel_rfl) (by kernel_rfl) (by kernel_rfl) (fun _ _ _ h => h) (.inl ⟨by first | kernel_rfl | rfl, ?ys11⟩) hS0 ?_
      case ys11 =>
        intro w' hS
        (have k1 := hS.1.c0; have k2 := hS.1.c1; clear hS)
        go_simp
        try with_reducible rfl
      try simp only [Act.put, List.getElem_toArray, List.getElem_cons_zero, List.getElem_cons_succ, List.setIfInBounds_toArray, List.set_cons_zero, List.set_cons_succ]
      have fX := bX2.frozen
      have dX := bX2.cell
      have f0 := bL2.frozen 0
      have f1 := bL2.frozen 1
      have l0 := bL2.c0
      have l1 := bL2.c1
      refine wpAnyH_ready (rs := [2]) (by kernel_rfl) (by simp) ?_
      refine AllReadyH.cons rfl (fun K' hK' => ?_) AllReadyH.nil
      rw [if_pos (by first | kernel_rfl | rfl)]
      go_simp
      refine hK'.out _ _ ⟨bD2.other (by omega) _, trivial⟩ fun hS1 => ?_
      clear hK'
      refine wpAnyH_ready (rs := [3]) (by kernel_rfl) (by simp) ?_
      refine AllReadyH.cons rfl (fun K' hK' => ?_) AllReadyH.nil
      rw [if_pos (by first | kernel_rfl | rfl)]
      go_simp
      refine hK'.out _ _ ⟨((bD2.other (b' := w.heap.size + 1) (i := 0) (by omega) (.int .i64 (k : Int))).other (b' := w.heap.size + 1 + 1) (i := 0) (by omega) (.int .i64 (u : Int))).other (b' := w.heap.size + 1 + 1) (i := 1) (by omega) (.int .i64 (g : Int)), trivial⟩ fun hS2 => ?_
      refine wpAnyH_done (by kernel_rfl) ?_ _
      have k5 := ((hk2.trans (Kps.setCell w5 _ 0 (.int .i64 (k : Int)) hn1)).trans (Kps.setCell _ _ 0 (.int .i64 (u : Int)) hn2)).trans (Kps.setCell _ _ 1 (.int .i64 (g : Int)) hn2)
      have b5 := ((hB2.setCell (p := ⟨w.heap.size + 1, 0, none⟩) (by simp) (.int .i64 (k : Int))).setCell (p := ⟨w.heap.size + 1 + 1, 0, none⟩) (by simp; omega) (.int .i64 (u : Int))).setCell (p := ⟨w.heap.size + 1 + 1, 1, none⟩) (by simp; omega) (.int .i64 (g : Int))
      have h5 := ((bH2.other (B' := w.heap.size + 1) (by omega) (.int .i64 (k : Int))).kept (grownBy_setC _ (w.heap.size + 1 + 1) 0 (.int .i64 (u : Int))) (by simp <;> omega)).kept (grownBy_setC _ (w.heap.size + 1 + 1) 1 (.int .i64 (g : Int))) (by simp <;> omega)
      have x5 := ((bX2.set (.int .i64 (k : Int))).kept (grownBy_setC _ (w.heap.size + 1 + 1) 0 (.int .i64 (u : Int))) (by simp <;> omega)).kept (grownBy_setC _ (w.heap.size + 1 + 1) 1 (.int .i64 (g : Int))) (by simp <;> omega)
      have l5 := ((bL2.other (b' := w.heap.size + 1) (i := 0) (by omega) (.int .i64 (k : Int))).set0 (.int .i64 (u : Int))).set1 (.int .i64 (g : Int))
      clear bH2 bX2 bL2 hB2 hk2 fX dX f0 f1 l0 l1
      gi_wp2
      exact ⟨⟨k5.size, k5.same⟩, ⟨h5, by rw [E.out]; exact x5, by rw [E.out]; show Box2 _ _ _ (.int .i64 (wQ ws k : Nat)) (.int .i64 (dvN h k : Nat)); rw [HU.out, HG.out]; exact l5⟩, b5.drew⟩
    · have E := Lib.hid (Hn.out (by rw [HX.out, HY.out, HG.out, HU.out]; exact hcmp))
      gi_wp2_with fail
      refine ⟨trivial, (callsIn_wide.2 (isLess_c x y u g _ false (by simp; omega) (by omega) (by omega))).mono ?_⟩
      rintro e w5 ⟨rfl, hb5⟩
      replace bD2 := bD2.later hb5
      replace bH2 := boxed_later bH2 hb5
      replace bX2 := boxed_later bX2 hb5
      replace bL2 := bL2.later hb5
      replace hB2 := hB2.trans (hb5.mono hB2.size)
      replace hk2 := hk2.trans (show Kps (Band (fun b => b < w.heap.size) W0.heap.size (W0.heap.size + 2 + 0)) W2 w5 from ⟨hb5.size, fun j _ hj => hb5.block j hj⟩)
      have hs5 := hb5.size
      clear hb5 lL0 lL1 d0 d1
      gi_wp2
      exact ⟨hk2, ⟨bH2, by rw [E.out]; exact bX2, by rw [E.out, HX.out, HY.out]; exact bL2⟩, hB2⟩
  case done =>
    rintro D W hD ⟨⟨bH1, bX1, bL1⟩, hB⟩ hK
    have cX := bX1.cell
    gi_wp2
    exact retM1 hK ⟨_, results_tmp rfl _ _ _, rfl, below_shut hB (by omega)⟩
  case stop =>
    rintro D c k W hD hk h
    exact h.elim

end Go.Proofs.Ytgndbifcncklgaa
