/-
  The iterator shiftsOf: each n below the number of slots, with the turns shifted by n.
  Conditions: lists of 1 to 1048576 elements.
-/
import Derived.Test.YtgndbifcncklgaaShift
namespace Go.Proofs.Ytgndbifcncklgaa
open Go.RowKit Go.Shelf
attribute [local go_sem] Oper.semAt_some

/-! ### the iterator shiftsOf -/
def shiftAt (g L k : Nat) : Array Value := #[.int .i64 (k : Int), .slice (some ⟨g, k, none⟩) L L]

theorem shiftsOf_c (sv : Value) (ts : List Int) (w : World) (hI : Ints w.heap.size w sv ts) (h0 : 0 < ts.length) (hl : ts.length ≤ 1048576) :
    Calls Try.prog 69 #[sv] w fun e w' => ∃ bT bR g cap, e = .returned (.func (.func 113) #[] #[.pointer (some ⟨bT, 0, none⟩), .pointer (some ⟨bR, 0, none⟩)]) ∧ Boxed w' bT 24 sv ∧ Boxed w' bR 24 (.slice (some ⟨g, 0, none⟩) (ts.length + ts.length) cap) ∧ OwnI w.heap.size w' (.slice (some ⟨g, 0, none⟩) (ts.length + ts.length) cap) (ts ++ ts) ∧ w.heap.size ≤ bT ∧ w.heap.size ≤ bR ∧ bR ≠ g ∧ bT ≠ g ∧ ts.length + ts.length ≤ cap ∧ Below w.heap.size w w' := by
  obtain ⟨a, cap, rfl⟩ := hI.shape
  have hB0 : Below w.heap.size w (w.alloc (.cells #[.slice a ts.length cap] 24)) := (Below.refl _ w).alloc (Nat.le_refl _) _
  go_enter Try.func69, Try.ntmps69
  go_wp2_with fail
  refine (twice_c _ ts _ (hI.later hB0) h0 hl).mono ?_
  rintro e w1 ⟨v, rfl, ho, hB⟩
  obtain ⟨g, c, rfl, hg1, hg2⟩ := ho.shape (by simp; omega)
  have hcp := ho.capOk
  obtain ⟨_, c2, e2, hcc, hcm⟩ := hcp
  cases e2
  simp only [id, List.length_append] at hcc ho ⊢
  have bT : Boxed w1 w.heap.size 24 (.slice a ts.length cap) := boxed_later (Boxed.new _ _ _) hB
  have hB1 := hB0.trans (hB.mono (by simp))
  have hlt := bT.lt
  simp only [World.size_alloc] at hg1
  go_wp2
  go_ret
  exact ⟨w.heap.size, w1.heap.size, g, c, rfl, bT.alloc _, Boxed.new _ _ _, World.ownsRow.alloc (ho.base (by simp)) _, Nat.le_refl _, by omega, by omega, by omega, hcc, hB1.alloc hB1.size _⟩

set_option maxRecDepth 100000 in
set_option maxHeartbeats 4000000 in
theorem shiftsOf_at (n : Nat) (bT bR n₀ g cap : Nat) (sv : Value) (ts : List Int) (h0 : 0 < ts.length) (hl : ts.length ≤ 1048576) (hcap : ts.length + ts.length ≤ cap) (w : World) (hT : Boxed w bT 24 sv) (hR : Boxed w bR 24 (.slice (some ⟨g, 0, none⟩) (ts.length + ts.length) cap)) (hn₀ : n₀ ≤ w.heap.size) (hI0 : Ints n₀ w sv ts) :
    SeqAt Fence.wide n Try.prog 113 #[.pointer (some ⟨bT, 0, none⟩), .pointer (some ⟨bR, 0, none⟩)] (shiftAt g ts.length) (fun b => b < n₀ ∨ b = bR) 4 ts.length w := fun l J Jx W hW hJ hJx hY h0' => by
  refine callsIn_wide.2 ((callsIn_wide (n := 9)).1 ?_)
  have hI := hI0.below (hW.mono hn₀)
  have bT1 := boxed_later hT hW
  have bR1 := boxed_later hR hW
  have cT := (bT1.alloc (.cells #[.func (.yield l) #[] #[]] 122)).cell
  have hws := hW.size
  have hbR := bR1.lt
  clear hI0
  obtain ⟨a, cp, rfl⟩ := hI.shape
  refine callsIn_of_wp_marks Try.func113 rfl trivial ?_ rfl
  simp only [Try.ntmps113, List.size_toArray, List.length_cons, List.length_nil, Nat.reduceAdd, Nat.reduceSub, Array.replicate_succ, Array.replicate_zero, List.push_toArray, List.append_toArray, List.nil_append, List.cons_append]
  gi_wp2_with (first | (gi_at_call 87; refine (callsIn_wide.2 (numbered_c _ _ _ _)).mono ?_; rintro e w' ⟨rfl, rfl⟩) | (refine ⟨trivial, ?_⟩; gi_at_call 87; refine (callsIn_wide.2 (numbered_c _ _ _ _)).mono ?_; rintro e w' ⟨rfl, rfl⟩))
  obtain ⟨W0, hW0⟩ : ∃ W0, (W.alloc (.cells #[.func (.yield l) #[] #[]] 122)).alloc (.cells #[.slice a ts.length cp] 24) = W0 := ⟨_, rfl⟩
  have hB0 : Below W.heap.size W W0 := by rw [← hW0]; exact ((Below.refl _ W).alloc (Nat.le_refl _) _).alloc (by simp) _
  have hsz : W0.heap.size = W.heap.size + 2 := by rw [← hW0]; simp
  have bY : Boxed W0 W.heap.size 122 (.func (.yield l) #[] #[]) := by rw [← hW0]; exact (Boxed.new W _ _).alloc _
  have bN : Boxed W0 (W.heap.size + 1) 24 (.slice a ts.length cp) := by rw [← hW0]; simpa using Boxed.new (W.alloc (.cells #[.func (.yield l) #[] #[]] 122)) 24 (.slice a ts.length cp)
  have bR2 := boxed_below bR1 hB0 hbR
  have hJ0 : J 0 W0 := by rw [← hW0]; exact hJ.alloc _ (hJ.alloc _ h0')
  rw [hW0]
  clear hW0 cT
  have Hsz := Lib.hid hsz
  have hs1 : W.heap.size + 2 ≤ W0.heap.size := by omega
  clear hsz
  refine range_outA rfl (by omega) rfl trivial (enters_of Try.func124 (by kernel_rfl) rfl) (numbered_at Fence.wide 8 trivial rfl (by omega) (W.heap.size + 1) n₀ _ ts (by omega) W0 bN (by omega) (hI.below (hB0.mono (by omega)))) (fun b hb => by omega) (fun _ => rfl)
    (fun k W' => J k W' ∧ Boxed W' bR 24 (.slice (some ⟨g, 0, none⟩) (ts.length + ts.length) cap) ∧ Boxed W' W.heap.size 122 (.func (.yield l) #[] #[]))
    (fun c _ W' => c = .ret ∧ ∃ m, m ≤ ts.length ∧ Jx m W')
    ?hI ?hIx ⟨hJ0, bR2, bY⟩ ?a1 ?assign ?body ?done ?stop
  case hI => exact OwnFrom.and (fun s A B row hs hg hr => OwnFrom.up hJ (by omega) _ A B row hs hg hr) (OwnFrom.and (Own.from (boxed_own _ _ _) _) (Own.from (boxed_own _ _ _) _))
  case hIx =>
    rintro c s A B row ⟨h1, m, h2, h3⟩ hg hr
    exact ⟨h1, m, h2, OwnFrom.up hJx (by omega) _ A B row h3 hg hr⟩
  case assign =>
    intro l2 k W' K hk hK
    simp only [numAt]
    gi_wp2
    exact hK
  case body =>
    rintro l2 k W' hl2 hr2 ⟨hj, bR3, bY3⟩ hk hs
    have cR := bR3.cell
    have cY := bY3.cell
    have hjd : J k W'.drew := hJ _ _ _ none hj ⟨rfl, rfl, rfl, Nat.le_refl _, fun _ _ _ => rfl⟩ (by simp)
    obtain ⟨fn, tmps, assign, body, hy, hR⟩ := yieldAt_wide 6 (hY k W'.drew hjd hk (by show _ ≤ W'.heap.size; omega))
    simp only [shiftAt] at hy hR
    have hsz := Hsz.out
    have sub : ∀ b, Band (fun b => b < n₀) W0.heap.size (W0.heap.size + 2 + 0) b → (b < n₀ ∨ b = bR) ∨ W.heap.size ≤ b ∧ b < W.heap.size + 4 := fun b hb => by
      rcases hb with hb | hb
      · exact .inl (.inl hb)
      · exact .inr (by omega)
    have Hsub := Lib.hid sub
    have hfw : Try.prog.follows Departure.mixedOrders = true := by kernel_rfl
    clear hY hsz sub hj hjd bN hI bT1 hT hW hr2 bR1 bR2 bY hB0 hJ hJx hJ0 h0'
    gi_wp2_with fail
    refine wpIn_mono (Q := fun e a' w' => ∃ d : Bool, e = .normal ∧ a' = { tmps := #[.func (.yield l) #[] #[], .pointer (some ⟨bT, 0, none⟩), .pointer (some ⟨bR, 0, none⟩), .pointer (some ⟨W.heap.size, 0, none⟩), .int .i64 k, .slice a ts.length cp, .func (.func 124) #[] #[.pointer (some ⟨W.heap.size + 1, 0, none⟩)], .int .i64 k, .int .i64 (nth ts k), .func (.yield l) #[] #[], .int .i64 k, .slice (some ⟨g, 0, none⟩) (ts.length + ts.length) cap, .int .i64 k, .slice (some ⟨g, k, none⟩) ts.length ts.length, .bool d, .bool !d], defers := [] } ∧ Kps (fun b => (b < n₀ ∨ b = bR) ∨ W.heap.size ≤ b ∧ b < W.heap.size + 4) W' w' ∧ (d = true → J (k + 1) w') ∧ (d = false → Jx (k + 1) w')) ?reg ?cont
    case reg =>
      clear Hsub Hsz hl2 bR3 bY3 hn₀ hws hbR hs1
      gi_region_with_o (first
        | (refine ⟨trivial, ?_⟩; gi_at_call 63; refine (callsIn_wide.2 (shiftIn_c g cap ts.length k _ h0 hl hcap (by omega))).mono ?_; rintro e w3 ⟨rfl, rfl⟩)
        | (refine RoundIn.mono (F := Fence.wide.inRound l2) hR ?_; rintro e W3 ⟨hk3, hJJ⟩; obtain ⟨d, rfl, hd1, hd2⟩ : ∃ d : Bool, e = .returned (.bool d) ∧ (d = true → J (k + 1) W3) ∧ (d = false → Jx (k + 1) W3) := (by rcases hJJ with ⟨rfl, h⟩ | ⟨rfl, h⟩; exact ⟨true, rfl, fun _ => h, fun e => (by cases e)⟩; exact ⟨false, rfl, fun e => (by cases e), fun _ => h⟩); clear hJJ))
      all_goals exact ⟨d, rfl, rfl, ⟨hk3.size, hk3.same⟩, hd1, hd2⟩
    case cont =>
      rintro e a' w' ⟨d, rfl, rfl, hk3, hd1, hd2⟩
      have hk4 := hk3.mono Hsub.out
      have b1 := hk3.boxed (.inl (.inr rfl)) bR3
      have b2 := hk3.boxed (.inr (by omega)) bY3
      cases d
      · have hj := hd2 rfl
        clear hd1 hd2
        gi_wp2
        exact ⟨hk4, rfl, k + 1, by omega, hj⟩
      · have hj := hd1 rfl
        clear hd1 hd2
        gi_wp2
        exact ⟨hk4, hj, b1, b2⟩
  case done =>
    rintro D W' hD ⟨hj, bI3, bY3⟩ hK
    gi_wp2
    refine retM1' hK ⟨_, results_none rfl _ _ _, ⟨_, rfl⟩, .inl ?_⟩
    exact hJ.putObj _ hj (by omega) hK rfl
  case stop =>
    rintro D c k W' hD hk ⟨rfl, m, hm, hj⟩ hK
    gi_wp2
    refine retM1 hK ⟨_, results_none rfl _ _ _, ⟨_, rfl⟩, .inr ⟨m, hm, ?_⟩⟩
    exact hJx.putObj _ hj (by omega) hK rfl

end Go.Proofs.Ytgndbifcncklgaa
