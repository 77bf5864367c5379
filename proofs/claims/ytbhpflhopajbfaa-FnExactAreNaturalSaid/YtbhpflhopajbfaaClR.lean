/-
  SplitClass of the program: the parts of a class, Concat of three lists of classes.
  Conditions: lists of at most 1048576 elements.
-/
import Derived.Test.YtbhpflhopajbfaaClS
namespace Go.Proofs.Ytbhpflhopajbfaa
open Go.RowKit Go.Shelf
attribute [local go_sem] Oper.semAt_some

theorem cls_srcA {n₀ n cap : Nat} {W : World} {ad : Addr} {cs : List (Int × Int)} (h : Cls n₀ W (.slice (some ad) n cap) cs) (hn : n = cs.length) :
    ∀ j u, ((flat cs).map (Value.int .i64))[j]? = some u → W.cell? (ad.add j) = some u := by
  by_cases h0 : cs.length = 0
  · have : cs = [] := List.length_eq_zero_iff.1 h0
    subst this
    intro j u hu
    simp [flat] at hu
  · subst hn
    obtain ⟨b, off, e, _, _⟩ := Prs.at_ h (k := 0) (by omega)
    cases e
    exact cls_src h rfl

/-! ### parts -/
set_option maxRecDepth 100000 in
set_option maxHeartbeats 8000000 in
theorem parts_c (r g m : Nat) (w : World) (hr : r ≤ 1000) (hg : g ≤ 1000) (hm : m ≤ 8) :
    Calls Try.prog 147 #[.agg #[.int .i64 r, .int .i64 g], .int .i64 m] w (GivesC w (partsTo r g m m) id) := by
  obtain ⟨i0, hi0, hz0, hz1, hz2⟩ := info_parts2 Try.infoC
  have hfw : Try.prog.follows Departure.mixedOrders = true := by kernel_rfl
  have hB0 : Below w.heap.size w (w.alloc (.cells #[.int .i64 r, .int .i64 g] 106)) := (Below.refl _ _).alloc (Nat.le_refl _) _
  have b0 : Box2 (w.alloc (.cells #[.int .i64 r, .int .i64 g] 106)) w.heap.size 106 (.int .i64 r) (.int .i64 g) := Box2.new _ _ _ _
  go_enter Try.func147, Try.ntmps147
  go_wp2
  go_loopw [5, 8] (fun v kk wr => ∃ k : Nat, k ≤ m ∧ kk = .int .i64 k ∧ OwnC (w.heap.size + 1) wr v (partsTo r g m k).length (flat (partsTo r g m k)) ∧ Box2 wr w.heap.size 106 (.int .i64 r) (.int .i64 g) ∧ Below w.heap.size w wr) (fun _ kk _ => m - (intOf kk).toNat)
  case atStart => exact ⟨0, Nat.zero_le _, rfl, ownC_nil _ _, b0, hB0⟩
  case round =>
    obtain ⟨k, hk, rfl, ho, bx, hB⟩ := hrel
    clear b0 hB0
    obtain ⟨L, hL⟩ : ∃ L, partsTo r g m k = L := ⟨_, rfl⟩
    have hLl : L.length = k := by rw [← hL, partsTo_length]
    rw [hL] at ho
    have HL := Lib.hid hL
    have hsz := hB.size
    clear hL
    by_cases hkm : k < m
    · have hkm' : (k : Int) < (m : Int) := by omega
      have hp1 : k * g ≤ 8 * 1000 := Nat.mul_le_mul (by omega) (by omega)
      obtain ⟨p, hp⟩ : ∃ p : Nat, k * g = p := ⟨_, rfl⟩
      rw [hp] at hp1
      have hpi : (k : Int) * (g : Int) = (p : Int) := by rw [← hp]; simp
      have ht1 : m * g ≤ 8 * 1000 := Nat.mul_le_mul (by omega) (by omega)
      obtain ⟨t, ht⟩ : ∃ t : Nat, m * g = t := ⟨_, rfl⟩
      have hti : (m : Int) * (g : Int) = (t : Int) := by rw [← ht]; simp
      rw [ht] at ht1
      have Hnext := Lib.hid (show partsTo r g m (k + 1) = L ++ [((r : Int) + p, (t : Int))] by rw [partsTo_succ, HL.out, hpi, hti])
      have hwp : IntKind.i64.wrap ((p : Nat) : Int) = p := by rw [IntKind.wrap_i64]; omega
      have hws : IntKind.i64.wrap ((r : Int) + p) = (r : Int) + p := by rw [IntKind.wrap_i64]; omega
      have hwt : IntKind.i64.wrap ((t : Nat) : Int) = t := by rw [IntKind.wrap_i64]; omega
      have ho0 : OwnC (w.heap.size + 1) wr.drew u5 L.length (flat L) := World.ownsRow.drew ho
      have hb5 : ∀ j, u5.ownBlock = some j → w.heap.size + 1 ≤ j := fun j e => (ho.blk j e).1
      clear hp ht ho
      go_wp2_with fail
      refine wp_region_held_drew (S := fun w' => Box2 w' w.heap.size 106 (.int .i64 r) (.int .i64 g) ∧ Below w.heap.size w w') hfw ⟨bx, hB.drew⟩ ?_
      intro hS0
      refine wpAnyH_take (i := 0) (v := ?vq1q0) rfl (by kernel_rfl) (by kernel_rfl) (by kernel_rfl) (fun _ _ _ h => h) (.inl ⟨by first | kernel_rfl | rfl, ?yq1q0⟩) hS0 ?_
      case yq1q0 =>
        intro w' hS
        (have k1 := hS.1.c0; have k2 := hS.1.c1; clear hS)
        go_simp
        try with_reducible rfl
      refine wpAnyH_take (i := 1) (v := ?vq1q1) rfl (by kernel_rfl) (by kernel_rfl) (by kernel_rfl) (fun _ _ _ h => h) (.inl ⟨by first | kernel_rfl | rfl, ?yq1q1⟩) hS0 ?_
      case yq1q1 =>
        intro w' hS
        (have k1 := hS.1.c0; have k2 := hS.1.c1; clear hS)
        go_simp
        try with_reducible rfl
      refine wpAnyH_take (i := 3) (v := ?vq1q3) rfl (by kernel_rfl) (by kernel_rfl) (by kernel_rfl) (fun _ _ _ h => h) (.inl ⟨by first | kernel_rfl | rfl, ?yq1q3⟩) hS0 ?_
      case yq1q3 =>
        intro w' hS
        (have k1 := hS.1.c0; have k2 := hS.1.c1; clear hS)
        go_simp
        try with_reducible rfl
      refine wpAnyH_take (i := 4) (v := ?vq1q4) rfl (by kernel_rfl) (by kernel_rfl) (by kernel_rfl) (fun _ _ _ h => h) (.inl ⟨by first | kernel_rfl | rfl, ?yq1q4⟩) hS0 ?_
      case yq1q4 =>
        intro w' hS
        (have k1 := hS.1.c0; have k2 := hS.1.c1; clear hS)
        go_simp
        try with_reducible rfl
      refine wpAnyH_take (i := 8) (v := ?vq1q8) rfl (by kernel_rfl) (by kernel_rfl) (by kernel_rfl) (fun _ _ _ h => h) (.inl ⟨by first | kernel_rfl | rfl, ?yq1q8⟩) hS0 ?_
      case yq1q8 =>
        intro w' hS
        (have k1 := hS.1.c0; have k2 := hS.1.c1; clear hS)
        go_simp
        try with_reducible rfl
      refine wpAnyH_take (i := 9) (v := ?vq1q9) rfl (by kernel_rfl) (by kernel_rfl) (by kernel_rfl) (fun _ _ _ h => h) (.inl ⟨by first | kernel_rfl | rfl, ?yq1q9⟩) hS0 ?_
      case yq1q9 =>
        intro w' hS
        (have k1 := hS.1.c0; have k2 := hS.1.c1; clear hS)
        go_simp
        try with_reducible rfl
      refine wpAnyH_ready (rs := [2]) (by kernel_rfl) (by simp) ?_
      refine AllReadyH.cons rfl (fun K' hK' => ?_) AllReadyH.nil
      rw [if_pos (by first | kernel_rfl | rfl)]
      go_simp
      refine (rest_c r g _).mono ?_
      rintro e w1 ⟨rfl, hb1⟩
      have ho1 := ho0.below hb1
      refine hK'.out _ _ ⟨hS0.1.later hb1, hS0.2.trans (hb1.mono hS0.2.size)⟩ fun hS1 => ?_
      clear ho0 hb1 hS0
      refine wpAnyH_ready (rs := [5]) (by kernel_rfl) (by simp) ?_
      refine AllReadyH.cons rfl (fun K' hK' => ?_) AllReadyH.nil
      rw [if_pos (by first | kernel_rfl | rfl)]
      go_simp
      refine (gap_c r g _).mono ?_
      rintro e w2 ⟨rfl, hb2⟩
      have ho2 := ho1.below hb2
      refine hK'.out _ _ ⟨hS1.1.later hb2, hS1.2.trans (hb2.mono hS1.2.size)⟩ fun hS2 => ?_
      clear ho1 hb2 hS1
      refine wpAnyH_take (i := 6) (v := (.int .i64 p)) rfl (by kernel_rfl) (by kernel_rfl) (by kernel_rfl) (fun _ _ _ h => h) (.inl ⟨by first | kernel_rfl | rfl, ?yq2q6⟩) hS2 ?_
      case yq2q6 =>
        intro w' hS
        (clear hS)
        go_simp
        first | done | (simp; done) | (simp; omega) | omega | (simp [*]; done)
      refine wpAnyH_take (i := 7) (v := (.int .i64 ((r : Int) + p))) rfl (by kernel_rfl) (by kernel_rfl) (by kernel_rfl) (fun _ _ _ h => h) (.inl ⟨by first | kernel_rfl | rfl, ?yq3q7⟩) hS2 ?_
      case yq3q7 =>
        intro w' hS
        (clear hS)
        go_simp
        first | done | (simp; done) | (simp; omega) | omega | (simp [*]; done)
      refine wpAnyH_ready (rs := [10]) (by kernel_rfl) (by simp) ?_
      refine AllReadyH.cons rfl (fun K' hK' => ?_) AllReadyH.nil
      rw [if_pos (by first | kernel_rfl | rfl)]
      go_simp
      refine (gap_c r g _).mono ?_
      rintro e w3 ⟨rfl, hb3⟩
      have ho3 := ho2.below hb3
      refine hK'.out _ _ ⟨hS2.1.later hb3, hS2.2.trans (hb3.mono hS2.2.size)⟩ fun hS3 => ?_
      clear ho2 hb3 hS2
      refine wpAnyH_take (i := 11) (v := (.int .i64 t)) rfl (by kernel_rfl) (by kernel_rfl) (by kernel_rfl) (fun _ _ _ h => h) (.inl ⟨by first | kernel_rfl | rfl, ?yq4q11⟩) hS3 ?_
      case yq4q11 =>
        intro w' hS
        (clear hS)
        go_simp
        first | done | (simp; done) | (simp; omega) | omega | (simp [*]; done)
      refine wpAnyH_take (i := 12) (v := ?vq5q12) rfl (by kernel_rfl) (by kernel_rfl) (by kernel_rfl) (fun _ _ _ h => h) (.inl ⟨by first | kernel_rfl | rfl, ?yq5q12⟩) hS3 ?_
      case yq5q12 =>
        intro w' hS
        (clear hS)
        go_simp
        try with_reducible rfl
      refine wpAnyH_ready (rs := [13]) (by kernel_rfl) (by simp) ?_
      refine AllReadyH.cons rfl (fun K' hK' => ?_) AllReadyH.nil
      rw [if_pos (by first | kernel_rfl | rfl)]
      go_simp
      have hs3 := hS3.2.size
      have hs4 : w.heap.size + 1 ≤ w3.heap.size := hS3.1.lt
      refine hK'.out _ _ ⟨hS3.1.alloc _, hS3.2.alloc hS3.2.size _⟩ fun hS4 => ?_
      refine wpAnyH_ready (rs := [14]) (by kernel_rfl) (by simp) ?_
      refine AllReadyH.cons rfl (fun K' hK' => ?_) AllReadyH.nil
      rw [if_pos (by first | kernel_rfl | rfl)]
      refine wp_append_own _ (.tmp 11) (.tmp 24) 54 rfl (w.heap.size + 1) 106 i0 (.agg #[.int .i64 0, .int .i64 0]) 2 16 Try.underlying54 hi0 hz0 hz1 hz2 rfl (by decide) _ _ _ rfl (World.ownsRow.alloc ho3 _) ⟨w3.heap.size, 0, none⟩ 1 1 [.int .i64 ((r : Int) + p), .int .i64 t] rfl rfl (cell_two_new _ _ _ _) (by simp [Value.oneCell']) (by unfold maxLen; omega) (by omega) (by simp; omega) ?_
      intro v' w5 hown' hgrow hfar
      have ho6 := ownC_snoc hown'
      rw [← Hnext.out] at ho6
      have s4 : Below w.heap.size w w5 := hS4.2.grown hgrow hS4.2.size (fun j e => by have := hb5 j e; omega)
      have bx5 : Box2 w5 w.heap.size 106 (.int .i64 r) (.int .i64 g) := hS4.1.kept hgrow (fun e => by have := hb5 _ e.symm; omega)
      clear hown' hgrow hfar hS3 hS4 ho3 bx hB
      refine hK'.out _ _ ⟨bx5, s4⟩ fun hS5 => ?_
      refine wpAnyH_take (i := 15) (v := ?vq6q15) rfl (by kernel_rfl) (by kernel_rfl) (by kernel_rfl) (fun _ _ _ h => h) (.inl ⟨by first | kernel_rfl | rfl, ?yq6q15⟩) hS5 ?_
      case yq6q15 =>
        intro w' hS
        (clear hS)
        go_simp
        try with_reducible rfl
      refine wpAnyH_done (by kernel_rfl) ?_ _
      clear hS5
      go_wp2
      go_roundw
      case rel => exact ⟨k + 1, by omega, by simp, ho6, bx5, s4⟩
      case measure => simp [intOf]; omega
    · obtain rfl : k = m := by omega
      have hL2 := HL.out
      go_wp2
      go_ret
      exact ⟨_, rfl, by rw [hL2]; exact ho.base (by omega), hB⟩

/-- the first k lists, one behind the other -/
def catTo (ls : Nat → List (Int × Int)) : Nat → List (Int × Int)
  | 0 => []
  | k + 1 => catTo ls k ++ ls k

end Go.Proofs.Ytbhpflhopajbfaa
