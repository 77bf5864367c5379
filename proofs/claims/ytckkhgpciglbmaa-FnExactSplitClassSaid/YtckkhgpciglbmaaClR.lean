/-
  SplitClass of the program: the parts of a class, Concat of three lists of classes.
  Conditions: lists of at most 1048576 elements.
-/
import Derived.Test.YtckkhgpciglbmaaClS
namespace Go.Proofs.Ytckkhgpciglbmaa
open Go.RowKit Go.Shelf
attribute [local go_sem] Oper.semAt_some

theorem cls_srcA {n₀ n cap : Nat} {W : World} {ad : Addr} {cs : List (Int × Int)} (h : Cls n₀ W (.slice (some ad) n cap) cs) (hn : n = cs.length) :
    ∀ j u, ((flat cs).map (Value.int .i64))[j]? = some u → W.cell? (ad.add j) = some u := by
  by_cases h0 : cs.length = 0
  · have : cs = [] := List.length_eq_zero_iff.1 h0
    subst this
    intro j u hu
    simp [flat] at hu
  · subst hn
    obtain ⟨b, off, e, _, _⟩ := Prs.at_ h (k := 0) (by omega)
    cases e
    exact cls_src h rfl

/-! ### parts -/
set_option maxRecDepth 100000 in
set_option maxHeartbeats 8000000 in
theorem parts_c (r g m : Nat) (w : World) (hr : r ≤ 1000) (hg : g ≤ 1000) (hm : m ≤ 8) :
    Calls Try.prog 125 #[.agg #[.int .i64 r, .int .i64 g], .int .i64 m] w (GivesC w (partsTo r g m m) id) := by
  obtain ⟨i0, hi0, hz0, hz1, hz2⟩ := info_parts2 Try.infoC
  have hfw : Try.prog.follows Departure.mixedOrders = true := by kernel_rfl
  have hB0 : Below w.heap.size w (w.alloc (.cells #[.int .i64 r, .int .i64 g] 87)) := (Below.refl _ _).alloc (Nat.le_refl _) _
  have b0 : Box2 (w.alloc (.cells #[.int .i64 r, .int .i64 g] 87)) w.heap.size 87 (.int .i64 r) (.int .i64 g) := Box2.new _ _ _ _
  go_enter Try.func125, Try.ntmps125
  go_wp2
  go_loopw [5, 8] (fun v kk wr => ∃ k : Nat, k ≤ m ∧ kk = .int .i64 k ∧ OwnC (w.heap.size + 1) wr v (partsTo r g m k).length (flat (partsTo r g m k)) ∧ Box2 wr w.heap.size 87 (.int .i64 r) (.int .i64 g) ∧ Below w.heap.size w wr) (fun _ kk _ => m - (intOf kk).toNat)
  case atStart => exact ⟨0, Nat.zero_le _, rfl, ownC_nil _ _, b0, hB0⟩
  case round =>
    obtain ⟨k, hk, rfl, ho, bx, hB⟩ := hrel
    clear b0 hB0
    obtain ⟨L, hL⟩ : ∃ L, partsTo r g m k = L := ⟨_, rfl⟩
    have hLl : L.length = k := by rw [← hL, partsTo_length]
    rw [hL] at ho
    have HL := Lib.hid hL
    have hsz := hB.size
    clear hL
    by_cases hkm : k < m
    · have hkm' : (k : Int) < (m : Int) := by omega
      have hp1 : k * g ≤ 8 * 1000 := Nat.mul_le_mul (by omega) (by omega)
      obtain ⟨p, hp⟩ : ∃ p : Nat, k * g = p := ⟨_, rfl⟩
      rw [hp] at hp1
      have hpi : (k : Int) * (g : Int) = (p : Int) := by rw [← hp]; simp
      have ht1 : m * g ≤ 8 * 1000 := Nat.mul_le_mul (by omega) (by omega)
      obtain ⟨t, ht⟩ : ∃ t : Nat, m * g = t := ⟨_, rfl⟩
      have hti : (m : Int) * (g : Int) = (t : Int) := by rw [← ht]; simp
      rw [ht] at ht1
      have Hnext := Lib.hid (show partsTo r g m (k + 1) = L ++ [((r : Int) + p, (t : Int))] by rw [partsTo_succ, HL.out, hpi, hti])
      have hwp : IntKind.i64.wrap ((p : Nat) : Int) = p := by rw [IntKind.wrap_i64]; omega
      have hws : IntKind.i64.wrap ((r : Int) + p) = (r : Int) + p := by rw [IntKind.wrap_i64]; omega
      have hwt : IntKind.i64.wrap ((t : Nat) : Int) = t := by rw [IntKind.wrap_i64]; omega
      have ho0 : OwnC (w.heap.size + 1) wr.drew u5 L.length (flat L) := World.ownsRow.drew ho
      have hb5 : ∀ j, u5.ownBlock = some j → w.heap.size + 1 ≤ j := fun j e => (ho.blk j e).1
      clear hp ht ho
      go_wp2_with fail
      refine wp_region_held_drew (S := fun w' => Box2 w' w.heap.size 87 (.int .i64 r) (.int .i64 g) ∧ Below w.heap.size w w') hfw ⟨bx, hB.drew⟩ ?_
      intro hS0
      refine wpAnyH_take (i := 0) (v := ?vq1q0) rfl (by kernel_rfl) (by kernel_rfl) (by kernel_rfl) (fun _ _ _ h => h) (.inl ⟨by first | kernel_rfl | rfl, ?yq1q0⟩) hS0 ?_
      case yq1q0 =>
        intro w' hS
        (have k1 := hS.1.c0; have k2 := hS.1.c1; clear hS)
        go_simp
        try with_reducible rfl
      refine wpAnyH_take (i := 1) (v := ?vq1q1) rfl (by kernel_rfl) (by kernel_rfl) (by kernel_rfl) (fun _ _ _ h => h) (.inl ⟨by first | kernel_rfl | rfl, ?yq1q1⟩) hS0 ?_
      case yq1q1 =>
        intro w' hS
        (have k1 := hS.1.c0; have k2 := hS.1.c1; clear hS)
        go_simp
        try with_reducible rfl
      refine wpAnyH_take (i := 3) (v := ?vq1q3) rfl (by kernel_rfl) (by kernel_rfl) (by kernel_rfl) (fun _ _ _ h => h) (.inl ⟨by first | kernel_rfl | rfl, ?yq1q3⟩) hS0 ?_
      case yq1q3 =>
        intro w' hS
        (have k1 := hS.1.c0; have k2 := hS.1.c1; clear hS)
        go_simp
        try with_reducible rfl
      refine wpAnyH_take (i := 4) (v := ?vq1q4) rfl (by kernel_rfl) (by kernel_rfl) (by kernel_rfl) (fun _ _ _ h => h) (.inl ⟨by first | kernel_rfl | rfl, ?yq1q4⟩) hS0 ?_
      case yq1q4 =>
        intro w' hS
        (have k1 := hS.1.c0; have k2 := hS.1.c1; clear hS)
        go_simp
        try with_reducible rfl
      refine wpAnyH_take (i := 8) (v := ?vq1q8) rfl (by kernel_rfl) (by kernel_rfl) (by kernel_rfl) (fun _ _ _ h => h) (.inl ⟨by first | kernel_rfl | rfl, ?yq1q8⟩) hS0 ?_
      case yq1q8 =>
        intro w' hS
        (have k1 := hS.1.c0; have k2 := hS.1.c1; clear hS)
        go_simp
        try with_reducible rfl
      refine wpAnyH_take (i := 9) (v := ?vq1q9) rfl (by kernel_rfl) (by kernel_rfl) (by kernel_rfl) (fun _ _ _ h => h) (.inl ⟨by first | kernel_rfl | rfl, ?yq1q9⟩) hS0 ?_
      case yq1q9 =>
        intro w' hS
        (have k1 := hS.1.c0; have k2 := hS.1.c1; clear hS)
        go_simp
        try with_reducible rfl
      refine wpAnyH_ready (rs := [2]) (by kernel_rfl) (by simp) ?_
      refine AllReadyH.cons rfl (fun K' hK' => ?_) AllReadyH.nil
      rw [if_pos (by first | kernel_rfl | rfl)]
      go_simp
      refine (rest_c r g _).mono ?_
      rintro e w1 ⟨rfl, hb1⟩
      have ho1 := ho0.below hb1
      refine hK'.out _ _ ⟨hS0.1.later hb1, hS0.2.trans (hb1.mono hS0.2.size)⟩ fun hS1 => ?_
      clear ho0 hb1 hS0
      refine wpAnyH_ready (rs := [5]) (by kernel_rfl) (by simp) ?_
      refine AllReadyH.cons rfl (fun K' hK' => ?_) AllReadyH.nil
      rw [if_pos (by first | kernel_rfl | rfl)]
      go_simp
      refine (gap_c r g _).mono ?_
      rintro e w2 ⟨rfl, hb2⟩
      have ho2 := ho1.below hb2
      refine hK'.out _ _ ⟨hS1.1.later hb2, hS1.2.trans (hb2.mono hS1.2.size)⟩ fun hS2 => ?_
      clear ho1 hb2 hS1
      refine wpAnyH_take (i := 6) (v := (.int .i64 p)) rfl (by kernel_rfl) (by kernel_rfl) (by kernel_rfl) (fun _ _ _ h => h) (.inl ⟨by first | kernel_rfl | rfl, ?yq2q6⟩) hS2 ?_
      case yq2q6 =>
        intro w' hS
        (clear hS)
        go_simp
        first | done | (simp; done) | (simp; omega) | omega | (simp [*]; done)
      refine wpAnyH_take (i := 7) (v := (.int .i64 ((r : Int) + p))) rfl (by kernel_rfl) (by kernel_rfl) (by kernel_rfl) (fun _ _ _ h => h) (.inl ⟨by first | kernel_rfl | rfl, ?yq3q7⟩) hS2 ?_
      case yq3q7 =>
        intro w' hS
        (clear hS)
        go_simp
        first | done | (simp; done) | (simp; omega) | omega | (simp [*]; done)
      refine wpAnyH_ready (rs := [10]) (by kernel_rfl) (by simp) ?_
      refine AllReadyH.cons rfl (fun K' hK' => ?_) AllReadyH.nil
      rw [if_pos (by first | kernel_rfl | rfl)]
      go_simp
      refine (gap_c r g _).mono ?_
      rintro e w3 ⟨rfl, hb3⟩
      have ho3 := ho2.below hb3
      refine hK'.out _ _ ⟨hS2.1.later hb3, hS2.2.trans (hb3.mono hS2.2.size)⟩ fun hS3 => ?_
      clear ho2 hb3 hS2
      refine wpAnyH_take (i := 11) (v := (.int .i64 t)) rfl (by kernel_rfl) (by kernel_rfl) (by kernel_rfl) (fun _ _ _ h => h) (.inl ⟨by first | kernel_rfl | rfl, ?yq4q11⟩) hS3 ?_
      case yq4q11 =>
        intro w' hS
        (clear hS)
        go_simp
        first | done | (simp; done) | (simp; omega) | omega | (simp [*]; done)
      refine wpAnyH_take (i := 12) (v := ?vq5q12) rfl (by kernel_rfl) (by kernel_rfl) (by kernel_rfl) (fun _ _ _ h => h) (.inl ⟨by first | kernel_rfl | rfl, ?yq5q12⟩) hS3 ?_
      case yq5q12 =>
        intro w' hS
        (clear hS)
        go_simp
        try with_reducible rfl
      refine wpAnyH_ready (rs := [13]) (by kernel_rfl) (by simp) ?_
      refine AllReadyH.cons rfl (fun K' hK' => ?_) AllReadyH.nil
      rw [if_pos (by first | kernel_rfl | rfl)]
      go_simp
      have hs3 := hS3.2.size
      have hs4 : w.heap.size + 1 ≤ w3.heap.size := hS3.1.lt
      refine hK'.out _ _ ⟨hS3.1.alloc _, hS3.2.alloc hS3.2.size _⟩ fun hS4 => ?_
      refine wpAnyH_ready (rs := [14]) (by kernel_rfl) (by simp) ?_
      refine AllReadyH.cons rfl (fun K' hK' => ?_) AllReadyH.nil
      rw [if_pos (by first | kernel_rfl | rfl)]
      refine wp_append_own _ (.tmp 11) (.tmp 24) 54 rfl (w.heap.size + 1) 87 i0 (.agg #[.int .i64 0, .int .i64 0]) 2 16 Try.underlying54 hi0 hz0 hz1 hz2 rfl (by decide) _ _ _ rfl (World.ownsRow.alloc ho3 _) ⟨w3.heap.size, 0, none⟩ 1 1 [.int .i64 ((r : Int) + p), .int .i64 t] rfl rfl (cell_two_new _ _ _ _) (by simp [Value.oneCell']) (by unfold maxLen; omega) (by omega) (by simp; omega) ?_
      intro v' w5 hown' hgrow hfar
      have ho6 := ownC_snoc hown'
      rw [← Hnext.out] at ho6
      have s4 : Below w.heap.size w w5 := hS4.2.grown hgrow hS4.2.size (fun j e => by have := hb5 j e; omega)
      have bx5 : Box2 w5 w.heap.size 87 (.int .i64 r) (.int .i64 g) := hS4.1.kept hgrow (fun e => by have := hb5 _ e.symm; omega)
      clear hown' hgrow hfar hS3 hS4 ho3 bx hB
      refine hK'.out _ _ ⟨bx5, s4⟩ fun hS5 => ?_
      refine wpAnyH_take (i := 15) (v := ?vq6q15) rfl (by kernel_rfl) (by kernel_rfl) (by kernel_rfl) (fun _ _ _ h => h) (.inl ⟨by first | kernel_rfl | rfl, ?yq6q15⟩) hS5 ?_
      case yq6q15 =>
        intro w' hS
        (clear hS)
        go_simp
        try with_reducible rfl
      refine wpAnyH_done (by kernel_rfl) ?_ _
      clear hS5
      go_wp2
      go_roundw
      case rel => exact ⟨k + 1, by omega, by simp, ho6, bx5, s4⟩
      case measure => simp [intOf]; omega
    · obtain rfl : k = m := by omega
      have hL2 := HL.out
      go_wp2
      go_ret
      exact ⟨_, rfl, by rw [hL2]; exact ho.base (by omega), hB⟩

/-! ### Concat -/
set_option maxRecDepth 100000 in
set_option maxHeartbeats 4000000 in
theorem growNilC_c (n : Nat) (w : World) (h0 : 0 < n) (hn : n ≤ 1048576) :
    Calls Try.prog 160 #[.slice none 0 0, .int .i64 n] w (GivesC w [] id) := by
  obtain ⟨i0, hi, hz0, hz1, hz2⟩ := info_parts2 Try.infoC
  have hby : Try.t87.bytes = 16 := by kernel_rfl
  have hcap : Builtin.nextslicecap n 0 = n := by unfold Builtin.nextslicecap; rw [if_pos (by omega)]
  have hb1 : ¬ 281474976710656 < (n : Int) * (Try.t87.bytes : Int) := by rw [hby]; omega
  have hb2 : ¬ 281474976710656 < Builtin.nextslicecap n 0 * Try.t87.bytes := by rw [hby, hcap]; omega
  have hge := grownCap_ge w n 0 87
  have hle := grownCap_le_maxLen w n 0 87 (by unfold maxLen; omega)
  have Hge := Lib.hid hge
  have Hle := Lib.hid hle
  clear hby hcap hge hle
  go_enter Try.func160, Try.ntmps160
  go_wp2_with fail
  go_ret
  refine ⟨_, rfl, World.ownsRow.drew (World.ownsRow_made w _ _ (Nat.le_refl _) Hle.out ?_), ((Below.refl _ w).alloc (Nat.le_refl _) _).drew⟩
  have h := Hge.out
  unfold grownCap at h
  simp [size_zeroCells]
  omega

/-- the first k lists, one behind the other -/
def catTo (ls : Nat → List (Int × Int)) : Nat → List (Int × Int)
  | 0 => []
  | k + 1 => catTo ls k ++ ls k

set_option maxRecDepth 100000 in
set_option maxHeartbeats 8000000 in
theorem concat3_c (N : Nat) (ls : Nat → List (Int × Int)) (A : Nat → Addr) (cp : Nat → Nat) (w : World) (bk : Nat) (hbk : bk < w.heap.size)
    (hc : ∀ k, k < N → w.cell? ⟨bk, k, none⟩ = some (.slice (some (A k)) (ls k).length (cp k))) (hI : ∀ k, k < N → Cls w.heap.size w (.slice (some (A k)) (ls k).length (cp k)) (ls k))
    (hN : N ≤ 1000) (h0 : 0 < (catTo ls N).length) (hb : ∀ k, k ≤ N → (catTo ls k).length ≤ 1000) :
    Calls Try.prog 124 #[.slice (some ⟨bk, 0, none⟩) N N] w (GivesC w (catTo ls N) id) := by
  obtain ⟨i0, hi0, hz0, hz1, hz2⟩ := info_parts2 Try.infoC
  have Hc := Lib.hid hc
  have HI := Lib.hid hI
  have Hb := Lib.hid hb
  clear hc hI hb
  go_enter Try.func124, Try.ntmps124
  go_wp2_with fail
  go_loop [3, 11] (fun s i => ∃ k : Nat, k ≤ N ∧ i = .int .i64 k ∧ s = .int .i64 ((catTo ls k).length : Nat)) (fun _ i => N - (intOf i).toNat)
  case atStart => exact ⟨0, by omega, rfl, rfl⟩
  case round =>
    obtain ⟨k, hk, rfl, rfl⟩ := hrel
    have hbk2 := Hb.out k hk
    obtain ⟨q, hq⟩ : ∃ q, (catTo ls k).length = q := ⟨_, rfl⟩
    have Hq := Lib.hid hq
    rw [hq] at hbk2 ⊢
    clear hq
    by_cases hlt : k < N
    · have hck := Hc.out k hlt
      have hk1 := Hb.out (k + 1) (by omega)
      have hkl : (catTo ls (k + 1)).length = q + (ls k).length := by rw [← Hq.out]; simp [catTo]
      rw [hkl] at hk1
      have Hkl := Lib.hid hkl
      have hltI : (k : Int) < (N : Int) := by omega
      have hw : IntKind.i64.wrap ((q : Int) + ((ls k).length : Int)) = ((q + (ls k).length : Nat) : Int) := by rw [IntKind.wrap_i64]; omega
      clear hkl
      go_wp2
      exact ⟨⟨k + 1, by omega, by simp, by rw [Hkl.out]; simp⟩, by simp [intOf]; omega⟩
    · obtain rfl : k = N := by omega
      have hq0 : 0 < q := by rw [← Hq.out]; exact h0
      go_wp2_with fail
      refine (growNilC_c q w hq0 (by omega)).mono ?_
      rintro e w1 ⟨v, rfl, ho, hB⟩
      simp only [id]
      go_wp2
      go_loopw [6, 27] (fun v i wr => ∃ j : Nat, j ≤ k ∧ i = .int .i64 j ∧ OwnC w.heap.size wr v (catTo ls j).length (flat (catTo ls j)) ∧ Below w.heap.size w wr) (fun _ i _ => k - (intOf i).toNat)
      case atStart => exact ⟨0, by omega, rfl, ho, hB⟩
      case round =>
        obtain ⟨j, hj, rfl, hoj, hBj⟩ := hrel
        clear ho hB
        have hsw := hBj.size
        have hbj := Hb.out j hj
        by_cases hlj : j < k
        · have hcj := (hBj.cell (p := ⟨bk, j, none⟩) hbk).trans (Hc.out j hlj)
          have hIj := (HI.out j hlj).below hBj
          have hbj1 := Hb.out (j + 1) (by omega)
          have hkl : (catTo ls (j + 1)).length = (catTo ls j).length + (ls j).length := by simp [catTo]
          rw [hkl] at hbj1
          have hltJ : (j : Int) < (k : Int) := by omega
          have Hnx := Lib.hid (show catTo ls (j + 1) = catTo ls j ++ ls j from rfl)
          have hrow : wr.ownsRow w.heap.size 87 2 u6 (catTo ls j).length ((flat (catTo ls j)).map (.int .i64)) := hoj
          have hb5 : ∀ j, u6.ownBlock = some j → w.heap.size ≤ j := fun j e => (hoj.blk j e).1
          have Hb5 := Lib.hid hb5
          clear hkl hb5
          go_wp2_with (at_builtin; refine wpList_append_own _ rfl _ _ 54 rfl w.heap.size 87 i0 (.agg #[.int .i64 0, .int .i64 0]) 2 16 Try.underlying54 hi0 hz0 hz1 hz2 rfl (by decide) _ _ _ rfl hrow (A j) (ls j).length (cp j) ((flat (ls j)).map (.int .i64)) rfl (by rw [List.length_map, flat_length]) (cls_srcA hIj rfl) (cells_one _) (by unfold maxLen; omega) (by omega) hsw ?_)
          intro v' w3 hown' hgrow _
          have ho3 := ownC_cat hown'
          rw [← Hnx.out] at ho3
          have hB3 : Below w.heap.size w w3 := hBj.grown hgrow hsw (fun j e => Hb5.out j e)
          clear hown' hgrow
          go_wp2
          go_roundw
          case rel => exact ⟨j + 1, by omega, by simp, ho3, hB3⟩
          case measure => simp [intOf]; omega
        · obtain rfl : j = k := by omega
          go_wp2
          go_ret
          exact ⟨_, rfl, hoj, hBj⟩

end Go.Proofs.Ytckkhgpciglbmaa
