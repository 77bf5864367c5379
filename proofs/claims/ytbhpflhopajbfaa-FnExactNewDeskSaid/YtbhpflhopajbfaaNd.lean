/-
  The law on NewDesk: the function answers as its model, and its answer owns its memory.
  Conditions: none but the row's own.
-/
import Derived.Test.YtbhpflhopajbfaaDsk
import Derived.Test.YtbhpflhopajbfaaLaw
namespace Go.Proofs.Ytbhpflhopajbfaa
open Go.RowKit Go.Shelf
attribute [local go_sem] Oper.semAt_some

/-- the new desk's lists -/
def nd1 : List Int := [2, 4, 4]
def nd2 : List Int := [0, 1, 0, 2]
def nd3 : List Int := [2, 1]

theorem new_own (W0 : World) : ∀ W1, ((W0.alloc (.cells #[.int .i64 2, .int .i64 4, .int .i64 4] 2)).alloc (.cells #[.int .i64 0, .int .i64 1, .int .i64 0, .int .i64 2] 2)).alloc (.cells #[.int .i64 2, .int .i64 1] 2) = W1 →
    OwnI W0.heap.size W1 (.slice (some ⟨W0.heap.size, 0, none⟩) 3 3) nd1 ∧ OwnI (W0.heap.size + 1) W1 (.slice (some ⟨W0.heap.size + 1, 0, none⟩) 4 4) nd2 ∧ OwnI (W0.heap.size + 1 + 1) W1 (.slice (some ⟨W0.heap.size + 1 + 1, 0, none⟩) 2 2) nd3 ∧ Below W0.heap.size W0 W1 ∧ W0.heap.size + 3 ≤ W1.heap.size := by
  rintro W1 rfl
  have o1 : OwnI W0.heap.size (W0.alloc (.cells #[.int .i64 2, .int .i64 4, .int .i64 4] 2)) (.slice (some ⟨W0.heap.size, 0, none⟩) 3 3) nd1 := ⟨rfl, .inr ⟨W0.heap.size, 3, #[.int .i64 2, .int .i64 4, .int .i64 4], rfl, Nat.le_refl _, World.alloc_heap_new _ _, Nat.le_refl _, by unfold maxLen; omega, rfl, rfl⟩⟩
  obtain ⟨WA, hA⟩ : ∃ WA, W0.alloc (.cells #[.int .i64 2, .int .i64 4, .int .i64 4] 2) = WA := ⟨_, rfl⟩
  have sA : WA.heap.size = W0.heap.size + 1 := by rw [← hA]; simp
  have bA : Below W0.heap.size W0 WA := by rw [← hA]; exact (Below.refl _ _).alloc (Nat.le_refl _) _
  rw [hA] at o1 ⊢
  have o2 : OwnI WA.heap.size (WA.alloc (.cells #[.int .i64 0, .int .i64 1, .int .i64 0, .int .i64 2] 2)) (.slice (some ⟨WA.heap.size, 0, none⟩) 4 4) nd2 := ⟨rfl, .inr ⟨WA.heap.size, 4, #[.int .i64 0, .int .i64 1, .int .i64 0, .int .i64 2], rfl, Nat.le_refl _, World.alloc_heap_new _ _, Nat.le_refl _, by unfold maxLen; omega, rfl, rfl⟩⟩
  have bB : Below WA.heap.size WA (WA.alloc (.cells #[.int .i64 0, .int .i64 1, .int .i64 0, .int .i64 2] 2)) := (Below.refl _ _).alloc (Nat.le_refl _) _
  obtain ⟨WB, hB⟩ : ∃ WB, WA.alloc (.cells #[.int .i64 0, .int .i64 1, .int .i64 0, .int .i64 2] 2) = WB := ⟨_, rfl⟩
  have sB : WB.heap.size = WA.heap.size + 1 := by rw [← hB]; simp
  rw [hB] at o2 bB ⊢
  have o3 : OwnI WB.heap.size (WB.alloc (.cells #[.int .i64 2, .int .i64 1] 2)) (.slice (some ⟨WB.heap.size, 0, none⟩) 2 2) nd3 := ⟨rfl, .inr ⟨WB.heap.size, 2, #[.int .i64 2, .int .i64 1], rfl, Nat.le_refl _, World.alloc_heap_new _ _, Nat.le_refl _, by unfold maxLen; omega, rfl, rfl⟩⟩
  have bC : Below WB.heap.size WB (WB.alloc (.cells #[.int .i64 2, .int .i64 1] 2)) := (Below.refl _ _).alloc (Nat.le_refl _) _
  have e1 := (o1.below bB).below bC
  have e2 := o2.below bC
  rw [sA] at e2
  rw [sB, sA] at o3
  exact ⟨e1, e2, o3, bA.trans ((bB.mono (by omega)).trans (bC.mono (by omega))), by simp; omega⟩

set_option maxRecDepth 100000 in
set_option maxHeartbeats 4000000 in
theorem s_l11New (w : World) : Calls Try.prog 112 #[] w (GivesIII w nd1 nd2 nd3 fun u v x => .agg #[u, v, x]) := by
  go_enter Try.func112, Try.ntmps112
  go_wp2_with fail
  have h1 := (new_own (w.alloc (.cells #[.slice (some ⟨w.heap.size + 1, 0, none⟩) 3 3, .slice (some ⟨w.heap.size + 1 + 1, 0, none⟩) 4 4, .slice (some ⟨w.heap.size + 1 + 1 + 1, 0, none⟩) 2 2] 76)))
  have b0 := Box3.new w 76 (.slice (some ⟨w.heap.size + 1, 0, none⟩) 3 3) (.slice (some ⟨w.heap.size + 1 + 1, 0, none⟩) 4 4) (.slice (some ⟨w.heap.size + 1 + 1 + 1, 0, none⟩) 2 2)
  have hB0 : Below w.heap.size w (w.alloc (.cells #[.slice (some ⟨w.heap.size + 1, 0, none⟩) 3 3, .slice (some ⟨w.heap.size + 1 + 1, 0, none⟩) 4 4, .slice (some ⟨w.heap.size + 1 + 1 + 1, 0, none⟩) 2 2] 76)) := (Below.refl _ _).alloc (Nat.le_refl _) _
  obtain ⟨W0, hW0⟩ : ∃ W0, w.alloc (.cells #[.slice (some ⟨w.heap.size + 1, 0, none⟩) 3 3, .slice (some ⟨w.heap.size + 1 + 1, 0, none⟩) 4 4, .slice (some ⟨w.heap.size + 1 + 1 + 1, 0, none⟩) 2 2] 76) = W0 := ⟨_, rfl⟩
  have hs : w.heap.size + 1 = W0.heap.size := by rw [← hW0]; simp
  rw [hW0] at h1 b0 hB0
  rw [hW0]
  obtain ⟨W1, hW1⟩ : ∃ W1, ((W0.alloc (.cells #[.int .i64 2, .int .i64 4, .int .i64 4] 2)).alloc (.cells #[.int .i64 0, .int .i64 1, .int .i64 0, .int .i64 2] 2)).alloc (.cells #[.int .i64 2, .int .i64 1] 2) = W1 := ⟨_, rfl⟩
  obtain ⟨q1, q2, q3, hB1, hs1⟩ := h1 W1 hW1
  rw [hW1]
  clear hW0 hW1 h1
  have b1 := b0.later hB1
  have c0 := b1.c0
  have c1 := b1.c1
  have c2 := b1.c2
  rw [← hs] at q1 q2 q3 hs1 hB1
  refine bodyPost_ret (v := .agg #[.slice (some ⟨w.heap.size + 1, 0, none⟩) 3 3, .slice (some ⟨w.heap.size + 1 + 1, 0, none⟩) 4 4, .slice (some ⟨w.heap.size + 1 + 1 + 1, 0, none⟩) 2 2]) (by simp [results, Try.f112, go_sem, c0, c1, c2]) rfl ⟨_, _, _, w.heap.size + 1 + 1, w.heap.size + 1 + 1 + 1, rfl, ⟨q1.base (by omega), fun k e => ?_, by omega⟩, ⟨q2, fun k e => ?_, by omega⟩, ⟨q3, fun k e => (q3.blk k e).2, Nat.le_refl _⟩, by omega, by omega, by omega, hB0.trans (hB1.mono (by omega))⟩
  · have : w.heap.size + 1 = k := by simpa [Value.ownBlock] using e
    omega
  · have : w.heap.size + 1 + 1 = k := by simpa [Value.ownBlock] using e
    omega

set_option maxRecDepth 100000 in
set_option maxHeartbeats 4000000 in
theorem i_NewDesk (w : World) : Calls Try.prog 56 #[] w (GivesIII w nd1 nd2 nd3 fun u v x => .agg #[u, v, x]) := by
  go_enter Try.func56, Try.ntmps56
  go_wp2_with fail
  have h1 := (new_own (w.alloc (.cells #[.slice (some ⟨w.heap.size + 1, 0, none⟩) 3 3, .slice (some ⟨w.heap.size + 1 + 1, 0, none⟩) 4 4, .slice (some ⟨w.heap.size + 1 + 1 + 1, 0, none⟩) 2 2] 76)))
  have b0 := Box3.new w 76 (.slice (some ⟨w.heap.size + 1, 0, none⟩) 3 3) (.slice (some ⟨w.heap.size + 1 + 1, 0, none⟩) 4 4) (.slice (some ⟨w.heap.size + 1 + 1 + 1, 0, none⟩) 2 2)
  have hB0 : Below w.heap.size w (w.alloc (.cells #[.slice (some ⟨w.heap.size + 1, 0, none⟩) 3 3, .slice (some ⟨w.heap.size + 1 + 1, 0, none⟩) 4 4, .slice (some ⟨w.heap.size + 1 + 1 + 1, 0, none⟩) 2 2] 76)) := (Below.refl _ _).alloc (Nat.le_refl _) _
  obtain ⟨W0, hW0⟩ : ∃ W0, w.alloc (.cells #[.slice (some ⟨w.heap.size + 1, 0, none⟩) 3 3, .slice (some ⟨w.heap.size + 1 + 1, 0, none⟩) 4 4, .slice (some ⟨w.heap.size + 1 + 1 + 1, 0, none⟩) 2 2] 76) = W0 := ⟨_, rfl⟩
  have hs : w.heap.size + 1 = W0.heap.size := by rw [← hW0]; simp
  rw [hW0] at h1 b0 hB0
  rw [hW0]
  obtain ⟨W1, hW1⟩ : ∃ W1, ((W0.alloc (.cells #[.int .i64 2, .int .i64 4, .int .i64 4] 2)).alloc (.cells #[.int .i64 0, .int .i64 1, .int .i64 0, .int .i64 2] 2)).alloc (.cells #[.int .i64 2, .int .i64 1] 2) = W1 := ⟨_, rfl⟩
  obtain ⟨q1, q2, q3, hB1, hs1⟩ := h1 W1 hW1
  rw [hW1]
  clear hW0 hW1 h1
  have b1 := b0.later hB1
  have c0 := b1.c0
  have c1 := b1.c1
  have c2 := b1.c2
  rw [← hs] at q1 q2 q3 hs1 hB1
  refine bodyPost_ret (v := .agg #[.slice (some ⟨w.heap.size + 1, 0, none⟩) 3 3, .slice (some ⟨w.heap.size + 1 + 1, 0, none⟩) 4 4, .slice (some ⟨w.heap.size + 1 + 1 + 1, 0, none⟩) 2 2]) (by simp [results, Try.f56, go_sem, c0, c1, c2]) rfl ⟨_, _, _, w.heap.size + 1 + 1, w.heap.size + 1 + 1 + 1, rfl, ⟨q1.base (by omega), fun k e => ?_, by omega⟩, ⟨q2, fun k e => ?_, by omega⟩, ⟨q3, fun k e => (q3.blk k e).2, Nat.le_refl _⟩, by omega, by omega, by omega, hB0.trans (hB1.mono (by omega))⟩
  · have : w.heap.size + 1 = k := by simpa [Value.ownBlock] using e
    omega
  · have : w.heap.size + 1 + 1 = k := by simpa [Value.ownBlock] using e
    omega

set_option maxRecDepth 100000 in
set_option maxHeartbeats 4000000 in
theorem s_NewDesk (w : World) : Calls Try.prog 55 #[] w (GivesIII w nd1 nd2 nd3 fun u v x => .agg #[u, v, x]) := by
  go_enter Try.func55, Try.ntmps55
  go_wp2_with fail
  have hB0 : Below w.heap.size w (w.alloc (.cells #[.slice none 0 0, .slice none 0 0, .slice none 0 0] 76)) := (Below.refl _ _).alloc (Nat.le_refl _) _
  have b0 := Box3.new w 76 (.slice none 0 0) (.slice none 0 0) (.slice none 0 0)
  refine (s_l11New _).mono ?_
  rintro e w1 ⟨u, v, x, m1, m2, rfl, g1, g2, g3, h1, h2, h3, hb⟩
  have hB1 := hB0.trans (hb.mono (by simp))
  have b1 := b0.later hb
  obtain ⟨a1, c1, rfl⟩ := g1.ints.shape
  obtain ⟨a2, c2, rfl⟩ := g2.ints.shape
  obtain ⟨a3, c3, rfl⟩ := g3.ints.shape
  have k0 := b1.c0
  have k1 := b1.c1
  have k2 := b1.c2
  have f0 := b1.frozen 0
  have f1 := b1.frozen 1
  have f2 := b1.frozen 2
  simp only [World.size_alloc] at g1 h1 hb
  have hout : Out w.heap.size (w.heap.size + 1) w1 (((w1.setCell ⟨w.heap.size, 0, none⟩ (.slice a1 nd1.length c1)).setCell ⟨w.heap.size, 1, none⟩ (.slice a2 nd2.length c2)).setCell ⟨w.heap.size, 2, none⟩ (.slice a3 nd3.length c3)) :=
    ((Out.grown (grownBy_setJ _ _ _ _) (fun k e => by cases e; omega)).trans (Out.grown (grownBy_setJ _ _ _ _) (fun k e => by cases e; omega))).trans (Out.grown (grownBy_setJ _ _ _ _) (fun k e => by cases e; omega))
  have bF := ((b1.set0 (.slice a1 nd1.length c1)).set1 (.slice a2 nd2.length c2)).set2 (.slice a3 nd3.length c3)
  have n0 := bF.c0
  have n1 := bF.c1
  have n2 := bF.c2
  have hsz : w1.heap.size = (((w1.setCell ⟨w.heap.size, 0, none⟩ (.slice a1 nd1.length c1)).setCell ⟨w.heap.size, 1, none⟩ (.slice a2 nd2.length c2)).setCell ⟨w.heap.size, 2, none⟩ (.slice a3 nd3.length c3)).heap.size := by simp [World.setCell]
  go_wp2_with fail
  refine bodyPost_ret (v := .agg #[.slice a1 nd1.length c1, .slice a2 nd2.length c2, .slice a3 nd3.length c3]) (by simp [results, Try.f55, go_sem, n0, n1, n2]) rfl ⟨_, _, _, m1, m2, rfl, ?_, ?_, ?_, by omega, by omega, by omega, hout.below hB1 (Nat.le_refl _)⟩
  · have h := g1.outside hout (.inr (by omega)); exact ⟨h.own.base (by omega), h.top, h.le⟩
  · have h := g2.outside hout (.inr (by omega)); exact ⟨h.own.base (by omega), h.top, h.le⟩
  · have h := g3.outside hout (.inr (by omega)); exact ⟨h.own.base (by omega), fun k e => by have := h.top k e; omega, Nat.le_refl _⟩

end Go.Proofs.Ytbhpflhopajbfaa
