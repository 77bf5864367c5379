/-
  Desks: three slices; the laws' helpers for desks; opening a struct of a struct, a slice and a struct.
  Conditions: lists of at most 1048576 elements where a copy is made.
-/
import Derived.Test.YtbhpflhopajbfaaJob
import Derived.Test.YtbhpflhopajbfaaGrh
namespace Go.Proofs.Ytbhpflhopajbfaa
open Go.RowKit Go.Shelf

set_option maxRecDepth 100000 in
set_option maxHeartbeats 4000000 in
theorem szDesk_c (a1 a2 a3 : Option Addr) (n1 n2 n3 c1 c2 c3 : Nat) (left : Int) (w : World) (h0 : 0 ≤ left) (h1 : left ≤ 1048576) (hn1 : n1 ≤ 9223372036854775807) (hn2 : n2 ≤ 9223372036854775807) (hn3 : n3 ≤ 9223372036854775807) :
    Calls Try.prog 60 #[.agg #[.slice a1 n1 c1, .slice a2 n2 c2, .slice a3 n3 c3], .int .i64 left] w fun e w' => e = .returned (.int .i64 (szJ n1 n2 n3 left)) ∧ Below w.heap.size w w' := by
  have hB0 : Below w.heap.size w (w.alloc (.cells #[.slice a1 n1 c1, .slice a2 n2 c2, .slice a3 n3 c3] 83)) := (Below.refl _ _).alloc (Nat.le_refl _) _
  have b0 := Box3.new w 83 (.slice a1 n1 c1) (.slice a2 n2 c2) (.slice a3 n3 c3)
  by_cases k1 : left - n1 < 0
  · have Hm := Lib.hid (show szJ n1 n2 n3 left = -1 by unfold szJ; rw [if_pos (by omega)])
    have H1 := Lib.hid (show szI n1 left = -1 by unfold szI; rw [if_pos (by omega)])
    go_enter Try.func60, Try.ntmps60
    go_wp2_with fail
    refine (szTasks_c _ _ _ _ _ (by omega) (by omega) hn1).mono ?_
    rintro e w1 ⟨he, hb⟩
    rw [H1.out] at he
    subst he
    go_wp2_with fail
    go_ret
    exact ⟨ret_int Hm.out.symm, hB0.trans (hb.mono (by simp))⟩
  · have H1 := Lib.hid (show szI n1 left = left - n1 by unfold szI; rw [if_neg (by omega)])
    by_cases k2 : left - n1 - n2 < 0
    · have Hm := Lib.hid (show szJ n1 n2 n3 left = -1 by unfold szJ; rw [if_pos (by omega)])
      have H2 := Lib.hid (show szI n2 (left - n1) = -1 by unfold szI; rw [if_pos (by omega)])
      go_enter Try.func60, Try.ntmps60
      go_wp2_with fail
      refine (szTasks_c _ _ _ _ _ (by omega) (by omega) hn1).mono ?_
      rintro e w1 ⟨he, hb⟩
      rw [H1.out] at he
      subst he
      have b1 := b0.later hb
      have d1 := b1.c1
      go_wp2_with fail
      refine (szInt64S_d (-1) _ _ _ _ _ (by omega) (by omega) hn2 H2.out).mono ?_
      rintro e w' ⟨rfl, rfl⟩
      go_wp2_with fail
      go_ret
      exact ⟨ret_int Hm.out.symm, hB0.trans (hb.mono (by simp))⟩
    · have H2 := Lib.hid (show szI n2 (left - n1) = left - n1 - n2 by unfold szI; rw [if_neg (by omega)])
      by_cases k3 : left - n1 - n2 - n3 < 0
      · have Hm := Lib.hid (show szJ n1 n2 n3 left = -1 by unfold szJ; rw [if_pos (by omega)])
        have H3 := Lib.hid (show szI n3 (left - n1 - n2) = -1 by unfold szI; rw [if_pos (by omega)])
        go_enter Try.func60, Try.ntmps60
        go_wp2_with fail
        refine (szTasks_c _ _ _ _ _ (by omega) (by omega) hn1).mono ?_
        rintro e w1 ⟨he, hb⟩
        rw [H1.out] at he
        subst he
        have b1 := b0.later hb
        have d1 := b1.c1
        have d2 := b1.c2
        go_wp2_with fail
        refine (szInt64S_d (left - n1 - n2) _ _ _ _ _ (by omega) (by omega) hn2 H2.out).mono ?_
        rintro e w' ⟨rfl, rfl⟩
        go_wp2_with fail
        refine (szGarden_c _ _ _ _ _ (by omega) (by omega) hn3).mono ?_
        rintro e w2 ⟨he, hb2⟩
        rw [H3.out] at he
        subst he
        go_wp2_with fail
        go_ret
        exact ⟨ret_int Hm.out.symm, (hB0.trans (hb.mono (by simp))).trans (hb2.mono (by have := hb.size; simp at this; omega))⟩
      · have Hm := Lib.hid (show szJ n1 n2 n3 left = left - n1 - n2 - n3 by unfold szJ; rw [if_neg (by omega)])
        have H3 := Lib.hid (show szI n3 (left - n1 - n2) = left - n1 - n2 - n3 by unfold szI; rw [if_neg (by omega)])
        go_enter Try.func60, Try.ntmps60
        go_wp2_with fail
        refine (szTasks_c _ _ _ _ _ (by omega) (by omega) hn1).mono ?_
        rintro e w1 ⟨he, hb⟩
        rw [H1.out] at he
        subst he
        have b1 := b0.later hb
        have d1 := b1.c1
        have d2 := b1.c2
        go_wp2_with fail
        refine (szInt64S_d (left - n1 - n2) _ _ _ _ _ (by omega) (by omega) hn2 H2.out).mono ?_
        rintro e w' ⟨rfl, rfl⟩
        go_wp2_with fail
        refine (szGarden_c _ _ _ _ _ (by omega) (by omega) hn3).mono ?_
        rintro e w2 ⟨he, hb2⟩
        rw [H3.out] at he
        subst he
        go_wp2_with fail
        go_ret
        exact ⟨ret_int Hm.out.symm, (hB0.trans (hb.mono (by simp))).trans (hb2.mono (by have := hb.size; simp at this; omega))⟩

set_option maxRecDepth 100000 in
set_option maxHeartbeats 4000000 in
theorem toDesk_c (cl cp cd : Value) (ls ps ds : List Int) (w : World) (hI : Jobs3 w.heap.size w cl cp cd ls ps ds) (hl : JLen ls ps ds) :
    Calls Try.prog 62 #[.agg #[cl, cp, cd]] w (GivesIII w ls ps ds fun u v x => .agg #[u, v, x]) := by
  obtain ⟨al, capl, rfl⟩ := hI.l.shape
  obtain ⟨ap, capp, rfl⟩ := hI.p.shape
  obtain ⟨ad, capd, rfl⟩ := hI.d.shape
  go_enter Try.func62, Try.ntmps62
  go_wp2_with fail
  obtain ⟨W0, hW0⟩ : ∃ W0, (((w.alloc (.cells #[.slice al ls.length capl, .slice ap ps.length capp, .slice ad ds.length capd] 83)).alloc (.cells #[.slice none 0 0, .slice none 0 0, .slice none 0 0] 76)).alloc (.cells #[.slice none 0 0, .slice none 0 0, .slice none 0 0] 76)) = W0 := ⟨_, rfl⟩
  have bA : Box3 W0 w.heap.size 83 (.slice al ls.length capl) (.slice ap ps.length capp) (.slice ad ds.length capd) := by rw [← hW0]; exact ((Box3.new w _ _ _ _).alloc _).alloc _
  have bO : Box3 W0 (w.heap.size + 1) 76 (.slice none 0 0) (.slice none 0 0) (.slice none 0 0) := by rw [← hW0]; simpa using (Box3.new (w.alloc (.cells #[.slice al ls.length capl, .slice ap ps.length capp, .slice ad ds.length capd] 83)) 76 (.slice none 0 0) (.slice none 0 0) (.slice none 0 0)).alloc _
  have hB0 : Below w.heap.size w W0 := by rw [← hW0]; exact (((Below.refl _ w).alloc (Nat.le_refl _) _).alloc (by simp) _).alloc (by simp; omega) _
  have bQ : Box3 W0 (w.heap.size + 1 + 1) 76 (.slice none 0 0) (.slice none 0 0) (.slice none 0 0) := by rw [← hW0]; simpa using (Box3.new ((w.alloc (.cells #[.slice al ls.length capl, .slice ap ps.length capp, .slice ad ds.length capd] 83)).alloc (.cells #[.slice none 0 0, .slice none 0 0, .slice none 0 0] 76)) 76 (.slice none 0 0) (.slice none 0 0) (.slice none 0 0))
  have hs0 : w.heap.size + 3 ≤ W0.heap.size := by rw [← hW0]; simp
  rw [hW0]
  clear hW0
  have hB1 := hB0
  clear hB0
  refine (toTasks_c _ ls _ (hI.l.later hB1) hl.l).mono ?_
  rintro e W1 ⟨u, rfl, ho, hb⟩
  obtain ⟨a1, c1, rfl⟩ := ho.ints.shape
  have g1 := Seg.new ho
  replace bA := bA.later hb
  replace bO := bO.later hb
  replace bQ := bQ.later hb
  replace hB1 := hB1.trans (hb.mono (by omega))
  have hsW1 := hb.size
  clear hb ho
  have f1 := bQ.frozen 0
  have e1 := bQ.c0
  have k9 := (bA.other (b' := w.heap.size + 1 + 1) (i := 0) (by omega) (.slice a1 ls.length c1)).c1
  go_wp2_with fail
  have hout : Out (w.heap.size + 1 + 1) (w.heap.size + 1 + 1 + 1) W1 (W1.setCell ⟨w.heap.size + 1 + 1, 0, none⟩ (.slice a1 ls.length c1)) := Out.grown (grownBy_setJ _ _ _ _) (fun k e => by cases e; omega)
  replace bA := bA.other (b' := w.heap.size + 1 + 1) (i := 0) (by omega) (.slice a1 ls.length c1)
  replace bO := bO.other (b' := w.heap.size + 1 + 1) (i := 0) (by omega) (.slice a1 ls.length c1)
  replace bQ := bQ.set0 (.slice a1 ls.length c1)
  replace hB1 := hB1.setCell (p := ⟨w.heap.size + 1 + 1, 0, none⟩) (by show w.heap.size ≤ w.heap.size + 1 + 1; omega) (.slice a1 ls.length c1)
  replace g1 := g1.outside hout (.inr (by omega))
  have hsW2 : W1.heap.size ≤ (W1.setCell ⟨w.heap.size + 1 + 1, 0, none⟩ (.slice a1 ls.length c1)).heap.size := by simp [World.setCell]
  obtain ⟨W2, hWn⟩ : ∃ W2, W1.setCell ⟨w.heap.size + 1 + 1, 0, none⟩ (.slice a1 ls.length c1) = W2 := ⟨_, rfl⟩
  rw [hWn] at bA bO bQ hB1 hsW2 g1
  rw [hWn]
  clear hWn f1 e1 k9 hout
  refine (toInt64S_c _ ps _ (hI.p.later hB1) hl.p).mono ?_
  rintro e W3 ⟨u, rfl, ho, hb⟩
  obtain ⟨a2, c2, rfl⟩ := ho.ints.shape
  have g2 := Seg.new ho
  replace bA := bA.later hb
  replace bO := bO.later hb
  replace bQ := bQ.later hb
  replace g1 := g1.below hb
  replace hB1 := hB1.trans (hb.mono (by omega))
  have hsW3 := hb.size
  clear hb ho
  have f1 := bQ.frozen 1
  have e1 := bQ.c1
  have k9 := (bA.other (b' := w.heap.size + 1 + 1) (i := 1) (by omega) (.slice a2 ps.length c2)).c2
  go_wp2_with fail
  have hout : Out (w.heap.size + 1 + 1) (w.heap.size + 1 + 1 + 1) W3 (W3.setCell ⟨w.heap.size + 1 + 1, 1, none⟩ (.slice a2 ps.length c2)) := Out.grown (grownBy_setJ _ _ _ _) (fun k e => by cases e; omega)
  replace bA := bA.other (b' := w.heap.size + 1 + 1) (i := 1) (by omega) (.slice a2 ps.length c2)
  replace bO := bO.other (b' := w.heap.size + 1 + 1) (i := 1) (by omega) (.slice a2 ps.length c2)
  replace bQ := bQ.set1 (.slice a2 ps.length c2)
  replace hB1 := hB1.setCell (p := ⟨w.heap.size + 1 + 1, 1, none⟩) (by show w.heap.size ≤ w.heap.size + 1 + 1; omega) (.slice a2 ps.length c2)
  replace g1 := g1.outside hout (.inr (by omega))
  replace g2 := g2.outside hout (.inr (by omega))
  have hsW4 : W3.heap.size ≤ (W3.setCell ⟨w.heap.size + 1 + 1, 1, none⟩ (.slice a2 ps.length c2)).heap.size := by simp [World.setCell]
  obtain ⟨W4, hWn⟩ : ∃ W4, W3.setCell ⟨w.heap.size + 1 + 1, 1, none⟩ (.slice a2 ps.length c2) = W4 := ⟨_, rfl⟩
  rw [hWn] at bA bO bQ hB1 hsW4 g1 g2
  rw [hWn]
  clear hWn f1 e1 k9 hout
  refine (toGarden_c _ ds _ (hI.d.later hB1) hl.d).mono ?_
  rintro e W5 ⟨u, rfl, ho, hb⟩
  obtain ⟨a3, c3, rfl⟩ := ho.ints.shape
  have g3 := Seg.new ho
  replace bA := bA.later hb
  replace bO := bO.later hb
  replace bQ := bQ.later hb
  replace g1 := g1.below hb
  replace g2 := g2.below hb
  replace hB1 := hB1.trans (hb.mono (by omega))
  have hsW5 := hb.size
  clear hb ho
  have f1 := bQ.frozen 2
  have e1 := bQ.c2
  have k7 := (bQ.set2 (.slice a3 ds.length c3)).c0
  have k8 := (bQ.set2 (.slice a3 ds.length c3)).c1
  have k9 := (bQ.set2 (.slice a3 ds.length c3)).c2
  have k0 := bO.frozen 0
  have k00 := bO.frozen 1
  have k000 := bO.frozen 2
  have j0 := bO.c0
  have j1 := bO.c1
  have j2 := bO.c2
  go_wp2_with fail
  have hout : Out (w.heap.size + 1) (w.heap.size + 3) W5 (((((W5.setCell ⟨w.heap.size + 1 + 1, 2, none⟩ (.slice a3 ds.length c3)).setCell ⟨w.heap.size + 1, 0, none⟩ (.slice a1 ls.length c1)).setCell ⟨w.heap.size + 1, 1, none⟩ (.slice a2 ps.length c2)).setCell ⟨w.heap.size + 1, 2, none⟩ (.slice a3 ds.length c3))) :=
    (((Out.grown (grownBy_setJ _ _ _ _) (fun k e => by cases e; omega)).trans (Out.grown (grownBy_setJ _ _ _ _) (fun k e => by cases e; omega))).trans (Out.grown (grownBy_setJ _ _ _ _) (fun k e => by cases e; omega))).trans (Out.grown (grownBy_setJ _ _ _ _) (fun k e => by cases e; omega))
  have bF := (((bO.other (b' := w.heap.size + 1 + 1) (i := 2) (by omega) (.slice a3 ds.length c3)).set0 (.slice a1 ls.length c1)).set1 (.slice a2 ps.length c2)).set2 (.slice a3 ds.length c3)
  have n0 := bF.c0
  have n1 := bF.c1
  have n2 := bF.c2
  have hsz : W5.heap.size = (((((W5.setCell ⟨w.heap.size + 1 + 1, 2, none⟩ (.slice a3 ds.length c3)).setCell ⟨w.heap.size + 1, 0, none⟩ (.slice a1 ls.length c1)).setCell ⟨w.heap.size + 1, 1, none⟩ (.slice a2 ps.length c2)).setCell ⟨w.heap.size + 1, 2, none⟩ (.slice a3 ds.length c3))).heap.size := by simp [World.setCell]
  refine bodyPost_ret (v := .agg #[.slice a1 ls.length c1, .slice a2 ps.length c2, .slice a3 ds.length c3]) (by simp [results, Try.results62, go_sem, n0, n1, n2]) rfl ⟨_, _, _, W1.heap.size, W3.heap.size, rfl, ?_, ?_, ?_, by omega, by omega, by omega, hout.below hB1 (by omega)⟩
  · have h := g1.outside hout (.inr (by omega)); exact ⟨h.own.base (by omega), h.top, h.le⟩
  · have h := g2.outside hout (.inr (by omega)); exact ⟨h.own.base (by omega), h.top, h.le⟩
  · have h := g3.outside hout (.inr (by omega)); exact ⟨h.own.base (by omega), fun k e => by have := h.top k e; omega, Nat.le_refl _⟩

set_option maxRecDepth 100000 in
set_option maxHeartbeats 4000000 in
theorem eqDesk_t (cl cp cd cl' cp' cd' : Value) (ls ps ds : List Int) (w : World) (hX : Jobs3 w.heap.size w cl cp cd ls ps ds) (hY : Jobs3 w.heap.size w cl' cp' cd' ls ps ds) (h1 : ls.length * 8 ≤ 140737488351232) (h2 : ps.length * 8 ≤ 140737488351232) (h3 : ds.length * 8 ≤ 140737488351232) :
    Calls Try.prog 57 #[.agg #[cl, cp, cd], .agg #[cl', cp', cd']] w fun e w' => e = .returned (.bool true) ∧ Below w.heap.size w w' := by
  obtain ⟨al, capl, rfl⟩ := hX.l.shape
  obtain ⟨ap, capp, rfl⟩ := hX.p.shape
  obtain ⟨ad, capd, rfl⟩ := hX.d.shape
  obtain ⟨al', capl', rfl⟩ := hY.l.shape
  obtain ⟨ap', capp', rfl⟩ := hY.p.shape
  obtain ⟨ad', capd', rfl⟩ := hY.d.shape
  go_enter Try.func57, Try.ntmps57
  go_wp2_with fail
  obtain ⟨W0, hW0⟩ : ∃ W0, ((w.alloc (.cells #[.slice al ls.length capl, .slice ap ps.length capp, .slice ad ds.length capd] 76)).alloc (.cells #[.slice al' ls.length capl', .slice ap' ps.length capp', .slice ad' ds.length capd'] 76)) = W0 := ⟨_, rfl⟩
  have bA : Box3 W0 w.heap.size 76 (.slice al ls.length capl) (.slice ap ps.length capp) (.slice ad ds.length capd) := by rw [← hW0]; exact (Box3.new w _ _ _ _).alloc _
  have bO : Box3 W0 (w.heap.size + 1) 76 (.slice al' ls.length capl') (.slice ap' ps.length capp') (.slice ad' ds.length capd') := by rw [← hW0]; simpa using Box3.new (w.alloc (.cells #[.slice al ls.length capl, .slice ap ps.length capp, .slice ad ds.length capd] 76)) 76 (.slice al' ls.length capl') (.slice ap' ps.length capp') (.slice ad' ds.length capd')
  have hB : Below w.heap.size w W0 := by rw [← hW0]; exact ((Below.refl _ w).alloc (Nat.le_refl _) _).alloc (by simp) _
  rw [hW0]
  clear hW0
  have hX0 := hX.later hB
  have hY0 := hY.later hB
  refine (eqTasks_d true _ _ ls ls _ hX0.l hY0.l h1 (by simp)).mono ?_
  rintro e W1 ⟨rfl, hb⟩
  replace bA := bA.later hb
  replace bO := bO.later hb
  replace hX0 := hX0.later hb
  replace hY0 := hY0.later hb
  replace hB := hB.trans (hb.mono hB.size)
  clear hb
  have k1 := bA.c1
  have k2 := bO.c1
  go_wp2_with fail
  refine (eqInt64S_d true _ _ ps ps _ hX0.p hY0.p h2 (by simp)).mono ?_
  rintro e W2 ⟨rfl, hb⟩
  replace bA := bA.later hb
  replace bO := bO.later hb
  replace hX0 := hX0.later hb
  replace hY0 := hY0.later hb
  replace hB := hB.trans (hb.mono hB.size)
  clear hb k1 k2
  have k1 := bA.c2
  have k2 := bO.c2
  go_wp2_with fail
  refine (eqGarden_d true _ _ ds ds _ hX0.d hY0.d h3 (by simp)).mono ?_
  rintro e W3 ⟨rfl, hb⟩
  replace hB := hB.trans (hb.mono hB.size)
  go_wp2
  go_ret
  exact ⟨rfl, hB⟩

/-! ### marks -/
set_option maxRecDepth 100000 in
set_option maxHeartbeats 4000000 in
theorem markDesk_c (lo m1 m2 hi : Nat) (u v x : Value) (xs ys zs : List Int) (k : Int) (w : World) (g1 : Seg lo m1 w u xs) (g2 : Seg m1 m2 w v ys) (g3 : Seg m2 hi w x zs) (o1 : lo ≤ m1) (o2 : m1 ≤ m2) (o3 : m2 ≤ hi)
    (h1 : xs.length * 8 ≤ 140737488351232) (h2 : ys.length * 8 ≤ 140737488351232) (h3 : zs.length * 8 ≤ 140737488351232) (hk0 : 0 ≤ k) (hk1 : k + xs.length + ys.length ≤ 1099511627776) :
    Calls Try.prog 58 #[.agg #[u, v, x], .int .i64 k] w fun e w' => e = .returned (.int .i64 (k + xs.length + ys.length + zs.length)) ∧ Seg lo m1 w' u (ups k xs.length) ∧ Seg m1 m2 w' v (ups (k + xs.length) ys.length) ∧ Seg m2 hi w' x (ups (k + xs.length + ys.length) zs.length) ∧ Out lo hi w w' := by
  obtain ⟨a1, c1, rfl⟩ := g1.ints.shape
  obtain ⟨a2, c2, rfl⟩ := g2.ints.shape
  obtain ⟨a3, c3, rfl⟩ := g3.ints.shape
  have hhi : hi ≤ w.heap.size := g3.le
  go_enter Try.func58, Try.ntmps58
  go_wp2_with fail
  obtain ⟨W0, hW0⟩ : ∃ W0, (w.alloc (.cells #[.slice a1 xs.length c1, .slice a2 ys.length c2, .slice a3 zs.length c3] 76)) = W0 := ⟨_, rfl⟩
  have bA : Box3 W0 w.heap.size 76 (.slice a1 xs.length c1) (.slice a2 ys.length c2) (.slice a3 zs.length c3) := by rw [← hW0]; exact Box3.new w _ _ _ _
  have hO : Out lo hi w W0 := by rw [← hW0]; exact Out.alloc _ _ _ _
  have hb : Below w.heap.size w W0 := by rw [← hW0]; exact (Below.refl _ _).alloc (Nat.le_refl _) _
  have hs0 : w.heap.size + 1 ≤ W0.heap.size := by rw [← hW0]; simp
  replace g1 := g1.below hb
  replace g2 := g2.below hb
  replace g3 := g3.below hb
  rw [hW0]
  clear hW0 hb
  refine (markTasks_c _ _ _ k _ g1.own h1 (by omega) (by omega)).mono ?_
  rintro e W1 ⟨rfl, ho, hg⟩
  have hs1 := hg.size
  replace bA := bA.marked g1 hg (by omega)
  replace hO := hO.trans (g1.out_marked hg (by omega) (by omega))
  replace g2 := g2.kept hg (g1.apart (by omega))
  replace g3 := g3.kept hg (g1.apart (by omega))
  replace g1 := g1.marked ho hg
  clear ho hg
  have k1 := bA.c1
  go_wp2_with fail
  refine (markInt64S_c _ _ _ (k + xs.length) _ g2.own h2 (by omega) (by omega)).mono ?_
  rintro e W2 ⟨rfl, ho, hg⟩
  have hs2 := hg.size
  replace bA := bA.marked g2 hg (by omega)
  replace hO := hO.trans (g2.out_marked hg (by omega) (by omega))
  replace g1 := g1.kept hg (g2.apart (by omega))
  replace g3 := g3.kept hg (g2.apart (by omega))
  replace g2 := g2.marked ho hg
  clear ho hg k1
  have k1 := bA.c2
  go_wp2_with fail
  refine (markGarden_c _ _ _ (k + xs.length + ys.length) _ g3.own h3 (by omega) (by omega)).mono ?_
  rintro e W3 ⟨rfl, ho, hg⟩
  replace hO := hO.trans (g3.out_marked hg (by omega) (by omega))
  replace g1 := g1.kept hg (g3.apart (by omega))
  replace g2 := g2.kept hg (g3.apart (by omega))
  replace g3 := g3.marked ho hg
  clear ho hg k1
  go_wp2
  go_ret
  exact ⟨rfl, g1, g2, g3, hO⟩

set_option maxRecDepth 100000 in
set_option maxHeartbeats 4000000 in
theorem heldDesk_c (u v x : Value) (n1 n2 n3 : Nat) (k : Int) (w : World) (hX : Jobs3 w.heap.size w u v x (ups k n1) (ups (k + n1) n2) (ups (k + n1 + n2) n3)) (h1 : n1 * 8 ≤ 140737488351232) (h2 : n2 * 8 ≤ 140737488351232) (h3 : n3 * 8 ≤ 140737488351232) (hk0 : 0 ≤ k) (hk1 : k + n1 + n2 ≤ 1099511627776) :
    Calls Try.prog 59 #[.agg #[u, v, x], .int .i64 k] w fun e w' => e = .returned (.int .i64 (k + n1 + n2 + n3)) ∧ Below w.heap.size w w' := by
  obtain ⟨a1, c1, rfl⟩ := hX.l.shape
  obtain ⟨a2, c2, rfl⟩ := hX.p.shape
  obtain ⟨a3, c3, rfl⟩ := hX.d.shape
  rw [ups_length, ups_length, ups_length] at hX ⊢
  have hB0 : Below w.heap.size w (w.alloc (.cells #[.slice a1 n1 c1, .slice a2 n2 c2, .slice a3 n3 c3] 76)) := (Below.refl _ w).alloc (Nat.le_refl _) _
  have hX0 := hX.later hB0
  have b0 := Box3.new w 76 (.slice a1 n1 c1) (.slice a2 n2 c2) (.slice a3 n3 c3)
  go_enter Try.func59, Try.ntmps59
  go_wp2_with fail
  refine (heldTasks_c _ n1 k _ hX0.l h1 (by omega) (by omega)).mono ?_
  rintro e w1 ⟨rfl, hb⟩
  have b1 := b0.later hb
  have d1 := b1.c1
  have d2 := b1.c2
  have hX1 := hX0.later hb
  have hB1 := hB0.trans (hb.mono (by simp))
  go_wp2_with fail
  refine (heldInt64S_c _ n2 (k + n1) _ hX1.p h2 (by omega) (by omega)).mono ?_
  rintro e w2 ⟨rfl, rfl⟩
  go_wp2_with fail
  refine (heldGarden_c _ n3 (k + n1 + n2) _ hX1.d h3 (by omega) (by omega)).mono ?_
  rintro e w3 ⟨rfl, hb3⟩
  have hB3 := hB1.trans (hb3.mono hB1.size)
  go_wp2_with fail
  go_ret
  exact ⟨rfl, hB3⟩

section
open Go.ChangeShapes Go.WideShapes Go.ChangeAt Go.Joins
variable {H : Type} {enc : TypeId × Value → H} {P : Program}
/-- a struct of one slice, within another one -/
theorem trod_one {w : World} {base : Nat} {spare : Nat → Bool} {held : Bool} {t : TypeId} {f0 : Field} {v : Value} {y : DataW H × List MemPlace} {n : Nat} (hs : P.underlying t = some (.struct #[f0])) (ho0 : f0.offset = 0) (hk0 : P.cellsOf f0.type = 1)
    (h : DataW.trod enc P w base spare held n t [v] = some y) : ∃ (n' : Nat) (y' : DataW H × List MemPlace), DataW.trod enc P w base spare held n' f0.type [v] = some y' := by
  obtain ⟨xs, n', _, hx, hl, hlen, hg⟩ := DataW.trod_struct hs h
  match xs, hlen with
  | [y0], _ =>
    have e0 := hg 0 f0 rfl
    exact ⟨n', y0, by simpa [Value.cells, ho0, hk0] using e0⟩
end

end Go.Proofs.Ytbhpflhopajbfaa
