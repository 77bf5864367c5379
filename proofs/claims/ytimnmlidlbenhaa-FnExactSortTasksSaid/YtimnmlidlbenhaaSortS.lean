/-
  SortTasks of the model.
  Conditions: lists of at most 1048576 elements.
-/
import Derived.Test.YtimnmlidlbenhaaSort
namespace Go.Proofs.Ytimnmlidlbenhaa
open Go.RowKit Go.Shelf
attribute [local go_sem] Oper.semAt_some

set_option maxRecDepth 100000 in
set_option maxHeartbeats 8000000 in
theorem s_SortTasks (c0 : Value) (zs : List Int) (w : World) (hI : Ints w.heap.size w c0 zs) (_hN : I64s zs) (hm : zs.length ≤ 1048576) :
    Calls Try.prog 40 #[.agg #[c0]] w (GivesII w (sortG zs) (sortO zs) fun u v => .tuple #[.agg #[u], v, .int .i64 (sortC zs)]) := by
  obtain ⟨a, cap, rfl⟩ := hI.shape
  cases ht : tasksOk zs
  · have Hg := Lib.hid (show sortG zs = [] by unfold sortG; rw [ht]; rfl)
    have Ho := Lib.hid (show sortO zs = [] by unfold sortO; rw [ht]; rfl)
    have Hc := Lib.hid (show sortC zs = 1 by unfold sortC; rw [ht]; rfl)
    have Ht := Lib.hid ht
    clear ht
    go_enter Try.func40, Try.ntmps40
    go_wp2_with fail
    obtain ⟨W0, hW1⟩ : ∃ W0, ((w.alloc (.cells #[.slice a zs.length cap] 28)).alloc (.cells #[.slice none 0 0] 28)) = W0 := ⟨_, rfl⟩
    have hB1 : Below w.heap.size w W0 := by rw [← hW1]; exact (((Below.refl _ w).alloc (Nat.le_refl _) _).alloc (by simp; try omega) _)
    have hs1 : w.heap.size + 2 ≤ W0.heap.size := by rw [← hW1]; simp
    have bQ : Boxed W0 (w.heap.size + 1) 28 (.slice none 0 0) := by rw [← hW1]; repeat first | (refine boxed_at ?_; (simp; done)) | refine Boxed.alloc ?_ _
    rw [hW1]
    clear hW1
    refine (l01Is_c _ zs _ (hI.later hB1) (by omega)).mono ?_
    rintro e w1 ⟨he, hb⟩
    rw [Ht.out] at he
    subst he
    have hB2 := hB1.trans (hb.mono (by omega))
    replace bQ := boxed_later bQ hb
    have cQ := bQ.cell
    have fQ := bQ.frozen
    go_wp2_with fail
    have k1 := (bQ.set (.slice none 0 0)).cell
    exact bodyPost_ret (v := .tuple #[.agg #[.slice none 0 0], .slice none 0 0, .int .i64 1]) (by simp [results, Try.f40, go_sem, k1]) rfl ⟨_, _, w.heap.size, by rw [Hc.out], by rw [Hg.out]; exact seg_nil _ _ _ (Nat.le_refl _), by rw [Ho.out]; exact seg_nil _ _ _ (by simp [World.setCell]; have := hB2.size; omega), Nat.le_refl _, hB2.setCell (p := ⟨w.heap.size + 1, 0, none⟩) (by show w.heap.size ≤ w.heap.size + 1; omega) _⟩
  · have hl := tasksOk_len ht
    have Hg := Lib.hid (show sortG zs = gapsBy zs (ordTo zs zs.length) zs.length by unfold sortG; rw [ht]; rfl)
    have Ho := Lib.hid (show sortO zs = ordTo zs zs.length by unfold sortO; rw [ht]; rfl)
    have Hc := Lib.hid (show sortC zs = 0 by unfold sortC; rw [ht]; rfl)
    have Ht := Lib.hid ht
    clear ht
    go_enter Try.func40, Try.ntmps40
    go_wp2_with fail
    obtain ⟨W0, hW1⟩ : ∃ W0, ((w.alloc (.cells #[.slice a zs.length cap] 28)).alloc (.cells #[.slice none 0 0] 28)) = W0 := ⟨_, rfl⟩
    have hB1 : Below w.heap.size w W0 := by rw [← hW1]; exact (((Below.refl _ w).alloc (Nat.le_refl _) _).alloc (by simp; try omega) _)
    have hs1 : w.heap.size + 2 ≤ W0.heap.size := by rw [← hW1]; simp
    have bT : Boxed W0 (w.heap.size) 28 (.slice a zs.length cap) := by rw [← hW1]; repeat first | (refine boxed_at ?_; (simp; done)) | refine Boxed.alloc ?_ _
    have bQ : Boxed W0 (w.heap.size + 1) 28 (.slice none 0 0) := by rw [← hW1]; repeat first | (refine boxed_at ?_; (simp; done)) | refine Boxed.alloc ?_ _
    rw [hW1]
    clear hW1
    refine (l01Is_c _ zs _ (hI.later hB1) (by omega)).mono ?_
    rintro e w1 ⟨he, hb⟩
    rw [Ht.out] at he
    subst he
    have hB2 := hB1.trans (hb.mono (by omega))
    have hs2 := hb.size
    replace bT := boxed_later bT hb
    replace bQ := boxed_later bQ hb
    have cT := bT.cell
    have cQ := bQ.cell
    have fQ := bQ.frozen
    go_wp2_with fail
    refine (l01Sorted_c _ zs _ (hI.later hB2) (by omega)).mono ?_
    rintro e w2 ⟨u, v, mid, rfl, hu, hv, hmid, hb2⟩
    obtain ⟨au, cu, eu⟩ := hu.ints.shape
    obtain ⟨av, cv, ev⟩ := hv.ints.shape
    rw [gapsBy_length] at eu
    rw [ordTo_length] at ev
    subst eu
    subst ev
    have hB3 := hB2.trans (hb2.mono hB2.size)
    have hvt := hv.top
    have hvl := hv.le
    replace hu := hu.own
    replace hv := hv.own.base hB2.size
    have hmw := hB2.size
    replace bT := boxed_later bT hb2
    replace bQ := boxed_later bQ hb2
    have cQ := bQ.cell
    have fQ := bQ.frozen
    have hsz := bQ.lt
    clear cT hb hb2 hB1 hB2
    go_wp2
    have b1 := (bQ.set (.slice au zs.length cu)).alloc (.cells #[.slice au zs.length cu] 28)
    have k1 := b1.cell
    have t2 : OwnI w.heap.size ((w2.setCell ⟨w.heap.size + 1, 0, none⟩ (.slice au zs.length cu)).alloc (.cells #[.slice au zs.length cu] 28)) (.slice av zs.length cv) (ordTo zs zs.length) := World.ownsRow.alloc (OwnI.kept hv (grownBy_setCell2 _ _ _ _) (.inr (ownI_ne_box hv bQ))) _
    have t6 : OwnI mid ((w2.setCell ⟨w.heap.size + 1, 0, none⟩ (.slice au zs.length cu)).alloc (.cells #[.slice au zs.length cu] 28)) (.slice au zs.length cu) (gapsBy zs (ordTo zs zs.length) zs.length) := World.ownsRow.alloc (OwnI.kept hu (grownBy_setCell2 _ _ _ _) (.inr (ownI_ne_box hu bQ))) _
    have hB5 : Below w.heap.size w (w2.setCell ⟨w.heap.size + 1, 0, none⟩ (.slice au zs.length cu)) := hB3.setCell (p := ⟨w.heap.size + 1, 0, none⟩) (by show w.heap.size ≤ w.heap.size + 1; omega) _
    exact bodyPost_ret (v := .tuple #[.agg #[.slice au zs.length cu], .slice av zs.length cv, .int .i64 0]) (by simp [results, Try.f40, go_sem, k1]) rfl ⟨_, _, mid, by rw [Hc.out], by rw [Hg.out]; exact Seg.new t6, by rw [Ho.out]; exact ⟨t2, hvt, by simp [World.setCell]; omega⟩, by omega, hB5.alloc hB5.size _⟩

end Go.Proofs.Ytimnmlidlbenhaa
