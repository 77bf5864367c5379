/-
  OrderByDeadlines of the model.
  Conditions: lists of at most 1048576 elements.
-/
import Derived.Test.YtmmpoaphjjpjaaaSort
import Derived.Test.YtmmpoaphjjpjaaaWhS
namespace Go.Proofs.Ytmmpoaphjjpjaaa
open Go.RowKit Go.Shelf
attribute [local go_sem] Oper.semAt_some

def dlR (ls ps ds : List Int) : List Int := if jobsOk ls ps ds then ordTo ds ds.length else []
def dlC (ls ps ds : List Int) : Int := if jobsOk ls ps ds then 0 else 1
theorem dl_no {ls ps ds : List Int} (h : jobsOk ls ps ds = false) : dlR ls ps ds = [] ∧ dlC ls ps ds = 1 := by unfold dlR dlC; rw [h]; exact ⟨rfl, rfl⟩
theorem dl_ok {ls ps ds : List Int} (h : jobsOk ls ps ds = true) : dlR ls ps ds = ordTo ds ds.length ∧ dlC ls ps ds = 0 := by unfold dlR dlC; rw [h]; exact ⟨rfl, rfl⟩
theorem dlR_len (ls ps ds : List Int) : (dlR ls ps ds).length * 8 ≤ 140737488351232 := by
  unfold dlR; split
  · rename_i h; have h1 := (jobsP h).len8; have h2 := (jobsP h).ld; rw [ordTo_length]; omega
  · simp
theorem box3_setFar {W : World} {B b j : Nat} {t : TypeId} {u v x y : Value} (h : Box3 W B t u v x) (hne : B ≠ b) : Box3 (W.setCell ⟨b, j, none⟩ y) B t u v x := h.other hne y

set_option maxRecDepth 100000 in
set_option maxHeartbeats 8000000 in
theorem s_OrderByDeadlines (cl cp cd : Value) (ls ps ds : List Int) (w : World) (hI : Jobs3 w.heap.size w cl cp cd ls ps ds) (_hN : J64 ls ps ds) (hm : JLen ls ps ds) :
    Calls Try.prog 52 #[.agg #[cl, cp, cd]] w (GivesI w (dlR ls ps ds) fun v => .tuple #[v, .int .i64 (dlC ls ps ds)]) := by
  obtain ⟨i0, hi, hz0, hz1, hz2⟩ := info_parts Try.infoI2
  obtain ⟨al, capl, rfl⟩ := hI.l.shape
  obtain ⟨ap, capp, rfl⟩ := hI.p.shape
  obtain ⟨ad, capd, rfl⟩ := hI.d.shape
  have hB0 := below_jobs w (.slice al ls.length capl) (.slice ap ps.length capp) (.slice ad ds.length capd)
  cases ht : jobsOk ls ps ds
  · have H := Lib.hid (dl_no ht)
    have Ht := Lib.hid ht
    clear ht
    go_enter Try.func52, Try.ntmps52
    go_wp2_with fail
    refine (l04Is_c _ _ _ ls ps ds _ (hI.later hB0) hm).mono ?_
    rintro e w1 ⟨he, hb⟩
    rw [Ht.out] at he
    subst he
    go_wp2
    go_ret2
    exact ⟨.slice none 0 0, by rw [H.out.2]; rfl, by rw [H.out.1]; exact ownI_nil _ _, hB0.trans (hb.mono (by simp))⟩
  · have H := Lib.hid (dl_ok ht)
    have Ht := Lib.hid ht
    have hP := jobsP ht
    have h8 := hP.len8
    have hld := hP.ld
    have Hld := Lib.hid hld
    have hd8 : ds.length ≤ 8 := by omega
    have hd1 : ds.length ≤ ls.length := by omega
    have hd2 : ls.length ≤ ds.length := by omega
    clear ht hP hld
    go_enter Try.func52, Try.ntmps52
    go_wp2_with fail
    refine (l04Is_c _ _ _ ls ps ds _ (hI.later hB0) hm).mono ?_
    rintro e w1 ⟨he, hb⟩
    rw [Ht.out] at he
    subst he
    have hB1 : Below w.heap.size w w1 := hB0.trans (hb.mono (by simp))
    have b1 : Box3 w1 w.heap.size 41 (.slice al ls.length capl) (.slice ap ps.length capp) (.slice ad ds.length capd) := (Box3.new _ _ _ _ _).later hb
    have hw1 := hB1.size
    have hbl := b1.lt
    clear hb hB0
    go_wp2
    have ho0 := ownI_empty w1
    have hBz := hB1.alloc hw1 (.cells #[] 2)
    have bT := b1.alloc (.cells #[] 2)
    clear hB1 b1
    go_loopw [4, 5] (fun v i wr => ∃ k : Nat, k ≤ ls.length ∧ i = .int .i64 k ∧ OwnI (w.heap.size + 1) wr v (ordTo ds k) ∧ Box3 wr w.heap.size 41 (.slice al ls.length capl) (.slice ap ps.length capp) (.slice ad ds.length capd) ∧ Below w.heap.size w wr) (fun _ i _ => ls.length - (intOf i).toNat)
    case atStart => exact ⟨0, Nat.zero_le _, rfl, ho0.base (by omega), bT, hBz⟩
    case round =>
      obtain ⟨k, hk, rfl, ho, bk, hB⟩ := hrel
      clear ho0 bT hBz
      have c0 := bk.c0
      obtain ⟨a4, cap4, e4⟩ := ho.ints.shape
      have hbk := ho.blk
      have hsw := bk.lt
      have Hlen := Lib.hid (ordTo_length ds k)
      rw [ordTo_length] at e4
      subst e4
      have hrow : wr.ownsRow (w.heap.size + 1) 2 1 (.slice a4 k cap4) k ((ordTo ds k).map (.int .i64)) := by have h := ho; unfold OwnI at h; rwa [Hlen.out] at h
      by_cases hlt : k < ls.length
      · have hltd : k < ds.length := by omega
        go_wp2_with (at_builtin; refine wpList_append_own _ rfl _ _ 22 rfl (w.heap.size + 1) 2 i0 (.int .i64 0) 1 8 Try.underlying22 hi hz0 hz1 hz2 rfl (by decide) _ _ _ rfl (World.ownsRow.alloc hrow _) ⟨wr.heap.size, 0, none⟩ 1 1 [.int .i64 (k : Int)] rfl rfl (Go.cell_one_new _ _ _) (by simp [Value.oneCell']) (by unfold maxLen; omega) (by omega) (by simp; omega) ?_)
        intro v' w4 hown' hgrow _
        have ho4 := ownI_snoc (xs := ordTo ds k) (x := (k : Int)) (by rw [Hlen.out]; exact hown')
        have hB4 : Below w.heap.size w w4 := (hB.alloc hB.size _).grown hgrow (by simp; have := hB.size; omega) (fun j e => by have := (hbk j e).1; omega)
        have b4 := (bk.alloc (.cells #[.int .i64 (k : Int)] 2)).kept hgrow (fun e => by have := (hbk _ e.symm).1; omega)
        clear hown' hgrow hB bk ho hrow c0
        rw [midS_start] at ho4
        obtain ⟨g, cap2, rfl, hg1, hg2⟩ := ho4.shape (by rw [midS_length]; omega)
        rw [midS_length]
        go_wp2
        rw [midS_length] at ho4
        go_loopw [6] (fun v wr => ∃ (j : Nat) (x : Int), j ≤ k ∧ v = .int .i64 j ∧ OwnI (w.heap.size + 1) wr (.slice (some ⟨g, 0, none⟩) (k + 1) cap2) (midS ds k j x) ∧ posOf ds (ordTo ds k) k k = posOf ds (ordTo ds k) k j ∧ Box3 wr w.heap.size 41 (.slice al ls.length capl) (.slice ap ps.length capp) (.slice ad ds.length capd) ∧ Below w.heap.size w wr) (fun v _ => (intOf v).toNat)
        case atStart => exact ⟨k, k, Nat.le_refl _, rfl, ho4, rfl, b4, hB4⟩
        case round =>
          obtain ⟨j, x, hj, rfl, ho, hp, bT, hB⟩ := hrel
          have Hp := Lib.hid hp
          have cT := bT.c2
          have hml := midS_length ds k j x
          have Hml := Lib.hid hml
          clear b4 hB4 ho4 hp hml
          have endOf : posOf ds (ordTo ds k) k j = j → (midS ds k j x).set j k = ordTo ds (k + 1) := fun h => by
            have h2 : posOf ds (ordTo ds k) k k = j := Hp.out.trans h
            have := midS_end (zs := ds) (k := k) (x := x)
            rwa [h2] at this
          have Hend := Lib.hid endOf
          clear endOf
          have hfj := ho.frozen j
          have hcj := ho.cellAt (j := j) (by rw [midS_length]; omega)
          have hsz : w.heap.size + 1 ≤ g := hg1
          have hB5 : ∀ v, Below w.heap.size w (wr.drew.setCell ⟨g, j, none⟩ v) := fun v => hB.drew.setCell (p := ⟨g, j, none⟩) (by show w.heap.size ≤ g; omega) _
          have b5 : ∀ v, Box3 (wr.drew.setCell ⟨g, j, none⟩ v) w.heap.size 41 (.slice al ls.length capl) (.slice ap ps.length capp) (.slice ad ds.length capd) := fun v => box3_setFar (W := wr.drew) (y := v) (j := j) (b := g) bT (by omega)
          have ho5 : ∀ z : Int, OwnI (w.heap.size + 1) (wr.drew.setCell ⟨g, j, none⟩ (.int .i64 z)) (.slice (some ⟨g, 0, none⟩) (k + 1) cap2) ((midS ds k j x).set j z) := fun z => (OwnI.stored (World.ownsRow.drew ho) j z).1
          have HB5 := Lib.hid hB5
          have B5 := Lib.hid b5
          have HO5 := Lib.hid ho5
          clear hB5 b5 ho5
          by_cases h0 : j = 0
          · subst h0
            have He := Lib.hid (Hend.out rfl)
            go_wp2
            go_region
            go_wp2
            go_roundw
            case rel => exact ⟨k + 1, by omega, by simp, by rw [← He.out]; exact HO5.out _, B5.out _, HB5.out _⟩
            case measure => simp [intOf]; omega
          · obtain ⟨m, rfl⟩ : ∃ m, j = m + 1 := ⟨j - 1, by omega⟩
            have hcm := ho.cellAt (j := m) (by rw [midS_length]; omega)
            rw [midS_before (by omega)] at hcm
            have hbd := ordTo_bd ds k (m := m) (by omega)
            obtain ⟨q, hq⟩ : ∃ q : Nat, nth (ordTo ds k) m = q := ⟨(nth (ordTo ds k) m).toNat, by omega⟩
            rw [hq] at hcm hbd
            have hql : q < k := by omega
            obtain ⟨b, off, rfl, hb, hc⟩ := (hI.d.below hB).at_ hltd
            have hcq := hc q (by omega)
            have hck := hc k hltd
            have hgap : gapAt ds (ordTo ds k) m = nth ds q := by unfold gapAt; rw [hq]; rfl
            have Hq := Lib.hid hq
            have Hst := Lib.hid (midS_step (zs := ds) (k := k) (j := m) (x := x) (by omega))
            have Hgap := Lib.hid hgap
            have hiq : (q : Int) < (ds.length : Int) := by omega
            have hik : (k : Int) < (ds.length : Int) := by omega
            clear hc hgap hbd hq
            by_cases hgt : nth ds k < nth ds q
            · have Hp2 := Lib.hid (posOf_yes (zs := ds) (o := ordTo ds k) (x := k) (j := m) (by rw [Hgap.out]; exact hgt))
              go_wp2
              go_region
              go_wp2
              go_roundw
              case rel => exact ⟨m, nth (ordTo ds k) m, by omega, by simp, by rw [← Hst.out, Hq.out]; exact HO5.out _, by rw [Hp.out, Hp2.out], B5.out _, HB5.out _⟩
              case measure => simp [intOf]
            · have Hp2 := Lib.hid (posOf_no (zs := ds) (o := ordTo ds k) (x := k) (j := m) (by rw [Hgap.out]; exact hgt))
              have He := Lib.hid (Hend.out Hp2.out)
              go_wp2
              go_region
              go_wp2
              go_roundw
              case rel => exact ⟨k + 1, by omega, by simp, by rw [← He.out]; exact HO5.out _, B5.out _, HB5.out _⟩
              case measure => simp [intOf]; omega
      · obtain rfl : k = ls.length := by omega
        go_wp2
        go_ret2
        exact ⟨.slice a4 ls.length cap4, by rw [H.out.2]; rfl, by rw [H.out.1, Hld.out]; exact ho.base (by omega), hB⟩

end Go.Proofs.Ytmmpoaphjjpjaaa
