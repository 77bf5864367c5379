/-
  SortTasks of the model: l01Sorted.
  Conditions: lists of at most 1048576 elements.
-/
import Derived.Test.YtahleajedgehlaaOrd
import Derived.Test.YtahleajedgehlaaRen
namespace Go.Proofs.Ytahleajedgehlaa
open Go.RowKit Go.Shelf
attribute [local go_sem] Oper.semAt_some

/-- two lists, each in memory of its own: the second one below mid -/
def GivesII (w : World) (xs ys : List Int) (mk : Value → Value → Value) (e : Ending) (w' : World) : Prop :=
  ∃ u v mid, e = .returned (mk u v) ∧ Seg mid w'.heap.size w' u xs ∧ Seg w.heap.size mid w' v ys ∧ w.heap.size ≤ mid ∧ Below w.heap.size w w'
theorem seg_nil (lo hi : Nat) (W : World) (h : hi ≤ W.heap.size) : Seg lo hi W (.slice none 0 0) [] := ⟨ownI_nil _ _, fun k e => by simp [Value.ownBlock] at e, h⟩
def sortO (zs : List Int) : List Int := if tasksOk zs then ordTo zs zs.length else []
def sortG (zs : List Int) : List Int := if tasksOk zs then gapsBy zs (ordTo zs zs.length) zs.length else []
def sortC (zs : List Int) : Int := if tasksOk zs then 0 else 1

theorem ownI_ne_box {B b : Nat} {W : World} {v u : Value} {zs : List Int} (h : OwnI B W v zs) (hb : Boxed W b 24 u) : v.ownBlock ≠ some b := by
  intro e
  obtain ⟨_, h2⟩ := h
  rcases h2 with ⟨rfl, _⟩ | ⟨g, cap, cur, rfl, _, hh, _⟩
  · simp [Value.ownBlock] at e
  · obtain rfl : g = b := by simpa [Value.ownBlock] using e
    have := hh.symm.trans hb
    simp at this

set_option maxRecDepth 100000 in
set_option maxHeartbeats 8000000 in
theorem l01Sorted_c (sv : Value) (zs : List Int) (w : World) (hI : Ints w.heap.size w sv zs) (hn : zs.length ≤ 8) :
    Calls Try.prog 39 #[.agg #[sv]] w (GivesII w (gapsBy zs (ordTo zs zs.length) zs.length) (ordTo zs zs.length) fun u v => .tuple #[.agg #[u], v]) := by
  obtain ⟨i0, hi, hz0, hz1, hz2⟩ := info_parts Try.infoI2
  obtain ⟨a, cap, rfl⟩ := hI.shape
  go_enter Try.func39, Try.ntmps39
  go_wp2
  have ho0 := (ownI_empty ((w.alloc (.cells #[.slice a zs.length cap] 24)).alloc (.cells #[.slice none 0 0] 24)))
  have hBz : Below w.heap.size w (((w.alloc (.cells #[.slice a zs.length cap] 24)).alloc (.cells #[.slice none 0 0] 24)).alloc (.cells #[] 2)) := (((Below.refl _ w).alloc (Nat.le_refl _) _).alloc (by simp) _).alloc (by simp; omega) _
  have bT := ((Boxed.new w 24 (.slice a zs.length cap)).alloc (.cells #[.slice none 0 0] 24)).alloc (.cells #[] 2)
  have bQ := (Boxed.new (w.alloc (.cells #[.slice a zs.length cap] 24)) 24 (.slice none 0 0)).alloc (.cells #[] 2)
  simp only [World.size_alloc] at ho0 bQ
  go_loopw [4, 5] (fun v i wr => ∃ k : Nat, k ≤ zs.length ∧ i = .int .i64 k ∧ OwnI (w.heap.size + 2) wr v (ordTo zs k) ∧ Boxed wr w.heap.size 24 (.slice a zs.length cap) ∧ Boxed wr (w.heap.size + 1) 24 (.slice none 0 0) ∧ Below w.heap.size w wr) (fun _ i _ => zs.length - (intOf i).toNat)
  case atStart => exact ⟨0, Nat.zero_le _, rfl, ho0, bT, bQ, hBz⟩
  case round =>
    obtain ⟨k, hk, rfl, ho, bTk, bQk, hB⟩ := hrel
    have cT := bTk.cell
    clear ho0 bT bQ hBz
    go_wp2_with fail
    refine (l01K_c _ _ _ _).mono ?_
    rintro e w3 ⟨rfl, rfl⟩
    have hB3 := hB.alloc hB.size (.cells #[.slice a zs.length cap] 24)
    have b3 := bTk.alloc (.cells #[.slice a zs.length cap] 24)
    have q3 := bQk.alloc (.cells #[.slice a zs.length cap] 24)
    have ho3 : OwnI (w.heap.size + 2) (wr.alloc (.cells #[.slice a zs.length cap] 24)) u4 (ordTo zs k) := World.ownsRow.alloc ho _
    obtain ⟨w3, hw3⟩ : ∃ w3, wr.alloc (.cells #[.slice a zs.length cap] 24) = w3 := ⟨_, rfl⟩
    rw [hw3] at hB3 b3 q3 ho3 ⊢
    clear hw3 bTk bQk cT hB ho
    have hsw := q3.lt
    obtain ⟨a4, cap4, e4⟩ := ho3.ints.shape
    have hbk := ho3.blk
    have Hlen := Lib.hid (ordTo_length zs k)
    rw [ordTo_length] at e4
    subst e4
    have hrow : w3.ownsRow (w.heap.size + 2) 2 1 (.slice a4 k cap4) k ((ordTo zs k).map (.int .i64)) := by have h := ho3; unfold OwnI at h; rwa [Hlen.out] at h
    by_cases hlt : k < zs.length
    · go_wp2_with (at_builtin; refine wpList_append_own _ rfl _ _ 22 rfl (w.heap.size + 2) 2 i0 (.int .i64 0) 1 8 Try.underlying22 hi hz0 hz1 hz2 rfl (by decide) _ _ _ rfl (World.ownsRow.alloc hrow _) ⟨w3.heap.size, 0, none⟩ 1 1 [.int .i64 (k : Int)] rfl rfl (Go.cell_one_new _ _ _) (by simp [Value.oneCell']) (by unfold maxLen; omega) (by omega) (by simp; omega) ?_)
      intro v' w4 hown' hgrow _
      have ho4 := ownI_snoc (xs := ordTo zs k) (x := (k : Int)) (by rw [Hlen.out]; exact hown')
      have hB4 : Below w.heap.size w w4 := (hB3.alloc hB3.size _).grown hgrow (by simp; omega) (fun j e => by have := (hbk j e).1; omega)
      have b4 := (b3.alloc (.cells #[.int .i64 (k : Int)] 2)).kept hgrow (fun e => by have := (hbk _ e.symm).1; omega)
      have q4 := (q3.alloc (.cells #[.int .i64 (k : Int)] 2)).kept hgrow (fun e => by have := (hbk _ e.symm).1; omega)
      clear hown' hgrow hB3 b3 q3 ho3
      rw [midS_start] at ho4
      obtain ⟨g, cap2, rfl, hg1, hg2⟩ := ho4.shape (by rw [midS_length]; omega)
      rw [midS_length]
      go_wp2
      rw [midS_length] at ho4
      go_loopw [6] (fun v wr => ∃ (j : Nat) (x : Int), j ≤ k ∧ v = .int .i64 j ∧ OwnI (w.heap.size + 2) wr (.slice (some ⟨g, 0, none⟩) (k + 1) cap2) (midS zs k j x) ∧ posOf zs (ordTo zs k) k k = posOf zs (ordTo zs k) k j ∧ Boxed wr w.heap.size 24 (.slice a zs.length cap) ∧ Boxed wr (w.heap.size + 1) 24 (.slice none 0 0) ∧ Below w.heap.size w wr) (fun v _ => (intOf v).toNat)
      case atStart => exact ⟨k, k, Nat.le_refl _, rfl, ho4, rfl, b4, q4, hB4⟩
      case round =>
        obtain ⟨j, x, hj, rfl, ho, hp, bT, bQ, hB⟩ := hrel
        have Hp := Lib.hid hp
        have cT := bT.cell
        have hml := midS_length zs k j x
        have Hml := Lib.hid hml
        clear hrow b4 q4 hB4 ho4 hp hml
        have endOf : posOf zs (ordTo zs k) k j = j → (midS zs k j x).set j k = ordTo zs (k + 1) := fun h => by
          have h2 : posOf zs (ordTo zs k) k k = j := Hp.out.trans h
          have := midS_end (zs := zs) (k := k) (x := x)
          rwa [h2] at this
        have Hend := Lib.hid endOf
        clear endOf
        have hfj := ho.frozen j
        have hcj := ho.cellAt (j := j) (by rw [midS_length]; omega)
        have hsz : w.heap.size + 2 ≤ g := hg1
        have hB5 : ∀ v, Below w.heap.size w (wr.drew.setCell ⟨g, j, none⟩ v) := fun v => hB.drew.setCell (p := ⟨g, j, none⟩) (by show w.heap.size ≤ g; omega) _
        have b5 : ∀ v, Boxed (wr.drew.setCell ⟨g, j, none⟩ v) w.heap.size 24 (.slice a zs.length cap) := fun v => boxed_setFar (j := j) (b := g) (W := wr.drew) (u := v) bT (by omega)
        have q5 : ∀ v, Boxed (wr.drew.setCell ⟨g, j, none⟩ v) (w.heap.size + 1) 24 (.slice none 0 0) := fun v => boxed_setFar (j := j) (b := g) (W := wr.drew) (u := v) bQ (by omega)
        have ho5 : ∀ z : Int, OwnI (w.heap.size + 2) (wr.drew.setCell ⟨g, j, none⟩ (.int .i64 z)) (.slice (some ⟨g, 0, none⟩) (k + 1) cap2) ((midS zs k j x).set j z) := fun z => (OwnI.stored (World.ownsRow.drew ho) j z).1
        by_cases h0 : j = 0
        · subst h0
          have He := Lib.hid (Hend.out rfl)
          go_wp2
          go_region
          go_wp2
          go_roundw
          case rel => exact ⟨k + 1, by omega, by simp, by rw [← He.out]; exact ho5 _, b5 _, q5 _, hB5 _⟩
          case measure => simp [intOf]; omega
        · obtain ⟨m, rfl⟩ : ∃ m, j = m + 1 := ⟨j - 1, by omega⟩
          have hcm := ho.cellAt (j := m) (by rw [midS_length]; omega)
          rw [midS_before (by omega)] at hcm
          have hbd := ordTo_bd zs k (m := m) (by omega)
          obtain ⟨q, hq⟩ : ∃ q : Nat, nth (ordTo zs k) m = q := ⟨(nth (ordTo zs k) m).toNat, by omega⟩
          rw [hq] at hcm hbd
          have hql : q < k := by omega
          obtain ⟨b, off, rfl, hb, hc⟩ := (hI.below hB).at_ hlt
          have hcq := hc q (by omega)
          have hck := hc k hlt
          have hgap : gapAt zs (ordTo zs k) m = nth zs q := by unfold gapAt; rw [hq]; rfl
          have Hq := Lib.hid hq
          have Hst := Lib.hid (midS_step (zs := zs) (k := k) (j := m) (x := x) (by omega))
          have Hgap := Lib.hid hgap
          clear hc hgap hbd hq
          by_cases hgt : nth zs k < nth zs q
          · have Hp2 := Lib.hid (posOf_yes (zs := zs) (o := ordTo zs k) (x := k) (j := m) (by rw [Hgap.out]; exact hgt))
            go_wp2
            go_region
            go_wp2
            go_roundw
            case rel => exact ⟨m, nth (ordTo zs k) m, by omega, by simp, by rw [← Hst.out, Hq.out]; exact ho5 _, by rw [Hp.out, Hp2.out], b5 _, q5 _, hB5 _⟩
            case measure => simp [intOf]
          · have Hp2 := Lib.hid (posOf_no (zs := zs) (o := ordTo zs k) (x := k) (j := m) (by rw [Hgap.out]; exact hgt))
            have He := Lib.hid (Hend.out Hp2.out)
            go_wp2
            go_region
            go_wp2
            go_roundw
            case rel => exact ⟨k + 1, by omega, by simp, by rw [← He.out]; exact ho5 _, b5 _, q5 _, hB5 _⟩
            case measure => simp [intOf]; omega
    · obtain rfl : k = zs.length := by omega
      clear hk hlt
      go_wp2
      have ho0 := (ownI_empty w3).alloc (.cells #[.slice (some ⟨w3.heap.size, 0, none⟩) 0 0] 24)
      have bO := Boxed.new (w3.alloc (.cells #[] 2)) 24 (.slice (some ⟨w3.heap.size, 0, none⟩) 0 0)
      simp only [World.size_alloc] at bO
      have bT := (b3.alloc (.cells #[] 2)).alloc (.cells #[.slice (some ⟨w3.heap.size, 0, none⟩) 0 0] 24)
      have bQ := (q3.alloc (.cells #[] 2)).alloc (.cells #[.slice (some ⟨w3.heap.size, 0, none⟩) 0 0] 24)
      have ho5 := (ho3.alloc (.cells #[] 2)).alloc (.cells #[.slice (some ⟨w3.heap.size, 0, none⟩) 0 0] 24)
      have hB5 := (hB3.alloc hB3.size (.cells #[] 2)).alloc (by simp; omega) (.cells #[.slice (some ⟨w3.heap.size, 0, none⟩) 0 0] 24)
      clear hrow ho3 q3 b3 hB3
      go_loopw [8] (fun i wr => ∃ (k : Nat) (v : Value), k ≤ zs.length ∧ i = .int .i64 k ∧ Boxed wr (w3.heap.size + 1) 24 v ∧ OwnI w3.heap.size wr v (gapsBy zs (ordTo zs zs.length) k) ∧ OwnI (w.heap.size + 2) wr (.slice a4 zs.length cap4) (ordTo zs zs.length) ∧ Boxed wr w.heap.size 24 (.slice a zs.length cap) ∧ Boxed wr (w.heap.size + 1) 24 (.slice none 0 0) ∧ Below w.heap.size w wr) (fun i _ => zs.length - (intOf i).toNat)
      case atStart => exact ⟨0, _, Nat.zero_le _, rfl, bO, ho0, ho5, bT, bQ, hB5⟩
      case round =>
        obtain ⟨k, v, hk, rfl, bOk, hok, hor, bTk, bQk, hB⟩ := hrel
        clear bO ho0 ho5 bT bQ hB5
        have cO := bOk.cell
        have cT := bTk.cell
        have fO := bOk.frozen
        by_cases hlt : k < zs.length
        · obtain ⟨av, cv, ev⟩ := hok.ints.shape
          rw [gapsBy_length] at ev
          subst ev
          have hbd := ordTo_bd zs zs.length (m := k) hlt
          obtain ⟨q, hq⟩ : ∃ q : Nat, nth (ordTo zs zs.length) k = q := ⟨(nth (ordTo zs zs.length) k).toNat, by omega⟩
          have hql : q < zs.length := by omega
          obtain ⟨b, off, rfl, hb, hc⟩ := hI.at_ hlt
          have hcq := hc q hql
          obtain ⟨g2, c2, e2, hg2, hg3⟩ := hor.shape (by rw [Hlen.out]; omega)
          obtain ⟨rfl, -, rfl⟩ : a4 = some ⟨g2, 0, none⟩ ∧ zs.length = (ordTo zs zs.length).length ∧ cap4 = c2 := by simpa using e2
          have hg4 := (hbk g2 rfl).2
          have Hq := Lib.hid (show some (Value.int .i64 (nth (ordTo zs zs.length) k)) = some (Value.int .i64 q) by rw [hq])
          have hg : gapsBy zs (ordTo zs zs.length) (k + 1) = gapsBy zs (ordTo zs zs.length) k ++ [nth zs q] := by rw [gapsBy_succ]; unfold gapAt; rw [hq]; rfl
          have Hg := Lib.hid hg
          have hrow : wr.ownsRow w3.heap.size 2 1 (.slice av k cv) k ((gapsBy zs (ordTo zs zs.length) k).map (.int .i64)) := by have h := hok; unfold OwnI at h; rwa [gapsBy_length] at h
          have hfw : Try.prog.follows Departure.mixedOrders = true := by kernel_rfl
          have hlk : k < (ordTo zs zs.length).length := by rw [Hlen.out]; exact hlt
          have hsz := hB.size
          have hlo := bOk.lt
          clear hc hbd hq hg e2 cT
          go_wp2
          refine wp_region_held_drew (S := fun w' => Boxed w' w.heap.size 24 (.slice (some ⟨b, off, none⟩) zs.length cap) ∧ OwnI (w.heap.size + 2) w' (.slice (some ⟨g2, 0, none⟩) zs.length cap4) (ordTo zs zs.length) ∧ Boxed w' (w.heap.size + 1) 24 (.slice none 0 0) ∧ Below w.heap.size w w') hfw ⟨bTk, World.ownsRow.drew hor, bQk, hB.drew⟩ ?_
          intro hS0
          refine wpAnyH_take (i := 0) (v := ?v0) rfl (by kernel_rfl) (by kernel_rfl) (by kernel_rfl) (fun _ _ _ h => h) (.inl ⟨by rfl, ?y0⟩) hS0 ?_
          case y0 =>
            intro w' hS
            (have k1 := hS.1.cell; have k2 := (hS.2.1.cellAt hlk).trans Hq.out; have k3 := (hS.2.2.2.cell (p := ⟨b, off + q, none⟩) hb).trans hcq; clear hS)
            go_simp
            try with_reducible rfl
          refine wpAnyH_take (i := 2) (v := ?v2) rfl (by kernel_rfl) (by kernel_rfl) (by kernel_rfl) (fun _ _ _ h => h) (.inl ⟨by rfl, ?y2⟩) hS0 ?_
          case y2 =>
            intro w' hS
            (have k1 := hS.1.cell; have k2 := (hS.2.1.cellAt hlk).trans Hq.out; have k3 := (hS.2.2.2.cell (p := ⟨b, off + q, none⟩) hb).trans hcq; clear hS)
            go_simp
            try with_reducible rfl
          refine wpAnyH_take (i := 3) (v := ?v3) rfl (by kernel_rfl) (by kernel_rfl) (by kernel_rfl) (fun _ _ _ h => h) (.inl ⟨by rfl, ?y3⟩) hS0 ?_
          case y3 =>
            intro w' hS
            (have k1 := hS.1.cell; have k2 := (hS.2.1.cellAt hlk).trans Hq.out; have k3 := (hS.2.2.2.cell (p := ⟨b, off + q, none⟩) hb).trans hcq; clear hS)
            go_simp
            try with_reducible rfl
          refine wpAnyH_take (i := 4) (v := ?v4) rfl (by kernel_rfl) (by kernel_rfl) (by kernel_rfl) (fun _ _ _ h => h) (.inl ⟨by rfl, ?y4⟩) hS0 ?_
          case y4 =>
            intro w' hS
            (have k1 := hS.1.cell; have k2 := (hS.2.1.cellAt hlk).trans Hq.out; have k3 := (hS.2.2.2.cell (p := ⟨b, off + q, none⟩) hb).trans hcq; clear hS)
            go_simp
            try with_reducible rfl
          refine wpAnyH_take (i := 5) (v := ?v5) rfl (by kernel_rfl) (by kernel_rfl) (by kernel_rfl) (fun _ _ _ h => h) (.inl ⟨by rfl, ?y5⟩) hS0 ?_
          case y5 =>
            intro w' hS
            (have k1 := hS.1.cell; have k2 := (hS.2.1.cellAt hlk).trans Hq.out; have k3 := (hS.2.2.2.cell (p := ⟨b, off + q, none⟩) hb).trans hcq; clear hS)
            go_simp
            try with_reducible rfl
          refine wpAnyH_take (i := 6) (v := ?v6) rfl (by kernel_rfl) (by kernel_rfl) (by kernel_rfl) (fun _ _ _ h => h) (.inl ⟨by rfl, ?y6⟩) hS0 ?_
          case y6 =>
            intro w' hS
            (have k1 := hS.1.cell; have k2 := (hS.2.1.cellAt hlk).trans Hq.out; have k3 := (hS.2.2.2.cell (p := ⟨b, off + q, none⟩) hb).trans hcq; clear hS)
            go_simp
            try with_reducible rfl
          refine wpAnyH_take (i := 7) (v := ?v7) rfl (by kernel_rfl) (by kernel_rfl) (by kernel_rfl) (fun _ _ _ h => h) (.inl ⟨by rfl, ?y7⟩) hS0 ?_
          case y7 =>
            intro w' hS
            (have k1 := hS.1.cell; have k2 := (hS.2.1.cellAt hlk).trans Hq.out; have k3 := (hS.2.2.2.cell (p := ⟨b, off + q, none⟩) hb).trans hcq; clear hS)
            go_simp
            try with_reducible rfl
          refine wpAnyH_take (i := 8) (v := ?v8) rfl (by kernel_rfl) (by kernel_rfl) (by kernel_rfl) (fun _ _ _ h => h) (.inl ⟨by rfl, ?y8⟩) hS0 ?_
          case y8 =>
            intro w' hS
            (have k1 := hS.1.cell; have k2 := (hS.2.1.cellAt hlk).trans Hq.out; have k3 := (hS.2.2.2.cell (p := ⟨b, off + q, none⟩) hb).trans hcq; clear hS)
            go_simp
            try with_reducible rfl
          refine wpAnyH_take (i := 9) (v := ?v9) rfl (by kernel_rfl) (by kernel_rfl) (by kernel_rfl) (fun _ _ _ h => h) (.inl ⟨by rfl, ?y9⟩) hS0 ?_
          case y9 =>
            intro w' hS
            (have k1 := hS.1.cell; have k2 := (hS.2.1.cellAt hlk).trans Hq.out; have k3 := (hS.2.2.2.cell (p := ⟨b, off + q, none⟩) hb).trans hcq; clear hS)
            go_simp
            try with_reducible rfl
          refine wpAnyH_ready (rs := [1, 10]) (by kernel_rfl) (by simp) ?_
          refine AllReadyH.cons rfl (fun K' hK' => ?_) (AllReadyH.cons rfl (fun K' hK' => ?_) AllReadyH.nil)
          · rw [if_pos (by rfl)]
            go_simp
            refine hK'.out _ _ hS0 fun hS1 => ?_
            refine wpAnyH_ready (rs := [10]) (by kernel_rfl) (by simp) ?_
            refine AllReadyH.cons rfl (fun K' hK' => ?_) AllReadyH.nil
            rw [if_pos (by rfl)]
            go_simp
            refine hK'.out _ _ ⟨hS1.1.alloc _, hS1.2.1.alloc _, hS1.2.2.1.alloc _, hS1.2.2.2.alloc hS1.2.2.2.size _⟩ fun hS2 => ?_
            refine wpAnyH_ready (rs := [11]) (by kernel_rfl) (by simp) ?_
            refine AllReadyH.cons rfl (fun K' hK' => ?_) AllReadyH.nil
            rw [if_pos (by rfl)]
            refine wp_append_own _ (.tmp 64) (.tmp 73) 22 rfl w3.heap.size 2 i0 (.int .i64 0) 1 8 Try.underlying22 hi hz0 hz1 hz2 rfl (by decide) _ _ _ rfl (World.ownsRow.alloc (World.ownsRow.drew hrow) _) ⟨wr.heap.size, 0, none⟩ 1 1 [.int .i64 (nth zs q)] rfl rfl (Go.cell_one_new _ _ _) (by simp [Value.oneCell']) (by unfold maxLen; omega) (by omega) (by simp; omega) ?_
            intro v' w5 hown' hgrow hfar
            have ho6 := ownI_snoc (xs := gapsBy zs (ordTo zs zs.length) k) (x := nth zs q) (by rw [gapsBy_length]; exact hown')
            rw [← Hg.out] at ho6
            obtain ⟨av', cv', ev'⟩ := ho6.ints.shape
            rw [gapsBy_length] at ev'
            subst ev'
            have hb5 : ∀ j, (Value.slice av k cv).ownBlock = some j → w3.heap.size ≤ j := fun j e => (hok.blk j e).1
            have hne := ownI_ne_box hok bOk
            have bO5 : Boxed w5 (w3.heap.size + 1) 24 (.slice av k cv) := (show Boxed (wr.alloc (.cells #[.int .i64 (nth zs q)] 2)).drew (w3.heap.size + 1) 24 (.slice av k cv) from bOk.alloc _).kept hgrow (fun e => hne e.symm)
            have s1 : Boxed w5 w.heap.size 24 (.slice (some ⟨b, off, none⟩) zs.length cap) := hS2.1.kept hgrow (fun e => by have := hb5 _ e.symm; omega)
            have s2 : OwnI (w.heap.size + 2) w5 (.slice (some ⟨g2, 0, none⟩) zs.length cap4) (ordTo zs zs.length) := hS2.2.1.kept hgrow (.inr (fun e => by have := hb5 g2 e.symm; omega))
            have s3 : Boxed w5 (w.heap.size + 1) 24 (.slice none 0 0) := hS2.2.2.1.kept hgrow (fun e => by have := hb5 _ e.symm; omega)
            have s4 : Below w.heap.size w w5 := hS2.2.2.2.grown hgrow hS2.2.2.2.size (fun j e => by have := hb5 j e; omega)
            have cO5 := bO5.cell
            have fO5 := bO5.frozen
            clear hown' hgrow hfar hS1 hS2 hS0 hok hrow
            refine hK'.out _ _ ⟨s1, s2, s3, s4⟩ fun hS3 => ?_
            refine wpAnyH_take (i := 12) (v := ?v12) rfl (by kernel_rfl) (by kernel_rfl) (by kernel_rfl) (fun _ _ _ h => h) (.inl ⟨by rfl, ?y12⟩) hS3 ?_
            case y12 =>
              intro w' hS
              (clear hS)
              go_simp
              try with_reducible rfl
            refine wpAnyH_ready (rs := [13]) (by kernel_rfl) (by simp) ?_
            refine AllReadyH.cons rfl (fun K' hK' => ?_) AllReadyH.nil
            rw [if_pos (by rfl)]
            go_simp
            have t2 : OwnI (w.heap.size + 2) (w5.setCell ⟨w3.heap.size + 1, 0, none⟩ (.slice av' (k + 1) cv')) (.slice (some ⟨g2, 0, none⟩) zs.length cap4) (ordTo zs zs.length) := s2.kept (grownBy_setCell2 _ _ _ _) (.inr (by show some g2 ≠ some (w3.heap.size + 1); simp; omega))
            have t6 : OwnI w3.heap.size (w5.setCell ⟨w3.heap.size + 1, 0, none⟩ (.slice av' (k + 1) cv')) (.slice av' (k + 1) cv') (gapsBy zs (ordTo zs zs.length) (k + 1)) := ho6.kept (grownBy_setCell2 _ _ _ _) (.inr (ownI_ne_box ho6 bO5))
            refine hK'.out _ _ ⟨boxed_setFar s1 (by omega), t2, boxed_setFar s3 (by omega), s4.setCell (p := ⟨w3.heap.size + 1, 0, none⟩) (by show w.heap.size ≤ w3.heap.size + 1; omega) _⟩ fun hS4 => wpAnyH_done (by kernel_rfl) ?_ _
            clear s1 s2 s3 s4 ho6 cO5 fO5 hS3
            go_wp2
            go_roundw
            case rel => exact ⟨k + 1, _, by omega, by simp, bO5.set _, t6, hS4.2.1, hS4.1, hS4.2.2.1, hS4.2.2.2⟩
            case measure => simp [intOf]; omega
          · rw [if_pos (by rfl)]
            go_simp
            refine hK'.out _ _ ⟨hS0.1.alloc _, hS0.2.1.alloc _, hS0.2.2.1.alloc _, hS0.2.2.2.alloc hS0.2.2.2.size _⟩ fun hS2 => ?_
            have hS1 := hS0
            have cOa : (wr.alloc (.cells #[.int .i64 (nth zs q)] 2)).drew.cell? ⟨w3.heap.size + 1, 0, none⟩ = some (.slice av k cv) := (bOk.alloc (.cells #[.int .i64 (nth zs q)] 2)).cell
            refine wpAnyH_ready (rs := [1]) (by kernel_rfl) (by simp) ?_
            refine AllReadyH.cons rfl (fun K' hK' => ?_) AllReadyH.nil
            rw [if_pos (by rfl)]
            go_simp
            refine hK'.out _ _ hS2 fun hS2b => ?_
            clear cOa hS2b
            refine wpAnyH_ready (rs := [11]) (by kernel_rfl) (by simp) ?_
            refine AllReadyH.cons rfl (fun K' hK' => ?_) AllReadyH.nil
            rw [if_pos (by rfl)]
            refine wp_append_own _ (.tmp 64) (.tmp 73) 22 rfl w3.heap.size 2 i0 (.int .i64 0) 1 8 Try.underlying22 hi hz0 hz1 hz2 rfl (by decide) _ _ _ rfl (World.ownsRow.alloc (World.ownsRow.drew hrow) _) ⟨wr.heap.size, 0, none⟩ 1 1 [.int .i64 (nth zs q)] rfl rfl (Go.cell_one_new _ _ _) (by simp [Value.oneCell']) (by unfold maxLen; omega) (by omega) (by simp; omega) ?_
            intro v' w5 hown' hgrow hfar
            have ho6 := ownI_snoc (xs := gapsBy zs (ordTo zs zs.length) k) (x := nth zs q) (by rw [gapsBy_length]; exact hown')
            rw [← Hg.out] at ho6
            obtain ⟨av', cv', ev'⟩ := ho6.ints.shape
            rw [gapsBy_length] at ev'
            subst ev'
            have hb5 : ∀ j, (Value.slice av k cv).ownBlock = some j → w3.heap.size ≤ j := fun j e => (hok.blk j e).1
            have hne := ownI_ne_box hok bOk
            have bO5 : Boxed w5 (w3.heap.size + 1) 24 (.slice av k cv) := (show Boxed (wr.alloc (.cells #[.int .i64 (nth zs q)] 2)).drew (w3.heap.size + 1) 24 (.slice av k cv) from bOk.alloc _).kept hgrow (fun e => hne e.symm)
            have s1 : Boxed w5 w.heap.size 24 (.slice (some ⟨b, off, none⟩) zs.length cap) := hS2.1.kept hgrow (fun e => by have := hb5 _ e.symm; omega)
            have s2 : OwnI (w.heap.size + 2) w5 (.slice (some ⟨g2, 0, none⟩) zs.length cap4) (ordTo zs zs.length) := hS2.2.1.kept hgrow (.inr (fun e => by have := hb5 g2 e.symm; omega))
            have s3 : Boxed w5 (w.heap.size + 1) 24 (.slice none 0 0) := hS2.2.2.1.kept hgrow (fun e => by have := hb5 _ e.symm; omega)
            have s4 : Below w.heap.size w w5 := hS2.2.2.2.grown hgrow hS2.2.2.2.size (fun j e => by have := hb5 j e; omega)
            have cO5 := bO5.cell
            have fO5 := bO5.frozen
            clear hown' hgrow hfar hS1 hS2 hS0 hok hrow
            refine hK'.out _ _ ⟨s1, s2, s3, s4⟩ fun hS3 => ?_
            refine wpAnyH_take (i := 12) (v := ?v12) rfl (by kernel_rfl) (by kernel_rfl) (by kernel_rfl) (fun _ _ _ h => h) (.inl ⟨by rfl, ?y12⟩) hS3 ?_
            case y12 =>
              intro w' hS
              (clear hS)
              go_simp
              try with_reducible rfl
            refine wpAnyH_ready (rs := [13]) (by kernel_rfl) (by simp) ?_
            refine AllReadyH.cons rfl (fun K' hK' => ?_) AllReadyH.nil
            rw [if_pos (by rfl)]
            go_simp
            have t2 : OwnI (w.heap.size + 2) (w5.setCell ⟨w3.heap.size + 1, 0, none⟩ (.slice av' (k + 1) cv')) (.slice (some ⟨g2, 0, none⟩) zs.length cap4) (ordTo zs zs.length) := s2.kept (grownBy_setCell2 _ _ _ _) (.inr (by show some g2 ≠ some (w3.heap.size + 1); simp; omega))
            have t6 : OwnI w3.heap.size (w5.setCell ⟨w3.heap.size + 1, 0, none⟩ (.slice av' (k + 1) cv')) (.slice av' (k + 1) cv') (gapsBy zs (ordTo zs zs.length) (k + 1)) := ho6.kept (grownBy_setCell2 _ _ _ _) (.inr (ownI_ne_box ho6 bO5))
            refine hK'.out _ _ ⟨boxed_setFar s1 (by omega), t2, boxed_setFar s3 (by omega), s4.setCell (p := ⟨w3.heap.size + 1, 0, none⟩) (by show w.heap.size ≤ w3.heap.size + 1; omega) _⟩ fun hS4 => wpAnyH_done (by kernel_rfl) ?_ _
            clear s1 s2 s3 s4 ho6 cO5 fO5 hS3
            go_wp2
            go_roundw
            case rel => exact ⟨k + 1, _, by omega, by simp, bO5.set _, t6, hS4.2.1, hS4.1, hS4.2.2.1, hS4.2.2.2⟩
            case measure => simp [intOf]; omega
        · obtain rfl : k = zs.length := by omega
          clear hk hlt
          have cQ := bQk.cell
          have fQ := bQk.frozen
          have hlo := bOk.lt
          obtain ⟨av, cv, ev⟩ := hok.ints.shape
          rw [gapsBy_length] at ev
          subst ev
          go_wp2
          have k1 := (bQk.set (.slice av zs.length cv)).cell
          have t2 : OwnI (w.heap.size + 2) (wr.setCell ⟨w.heap.size + 1, 0, none⟩ (.slice av zs.length cv)) (.slice a4 zs.length cap4) (ordTo zs zs.length) := hor.kept (grownBy_setCell2 _ _ _ _) (.inr (ownI_ne_box hor bQk))
          have t6 : OwnI w3.heap.size (wr.setCell ⟨w.heap.size + 1, 0, none⟩ (.slice av zs.length cv)) (.slice av zs.length cv) (gapsBy zs (ordTo zs zs.length) zs.length) := hok.kept (grownBy_setCell2 _ _ _ _) (.inr (ownI_ne_box hok bQk))
          exact bodyPost_ret (v := .tuple #[.agg #[.slice av zs.length cv], .slice a4 zs.length cap4]) (by simp [results, Try.f39, go_sem, k1]) rfl ⟨_, _, w3.heap.size, rfl, Seg.new t6, ⟨t2.base (by omega), fun k e => (hbk k e).2, by simp [World.setCell]; omega⟩, by omega, hB.setCell (p := ⟨w.heap.size + 1, 0, none⟩) (by show w.heap.size ≤ w.heap.size + 1; omega) _⟩

end Go.Proofs.Ytahleajedgehlaa
