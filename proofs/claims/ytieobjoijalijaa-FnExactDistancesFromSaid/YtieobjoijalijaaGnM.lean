/-
  Distances on a ground: the map of the steps, placesNear, the closure of DistancesFrom.
  Conditions: at most 6 places.
-/
import Derived.Maps.OwnIn
import Derived.Maps.OwnSet
import Derived.Maps.Views
import Derived.Test.YtieobjoijalijaaGnB
import Derived.Test.YtieobjoijalijaaShift
namespace Go.Proofs.Ytieobjoijalijaa
open Go.RowKit Go.Shelf Go.Maps
attribute [local go_sem] Oper.semAt_some

theorem lawN : Keyed Try.prog 2 := int_keyed Try.underlying2
theorem wf_nat {x : Int} (h : -1 ≤ x ∧ x ≤ 1000) : (Lit.int .i64 x).wf = true := by simp [Lit.wf, IntKind.min, IntKind.max, IntKind.signed, IntKind.bits]; omega
theorem keyN {x : Int} (h : -1 ≤ x ∧ x ≤ 1000) : keyOf Try.prog 2 (.int .i64 x) = some (.int .i64 x) := keyOf_int_mk Try.underlying2 (wf_nat h)
/-- the map in the block m tells the distances ds of n places -/
def DMap (W : World) (m n : Nat) (ds : List Int) : Prop :=
  ∃ D : DataW Unit, W.ownsMap Try.prog 2 (plainElem Try.prog 2) m (bCnt ds) D ∧ (∀ j : Nat, j < n → (Maps.has D (.int .i64 (j : Int)) = true ↔ 0 ≤ nth ds j)) ∧ ∀ j : Nat, j < n → 0 ≤ nth ds j → ∀ z, D.atKey (.int .i64 (j : Int)) z = .lit (.int .i64 (nth ds j))
theorem DMap.new {W : World} {m n : Nat} (h : W.heap[m]? = some (.map #[] 0)) : DMap W m n (List.replicate n (-1 : Int)) := by
  have h0 := World.ownsMap_made (H := Unit) W Try.prog 2 (plainElem Try.prog 2)
  obtain ⟨es, clock, h1, h2⟩ := h0
  have h3 := World.alloc_heap_new W (.map #[] 0)
  rw [h3] at h1
  obtain ⟨rfl, rfl⟩ : #[] = es ∧ 0 = clock := by simpa using h1
  have hi : ∀ i, i < n → nth (List.replicate n (-1 : Int)) i = -1 := fun i h => by
    unfold nth
    rw [List.getElem?_replicate, if_pos h]; rfl
  refine ⟨.map [], ⟨_, _, h, by simpa [bCnt] using h2⟩, fun j hj => ?_, fun j hj h0 => ?_⟩
  · rw [hi j hj]; simp [Maps.has]
  · rw [hi j hj] at h0; omega
theorem DMap.kept {W W' : World} {row : Option Nat} {m n : Nat} {ds : List Int} (h : DMap W m n ds) (hg : W.grownBy W' row) (hne : some m ≠ row) : DMap W' m n ds := by
  obtain ⟨D, h, r⟩ := h; exact ⟨D, h.kept hg hne, r⟩
theorem DMap.later {W W' : World} {m n : Nat} {ds : List Int} (h : DMap W m n ds) (hb : Below W.heap.size W W') : DMap W' m n ds := by
  obtain ⟨D, h0, r⟩ := h
  have hlt := h0.lt
  obtain ⟨es, clock, h1, h2⟩ := h0
  exact ⟨D, ⟨es, clock, (hb.block m hlt).trans h1, h2⟩, r⟩
theorem DMap.lt {W : World} {m n : Nat} {ds : List Int} (h : DMap W m n ds) : m < W.heap.size := by obtain ⟨D, h, _⟩ := h; exact h.lt
theorem DMap.ne_cells {W : World} {m n b : Nat} {ds : List Int} {cs : Array Value} {t : TypeId} {f : Nat × Nat} (h : DMap W m n ds) (hb : W.heap[b]? = some (.cells cs t f)) : b ≠ m := by
  rintro rfl
  obtain ⟨D, ⟨es, clock, h1, h2⟩, r⟩ := h
  rw [hb] at h1; cases h1
theorem DMap.put {w : World} {m n : Nat} {ds : List Int} (h : DMap w m n ds) {j : Nat} {v : Int} (hj : j < n) (hn : n ≤ 6) (hl : ds.length = n) (h0 : nth ds j < 0) (hv : 0 ≤ v ∧ v ≤ 1000) :
    ∃ w', (Instr.mapUpdate 112 (.map (some m)) (.int .i64 (j : Int)) (.int .i64 v)).run Try.prog w = .ok () w' ∧ DMap w' m n (ds.set j v) ∧ w.grownBy w' (some m) := by
  obtain ⟨D, hown, h1, h2⟩ := h
  have hkey := keyN (x := (j : Int)) (by omega)
  have hkl := lawN.key hkey
  have hc : bCnt ds ≤ n := by rw [← hl]; exact List.length_filter_le _ _
  obtain ⟨w', hrun, r1, r2⟩ := hown.update lawN Try.underlying112 (by unfold maxLen; omega) hkey (plainElem_int Try.underlying2 (wf_nat (x := v) (by omega)))
  refine ⟨w', hrun, ⟨_, by rw [bCnt_set ds j v (by omega) h0 hv.1]; exact r1, fun i hi => ?_, fun i hi hz z => ?_⟩, r2⟩
  · by_cases e : j = i
    · subst e
      rw [Maps.has_put_same hown.isMap hkl, nth_set_same _ (by omega)]
      simp [hv.1]
    · rw [Maps.has_put_other (by simp; omega), nth_set_other _ e, h1 i hi]
  · by_cases e : j = i
    · subst e
      rw [Maps.atKey_put_same hown.isMap hkl, nth_set_same _ (by omega)]
    · rw [nth_set_other _ e] at hz ⊢
      rw [Maps.atKey_put_other (by simp; omega)]
      exact h2 i hi hz z
theorem zeroN (w : World) : (zeroValue 2).run Try.prog w = .ok (.int .i64 0) w := by kernel_rfl
/-- 'd, reached := steps[j]' -/
theorem DMap.look {w : World} {m n : Nat} {ds : List Int} (h : DMap w m n ds) {j : Nat} (hj : j < n) (hn : n ≤ 6) :
    (Instr.lookup 112 (.map (some m)) (.int .i64 (j : Int)) true).run Try.prog w = .ok (.tuple #[.int .i64 (if 0 ≤ nth ds j then nth ds j else 0), .bool (decide (0 ≤ nth ds j))]) w := by
  obtain ⟨D, hown, h1, h2⟩ := h
  have hkey := keyN (x := (j : Int)) (by omega)
  obtain ⟨v, ps, hrun, hv⟩ := hown.look_ok lawN Try.underlying112 (zeroN w) (plainElem_int Try.underlying2 (wf_nat (x := 0) (by omega))) hkey
  rw [hrun]
  cases hh : Maps.has D (.int .i64 (j : Int))
  · have hno : ¬ 0 ≤ nth ds j := fun e => by rw [(h1 j hj).2 e] at hh; cases hh
    rw [Maps.atKey_of_not_has hh] at hv
    obtain ⟨a, rfl, ha, _⟩ := plainElem_int_inv Try.underlying2 hv
    simp at ha
    rw [if_neg hno, decide_eq_false hno, ha.1]
  · have hyes := (h1 j hj).1 hh
    rw [h2 j hj hyes] at hv
    obtain ⟨a, rfl, ha2, _⟩ := plainElem_int_inv Try.underlying2 hv
    simp at ha2
    rw [if_pos hyes, decide_eq_true hyes, ha2.1]
/-- 'steps[j]' of a place that has a distance -/
theorem DMap.look1 {w : World} {m n : Nat} {ds : List Int} (h : DMap w m n ds) {j : Nat} (hj : j < n) (hn : n ≤ 6) (h0 : 0 ≤ nth ds j) :
    (Instr.lookup 112 (.map (some m)) (.int .i64 (j : Int)) false).run Try.prog w = .ok (.int .i64 (nth ds j)) w := by
  obtain ⟨D, hown, h1, h2⟩ := h
  obtain ⟨c, hrun, hat, _⟩ := hown.lookup_int lawN Try.underlying112 Try.underlying2 (zeroN w) (keyN (x := (j : Int)) (by omega))
  rw [h2 j hj h0] at hat
  simp at hat
  rw [hrun, hat]

/-! ### the places that are near -/
def nearI (m f n : Nat) : List Int := (nearL m f n).map fun (j : Nat) => (j : Int)
theorem nearI_yes {m f n : Nat} (h : nearB m f n = true) : nearI m f (n + 1) = nearI m f n ++ [(n : Int)] := by simp [nearI, nearL, List.range_succ, h]
theorem nearI_no {m f n : Nat} (h : nearB m f n = false) : nearI m f (n + 1) = nearI m f n := by simp [nearI, nearL, List.range_succ, h]
theorem nearI_len (m f n : Nat) : (nearI m f n).length ≤ n := by
  have := List.length_filter_le (fun j => nearB m f j) (List.range n)
  simpa [nearI, nearL] using this

set_option maxRecDepth 100000 in
set_option maxHeartbeats 4000000 in
theorem placesNear_c (p m f : Nat) (w : World) (hp : p ≤ 6) (hm : m < 32768) (hf : f < 6) :
    Calls Try.prog 109 #[.agg #[.int .i64 (p : Int), .int .i64 (m : Int)], .int .i64 (f : Int)] w (GivesI w (nearI m f p) id) := by
  obtain ⟨i0, hi, hz0, hz1, hz2⟩ := info_parts Try.infoI
  have b0 := Box2.new w 56 (.int .i64 (p : Int)) (.int .i64 (m : Int))
  have hB0 : Below w.heap.size w (w.alloc (.cells #[.int .i64 (p : Int), .int .i64 (m : Int)] 56)) := (Below.refl _ w).alloc (Nat.le_refl _) _
  have hs0 : w.heap.size + 1 ≤ (w.alloc (.cells #[.int .i64 (p : Int), .int .i64 (m : Int)] 56)).heap.size := by simp
  obtain ⟨W0, hW0⟩ : ∃ W0, (w.alloc (.cells #[.int .i64 (p : Int), .int .i64 (m : Int)] 56)) = W0 := ⟨_, rfl⟩
  rw [hW0] at b0 hB0 hs0
  have c0 := b0.c0
  go_enter Try.func109, Try.ntmps109
  go_wp2
  clear c0 hW0
  go_loopw [5, 9] (fun v q wr => ∃ k : Nat, k ≤ p ∧ q = .int .i64 k ∧ OwnI (w.heap.size + 1) wr v (nearI m f k) ∧ Box2 wr w.heap.size 56 (.int .i64 (p : Int)) (.int .i64 (m : Int)) ∧ Below w.heap.size w wr) (fun _ q _ => p - (intOf q).toNat)
  case atStart => exact ⟨0, Nat.zero_le _, rfl, ownI_nil _ _, b0, hB0⟩
  case round =>
    obtain ⟨k, hk, rfl, ho, bG, hB⟩ := hrel
    have hsw := hB.size
    have hsw2 : w.heap.size + 1 ≤ wr.heap.size := bG.lt
    by_cases hlt : k < p
    · have hki : (k : Int) < (p : Int) := by omega
      have c0 := bG.c0
      have c1 := bG.c1
      have hlen := nearI_len m f k
      have Hlen := Lib.hid hlen
      cases hn : nearB m f k
      · have Hn := Lib.hid hn
        have Hy := Lib.hid (nearI_no hn)
        clear hn hlen
        go_wp2_with fail
        refine (areNear_c p m f k _ hm hf (by omega)).mono ?_
        rintro e w1 ⟨rfl, hb⟩
        rw [Hn.out]
        have bG1 := bG.later hb
        have hB1 := hB.trans (hb.mono hB.size)
        have ho1 := ho.below hb
        clear hb bG hB ho c0 c1
        go_wp2
        go_roundw
        case rel => exact ⟨k + 1, by omega, by simp, by rw [Hy.out]; exact ho1, bG1, hB1⟩
        case measure => simp [intOf]; omega
      · have Hn := Lib.hid hn
        have Hy := Lib.hid (nearI_yes hn)
        obtain ⟨xs, hxs⟩ : ∃ xs, nearI m f k = xs := ⟨_, rfl⟩
        rw [hxs] at ho hlen Hy
        clear hn hxs
        go_wp2_with fail
        refine (areNear_c p m f k _ hm hf (by omega)).mono ?_
        rintro e wq ⟨rfl, hb⟩
        rw [Hn.out]
        have bG1 := bG.later hb
        have hB1 := hB.trans (hb.mono hB.size)
        have ho1 := ho.below hb
        have hsw3 : w.heap.size + 1 ≤ wq.heap.size := bG1.lt
        have hsw1 := hB1.size
        clear hb bG hB ho c0 c1
        go_wp2_with (at_builtin; refine wpList_append_own _ rfl _ _ 22 rfl (w.heap.size+1) 2 i0 (.int .i64 0) 1 8 Try.underlying22 hi hz0 hz1 hz2 rfl (by decide) _ _ _ rfl (World.ownsRow.alloc ho1 _) ⟨wq.heap.size, 0, none⟩ 1 1 [.int .i64 ((k : Int))] rfl rfl (Go.cell_one_new _ _ _) (by simp [Value.oneCell']) (by unfold maxLen; omega) (by omega) (by simp; omega) ?_)
        intro v' w1 hown' hgrow _
        have ho2 := ownI_snoc hown'
        have hB2 : Below w.heap.size w w1 := (hB1.alloc hsw1 _).grown hgrow (by simp; omega) (fun j e => by have := (ho1.blk j e).1; omega)
        have hgr : wq.grownBy w1 _ := (World.grownBy_alloc _ _ _).trans hgrow
        clear hown' hgrow
        have hne : some w.heap.size ≠ _ := fun e => (by have := (ho1.blk _ e.symm).1; omega)
        have bG2 := bG1.kept hgr hne
        clear hgr bG1
        go_wp2
        go_roundw
        case rel => exact ⟨k + 1, by omega, by simp, by rw [Hy.out]; exact ho2, bG2, hB2⟩
        case measure => simp [intOf]; omega
    · obtain rfl : k = p := by omega
      have c0 := bG.c0
      go_wp2
      go_ret
      exact ⟨_, rfl, ho.base (by omega), hB⟩

end Go.Proofs.Ytieobjoijalijaa
