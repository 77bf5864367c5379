/-
  Copies of lists: slices.Clone, the model's l01Own; slices.Reverse in place.
  Conditions: lists of 1 to 1048576 elements; what is turned round is owned.
-/
import Derived.Test.YtoflgfenlbibpaaGreat
import Derived.Lib.SliceRun
namespace Go.Proofs.Ytoflgfenlbibpaa
open Go.RowKit Go.Shelf

theorem cells_src {n₀ : Nat} {W : World} {b off len cap : Nat} {zs : List Int} (h : Ints n₀ W (.slice (some ⟨b, off, none⟩) len cap) zs) :
    ∀ j u, (zs.map (Value.int .i64))[j]? = some u → W.cell? ((⟨b, off, none⟩ : Addr).add j) = some u := by
  intro j u hj
  rw [List.getElem?_map] at hj
  by_cases hlt : j < zs.length
  · obtain ⟨b2, off2, hs, _, hc⟩ := h.at_ hlt
    cases hs
    have := hc j hlt
    rw [getElem?_nth hlt] at hj
    simp at hj
    subst hj
    simp only [Addr.add]
    split <;> simp_all
  · rw [List.getElem?_eq_none (by omega)] at hj; simp at hj
theorem cells_one (zs : List Int) : ∀ u ∈ zs.map (Value.int .i64), u.oneCell' = true := by
  intro u hu; obtain ⟨z, _, rfl⟩ := List.mem_map.1 hu; rfl
theorem ownI_app {B : Nat} {W : World} {v : Value} {xs ys : List Int} (h : W.ownsRow B 2 1 v (xs.length + ys.length) (xs.map (Value.int .i64) ++ ys.map (Value.int .i64))) : OwnI B W v (xs ++ ys) := by
  unfold OwnI; simpa using h

set_option maxRecDepth 100000 in
set_option maxHeartbeats 8000000 in
theorem clone_c (sv : Value) (zs : List Int) (w : World) (hI : Ints w.heap.size w sv zs) (h0 : 0 < zs.length) (hl : zs.length ≤ 1048576) :
    Calls Try.prog 108 #[sv] w (GivesI w zs id) := by
  obtain ⟨a, cap, rfl⟩ := hI.shape
  obtain ⟨i0, hi, hz0, hz1, hz2⟩ := info_parts Try.infoI2
  obtain ⟨b, off, rfl, hb, hc⟩ := hI.at_ h0
  have hB0 : Below w.heap.size w (w.alloc (.cells #[] 2)) := (Below.refl _ w).alloc (Nat.le_refl _) _
  clear hc
  have hnil : ∀ W, (binOp .eql 24 (.slice (some ⟨b, off, none⟩) zs.length cap) (.slice none 0 0)).run Try.prog W = .ok (.bool false) W := fun W => Lib.run_eql_slice_nil W _ _ _ _ _ _ _ Try.underlying24
  go_enter Try.func108, Try.ntmps108
  go_wp2_with (at_builtin; refine wpList_append_own _ rfl _ _ 24 rfl w.heap.size 2 i0 (.int .i64 0) 1 8 Try.underlying24 hi hz0 hz1 hz2 rfl (by decide) _ _ _ rfl (ownI_empty w) ⟨b, off, none⟩ zs.length cap (zs.map (.int .i64)) rfl (by simp) (cells_src (hI.below hB0)) (cells_one zs) (by unfold maxLen; simp; omega) (by simp; omega) (by simp) ?_)
  intro v' w1 hown' hgrow _
  have ho : OwnI w.heap.size w1 v' zs := by have := ownI_app (xs := []) (ys := zs) (by simpa using hown'); simpa using this
  have hB : Below w.heap.size w w1 := hB0.grown hgrow (by simp) (fun j e => by simp [Value.ownBlock] at e; omega)
  clear hown' hgrow
  go_wp2
  go_ret
  exact ⟨_, rfl, ho, hB⟩

set_option maxRecDepth 100000 in
set_option maxHeartbeats 8000000 in
theorem l01Own_c (sv : Value) (zs : List Int) (w : World) (hI : Ints w.heap.size w sv zs) (h0 : 0 < zs.length) (hl : zs.length ≤ 1048576) :
    Calls Try.prog 112 #[sv] w (GivesI w zs id) := by
  obtain ⟨a, cap, rfl⟩ := hI.shape
  obtain ⟨i0, hi, hz0, hz1, hz2⟩ := info_parts Try.infoI2
  obtain ⟨b, off, rfl, hb, hc⟩ := hI.at_ h0
  have hB0 : Below w.heap.size w (w.alloc (.cells #[] 2)) := (Below.refl _ w).alloc (Nat.le_refl _) _
  clear hc
  go_enter Try.func112, Try.ntmps112
  go_wp2_with (at_builtin; refine wpList_append_own _ rfl _ _ 24 rfl w.heap.size 2 i0 (.int .i64 0) 1 8 Try.underlying24 hi hz0 hz1 hz2 rfl (by decide) _ _ _ rfl (ownI_empty w) ⟨b, off, none⟩ zs.length cap (zs.map (.int .i64)) rfl (by simp) (cells_src (hI.below hB0)) (cells_one zs) (by unfold maxLen; simp; omega) (by simp; omega) (by simp) ?_)
  intro v' w1 hown' hgrow _
  have ho : OwnI w.heap.size w1 v' zs := by have := ownI_app (xs := []) (ys := zs) (by simpa using hown'); simpa using this
  have hB : Below w.heap.size w w1 := hB0.grown hgrow (by simp) (fun j e => by simp [Value.ownBlock] at e; omega)
  clear hown' hgrow
  go_wp2
  go_ret
  exact ⟨_, rfl, ho, hB⟩

/-! ### turned round -/
def revTo (zs : List Int) (k : Nat) : List Int := (List.range zs.length).map fun (m : Nat) => if m < k ∨ zs.length - k ≤ m then nth zs (zs.length - 1 - m) else nth zs m
theorem revTo_length (zs : List Int) (k : Nat) : (revTo zs k).length = zs.length := by simp [revTo]
theorem nth_revTo {zs : List Int} {k m : Nat} (h : m < zs.length) : nth (revTo zs k) m = if m < k ∨ zs.length - k ≤ m then nth zs (zs.length - 1 - m) else nth zs m := by simp [nth, revTo, h]
theorem revTo_zero (zs : List Int) : revTo zs 0 = zs := ext_nth (revTo_length _ _) fun m hm => by
  rw [revTo_length] at hm; rw [nth_revTo hm, if_neg (by omega)]
theorem nth_reverse {zs : List Int} {m : Nat} (h : m < zs.length) : nth zs.reverse m = nth zs (zs.length - 1 - m) := by
  rw [nth_lt (by simpa using h), nth_lt (by omega)]; simp
theorem revTo_all (zs : List Int) {k : Nat} (h : zs.length ≤ 2 * k + 1) : revTo zs k = zs.reverse := ext_nth (by simp [revTo_length]) fun m hm => by
  rw [revTo_length] at hm
  rw [nth_revTo hm, nth_reverse hm]
  split
  · rfl
  · congr 1; omega
theorem nth_set {zs : List Int} {k m : Nat} {x : Int} (h : m < zs.length) : nth (zs.set k x) m = if k = m then x else nth zs m := by
  unfold nth; rw [List.getElem?_set]; split <;> simp_all
theorem revTo_succ (zs : List Int) {k : Nat} (h : 2 * k + 1 < zs.length) : revTo zs (k + 1) = ((revTo zs k).set k (nth zs (zs.length - 1 - k))).set (zs.length - 1 - k) (nth zs k) := by
  refine ext_nth (by simp [revTo_length]) fun m hm => ?_
  rw [revTo_length] at hm
  rw [nth_revTo hm, nth_set (by simp [revTo_length]; omega), nth_set (by simp [revTo_length]; omega), nth_revTo hm]
  by_cases h1 : zs.length - 1 - k = m
  · rw [if_pos h1, if_pos (by omega)]; congr 1; omega
  · rw [if_neg h1]
    by_cases h2 : k = m
    · rw [if_pos h2, if_pos (by omega), h2]
    · rw [if_neg h2]
      by_cases h3 : m < k ∨ zs.length - k ≤ m
      · rw [if_pos h3, if_pos (by omega)]
      · rw [if_neg h3, if_neg (by omega)]

set_option maxRecDepth 100000 in
set_option maxHeartbeats 8000000 in
theorem reverse_c (B : Nat) (g cap : Nat) (zs : List Int) (w : World) (ho : OwnI B w (.slice (some ⟨g, 0, none⟩) zs.length cap) zs) (hl : zs.length ≤ 1048576) :
    Calls Try.prog 116 #[.slice (some ⟨g, 0, none⟩) zs.length cap] w fun e w' => (∃ v, e = .returned v) ∧ OwnI B w' (.slice (some ⟨g, 0, none⟩) zs.length cap) zs.reverse ∧ w.grownBy w' (some g) := by
  go_enter Try.func116, Try.ntmps116
  go_wp2
  go_loopw [2, 3] (fun i j wr => ∃ k : Nat, 2 * k ≤ zs.length + 1 ∧ i = .int .i64 k ∧ j = .int .i64 (zs.length - 1 - k) ∧ OwnI B wr (.slice (some ⟨g, 0, none⟩) zs.length cap) (revTo zs k) ∧ w.grownBy wr (some g)) (fun i _ _ => zs.length - (intOf i).toNat)
  case atStart => exact ⟨0, by omega, rfl, by simp, by rw [revTo_zero]; exact ho, ⟨rfl, rfl, rfl, Nat.le_refl _, fun _ _ _ => rfl⟩⟩
  case round =>
    obtain ⟨k, hk, rfl, rfl, hok, hg⟩ := hrel
    by_cases hlt : 2 * k + 1 < zs.length
    · obtain ⟨m, hm⟩ : ∃ m : Nat, zs.length - 1 - k = m := ⟨_, rfl⟩
      have hmi : (zs.length : Int) - 1 - k = m := by omega
      have e1 : nth (revTo zs k) k = nth zs k := by rw [nth_revTo (by omega), if_neg (by omega)]
      have e2 : nth (revTo zs k) m = nth zs m := by rw [nth_revTo (by omega), if_neg (by omega)]
      have hc1 := hok.cellAt (j := k) (by rw [revTo_length]; omega)
      have hc2 := hok.cellAt (j := m) (by rw [revTo_length]; omega)
      have hf1 := hok.frozen k
      have hf2 := hok.frozen m
      rw [e1] at hc1
      rw [e2] at hc2
      have hs := revTo_succ zs hlt
      rw [hm] at hs
      have Hs := Lib.hid hs
      rw [hmi]
      clear e1 e2 hs hm
      go_wp2
      go_region
      obtain ⟨r1, r2⟩ := hok.stored k (nth zs m)
      obtain ⟨r3, r4⟩ := r1.stored (n := zs.length) m (nth zs k)
      rw [← Hs.out] at r3
      have r5 : OwnI B ((wr.setCell ⟨g, k, none⟩ (.int .i64 (nth zs m))).setCell ⟨g, m, none⟩ (.int .i64 (nth zs k))).drew (.slice (some ⟨g, 0, none⟩) zs.length cap) (revTo zs (k + 1)) := r3
      have r6 : w.grownBy ((wr.setCell ⟨g, k, none⟩ (.int .i64 (nth zs m))).setCell ⟨g, m, none⟩ (.int .i64 (nth zs k))).drew (some g) := by
        have q := grownBy_tr (grownBy_tr hg r2) r4
        exact ⟨q.os, q.tape, q.output, q.size, q.block⟩
      clear r1 r2 r3 r4
      go_wp2
      go_roundw
      case rel => exact ⟨k + 1, by omega, by simp, by go_num, r5, r6⟩
      case measure => simp [intOf]; omega
    · have hs := revTo_all zs (k := k) (by omega)
      rw [hs] at hok
      clear hs
      go_wp2
      go_end0
      exact ⟨⟨_, rfl⟩, hok, hg⟩

/-! ### ReverseTurns -/
def revR (ts : List Int) : List Int := if turnsOk ts 8 then ts.reverse else []
theorem revR_len (ts : List Int) : (revR ts).length * 8 ≤ 140737488351232 := by
  unfold revR; split
  · rename_i h; have := turnsOk_len h; simp; omega
  · simp
theorem reverse_take {zs : List Int} {k : Nat} (h : k < zs.length) : zs.reverse.take (k + 1) = zs.reverse.take k ++ [nth zs (zs.length - 1 - k)] := by
  rw [take_snoc (by simpa using h), nth_reverse h]

set_option maxRecDepth 100000 in
set_option maxHeartbeats 8000000 in
theorem i_ReverseTurns (c0 : Value) (ts : List Int) (w : World) (hI : Ints w.heap.size w c0 ts) (_hN : I64s ts) (hm : ts.length ≤ 1048576) :
    Calls Try.prog 27 #[c0] w (GivesI w (revR ts) fun v => .tuple #[v, .int .i64 (greatC ts)]) := by
  obtain ⟨a, cap, rfl⟩ := hI.shape
  cases ht : turnsOk ts 8
  · have Hr := Lib.hid (show revR ts = [] by unfold revR; rw [ht]; rfl)
    have Hc := Lib.hid (show greatC ts = 2 by unfold greatC; rw [ht]; rfl)
    have Ht := Lib.hid ht
    clear ht
    go_enter Try.func27, Try.ntmps27
    go_wp2_with fail
    refine (areTurns_c _ ts 8 _ hI (by omega)).mono ?_
    rintro e w1 ⟨he, hb⟩
    rw [Ht.out] at he
    subst he
    go_wp2
    go_ret2
    exact ⟨_, ret_v2 Hc.out.symm, by rw [Hr.out]; exact ownI_nil _ _, hb⟩
  · have Hr := Lib.hid (show revR ts = ts.reverse by unfold revR; rw [ht]; rfl)
    have Hc := Lib.hid (show greatC ts = 0 by unfold greatC; rw [ht]; rfl)
    have Ht := Lib.hid ht
    have hlb := turnsOk_len ht
    clear ht
    go_enter Try.func27, Try.ntmps27
    go_wp2_with fail
    refine (areTurns_c _ ts 8 _ hI (by omega)).mono ?_
    rintro e w1 ⟨he, hb⟩
    rw [Ht.out] at he
    subst he
    go_wp2_with fail
    refine (clone_c _ ts _ (hI.later hb) (by omega) hm).mono ?_
    rintro e w2 ⟨v, rfl, ho, hb2⟩
    obtain ⟨g, c, rfl, hg1, hg2⟩ := ho.shape (by omega)
    have hB2 := hb.trans (hb2.mono hb.size)
    have hs1 := hb.size
    simp only [id]
    go_wp2_with fail
    refine (reverse_c _ g c ts _ ho hm).mono ?_
    rintro e w3 ⟨⟨v, rfl⟩, ho3, hg3⟩
    have ho4 := ho3.base hs1
    have hB3 : Below w.heap.size w w3 := hB2.grown hg3 hB2.size (fun j e => by cases e; omega)
    clear ho hb2 hg3 ho3
    go_wp2
    go_ret2
    exact ⟨_, ret_v2 Hc.out.symm, by rw [Hr.out]; unfold OwnI at ho4 ⊢; simpa using ho4, hB3⟩

end Go.Proofs.Ytoflgfenlbibpaa
