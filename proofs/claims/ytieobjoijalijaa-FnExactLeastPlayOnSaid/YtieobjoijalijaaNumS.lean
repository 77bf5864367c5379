/-
  The model's numbers of states, and which states are lasting.
  Conditions: tasks, and their states.
-/
import Derived.Test.YtieobjoijalijaaTop
import Derived.Test.YtieobjoijalijaaRen
namespace Go.Proofs.Ytieobjoijalijaa
open Go.RowKit Go.Shelf
attribute [local go_sem] Oper.semAt_some

theorem numP_step {zs st : List Int} (ht : tasksOk zs = true) (hs : IsSt zs st) {k : Nat} (hk : k < zs.length) :
    (0 ≤ numP zs st k * nth zs k ∧ numP zs st k * nth zs k ≤ 6553600000000) ∧ (1 ≤ nth st k ∧ nth st k ≤ 40) ∧ numP zs st (k + 1) = numP zs st k * nth zs k + nth st k - 1 := by
  obtain ⟨h1, h2⟩ := numP_bd hs (k := k) (by omega)
  have h3 := hs.2 k hk
  have h4 := tasksOk_nth ht hk
  have h5 := cntP_top ht (k := k + 1) (by omega)
  refine ⟨⟨Int.mul_nonneg h1 (by omega), ?_⟩, by omega, rfl⟩
  have h6 : numP zs st k * nth zs k ≤ cntP zs k * nth zs k := Int.mul_le_mul_of_nonneg_right (by omega) (by omega)
  have h7 : cntP zs (k + 1) = cntP zs k * nth zs k := rfl
  omega

set_option maxRecDepth 100000 in
set_option maxHeartbeats 8000000 in
theorem l02Number_c (c0 : Value) (zs : List Int) (c1 : Value) (st : List Int) (w : World) (hI : Ints w.heap.size w c0 zs) (ht : tasksOk zs = true) (hT : Ints w.heap.size w c1 st) (hs : IsSt zs st) :
    Calls Try.prog 83 #[.agg #[c0], c1] w fun e w' => e = .returned (.int .i64 (numL zs st)) ∧ Below w.heap.size w w' := by
  obtain ⟨a, cap, rfl⟩ := hI.shape
  obtain ⟨a2, cap2, rfl⟩ := hT.shape
  have hB0 : Below w.heap.size w (w.alloc (.cells #[.slice a zs.length cap] 28)) := (Below.refl _ w).alloc (Nat.le_refl _) _
  have hl8 := tasksOk_len ht
  have hls1 : st.length ≤ zs.length := by rw [hs.1]; omega
  have hls2 : zs.length ≤ st.length := by rw [hs.1]; omega
  have hbd := fun (k : Nat) (hk : k < zs.length) => numP_step ht hs hk
  have Hbd := Lib.hid hbd
  have hnl : numL zs st = numP zs st st.length := rfl
  have Hnl := Lib.hid hnl
  clear hbd hnl
  go_enter Try.func83, Try.ntmps83
  go_wp2
  go_loopw [5, 6] (fun o i wr => ∃ k : Nat, k ≤ st.length ∧ i = .int .i64 k ∧ o = .int .i64 (numP zs st k) ∧ Boxed wr w.heap.size 28 (.slice a zs.length cap) ∧ Below w.heap.size w wr) (fun _ i _ => st.length - (intOf i).toNat)
  case atStart => exact ⟨0, Nat.zero_le _, rfl, rfl, Boxed.new _ _ _, hB0⟩
  case round =>
    obtain ⟨k, hk, rfl, rfl, hb0, hB⟩ := hrel
    have kb := hb0.cell
    by_cases hlt : k < st.length
    · obtain ⟨b, off, rfl, hb, hc⟩ := (hI.below hB).at_ (k := k) (by omega)
      obtain ⟨b2, off2, rfl, hb2, hc2⟩ := (hT.below hB).at_ hlt
      have hcx := hc k (by omega)
      have hcy := hc2 k hlt
      obtain ⟨h1, h2, h3⟩ := Hbd.out k (by omega)
      have H3 := Lib.hid h3
      have hk0 : (k : Int) < (zs.length : Int) := by omega
      obtain ⟨x, hx⟩ : ∃ x, numP zs st k * nth zs k = x := ⟨_, rfl⟩
      have Hx := Lib.hid hx
      have hw0 : IntKind.i64.wrap (numP zs st k * nth zs k) = x := by rw [hx, IntKind.wrap_i64]; rw [hx] at h1; omega
      rw [hx] at h1
      have hw1 : IntKind.i64.wrap (x + nth st k) = x + nth st k := by rw [IntKind.wrap_i64]; omega
      have hw2 : IntKind.i64.wrap (x + nth st k - 1) = x + nth st k - 1 := by rw [IntKind.wrap_i64]; omega
      clear hc hc2 h3 hx
      go_wp2_with fail
      go_quiet (fail)
      go_wp2
      go_roundw
      case rel => exact ⟨k + 1, by omega, by simp, by rw [H3.out, Hx.out], hb0, below_drewN hB _⟩
      case measure => simp [intOf]; omega
    · obtain rfl : k = st.length := by omega
      go_wp2
      go_ret
      exact ⟨ret_int Hnl.out.symm, hB⟩

/-- the state with a number, while it is made from its end on -/
def ofK (zs : List Int) (n : Int) (k : Nat) : List Int := (List.range zs.length).map fun (i : Nat) => if zs.length - k ≤ i then nth (ofL zs n) i else 0
theorem ofK_length (zs : List Int) (n : Int) (k : Nat) : (ofK zs n k).length = zs.length := by simp [ofK]
theorem nth_ofK {zs : List Int} {n : Int} {k i : Nat} (h : i < zs.length) : nth (ofK zs n k) i = if zs.length - k ≤ i then nth (ofL zs n) i else 0 := by simp [nth, ofK, h]
theorem ofK_zero (zs : List Int) (n : Int) : ofK zs n 0 = List.replicate zs.length 0 := by
  refine List.ext_getElem (by simp [ofK]) fun i h1 h2 => ?_
  simp only [ofK, List.getElem_map, List.getElem_range, List.getElem_replicate]
  rw [if_neg (by simp [ofK] at h1; omega)]
theorem ofK_all (zs : List Int) (n : Int) : ofK zs n zs.length = ofL zs n := ext_nth (by rw [ofK_length, ofL_length]) fun i hi => by
  rw [ofK_length] at hi
  rw [nth_ofK hi, if_pos (by omega)]
theorem ofK_succ {zs : List Int} (n : Int) {k : Nat} (hk : k < zs.length) : ofK zs n (k + 1) = (ofK zs n k).set (zs.length - (k + 1)) (nth (ofL zs n) (zs.length - (k + 1))) := ext_nth (by rw [List.length_set, ofK_length, ofK_length]) fun i hi => by
  rw [ofK_length] at hi
  rw [nth_set (by rw [ofK_length]; exact hi), nth_ofK hi, nth_ofK hi]
  by_cases e : zs.length - (k + 1) = i
  · rw [if_pos e, if_pos (by omega), e]
  · rw [if_neg e]
    by_cases h : zs.length - k ≤ i
    · rw [if_pos h, if_pos (by omega)]
    · rw [if_neg h, if_neg (by omega)]

set_option maxRecDepth 100000 in
set_option maxHeartbeats 8000000 in
theorem l02Of_c (c0 : Value) (zs : List Int) (n : Int) (w : World) (hI : Ints w.heap.size w c0 zs) (ht : tasksOk zs = true) (hn0 : 0 ≤ n) (hn1 : n < cntL zs) :
    Calls Try.prog 67 #[.agg #[c0], .int .i64 n] w (GivesI w (ofL zs n) id) := by
  obtain ⟨a, cap, rfl⟩ := hI.shape
  have hB0 : Below w.heap.size w (w.alloc (.cells #[.slice a zs.length cap] 28)) := (Below.refl _ w).alloc (Nat.le_refl _) _
  have hl8 := tasksOk_len ht
  obtain ⟨i0, hi, hz0, hz1, hz2⟩ := info_parts Try.infoI2
  have b0 : Boxed (w.alloc (.cells #[.slice a zs.length cap] 28)) w.heap.size 28 (.slice a zs.length cap) := Boxed.new _ _ _
  have hr := fun (k : Nat) (hk : k ≤ zs.length) => restN_bd (pos_of ht) hn0 hn1 hk
  have hcb := fun (k : Nat) (hk : k ≤ zs.length) => (cntP_top ht hk).2
  have hgs := fun (k : Nat) (hk : k < zs.length) => tasksOk_nth ht hk
  go_enter Try.func67, Try.ntmps67
  go_wp2_with (at_make; refine wpList_make_full _ rfl _ _ 22 rfl (w.heap.size + 1) 2 i0 (.int .i64 0) 1 Try.underlying22 hi hz0 hz1 .i64 .i64 _ _ zs.length rfl rfl rfl rfl ?c1 ?c2 ?c3 ?_)
  case c1 => rw [hz2]; omega
  case c2 => unfold maxLen; omega
  case c3 => simp
  intro w1 hown hgrow
  have ho1 := ownI_made hown
  rw [← ofK_zero zs n] at ho1
  have hB1 : Below w.heap.size w w1 := hB0.grown hgrow (by simp) (by simp)
  have b1 := b0.kept hgrow (by simp)
  clear hown hgrow b0
  go_wp2
  go_loopw [1, 6] (fun m i wr => ∃ k : Nat, k ≤ zs.length ∧ i = .int .i64 ((zs.length : Int) - 1 - k) ∧ m = .int .i64 (restN zs n k) ∧ OwnI (w.heap.size + 1) wr (.slice (some ⟨w.heap.size + 1, 0, none⟩) zs.length zs.length) (ofK zs n k) ∧ Boxed wr w.heap.size 28 (.slice a zs.length cap) ∧ Below w.heap.size w wr)
    (fun _ i _ => (intOf i + 1).toNat)
  case atStart => exact ⟨0, Nat.zero_le _, by simp, rfl, by simpa using ho1, b1, hB1⟩
  case round =>
    obtain ⟨k, hk, rfl, rfl, ho, hb0, hB⟩ := hrel
    have kb := hb0.cell
    by_cases hlt : k < zs.length
    · obtain ⟨j, hj⟩ : ∃ j : Nat, zs.length - (k + 1) = j := ⟨_, rfl⟩
      have hjl : j < zs.length := by omega
      have hje : (zs.length : Int) - 1 - k = (j : Int) := by omega
      obtain ⟨b, off, rfl, hb, hc⟩ := (hI.below hB).at_ (k := j) hjl
      have hcx := hc j hjl
      have hg := hgs j hjl
      obtain ⟨r1, r2⟩ := hr k (by omega)
      have r3 := hcb (zs.length - k) (by omega)
      have hm1 : (restN zs n k).tmod (nth zs j) = restN zs n k % nth zs j := Int.tmod_eq_emod_of_nonneg r1
      have hm2 : (restN zs n k).tdiv (nth zs j) = restN zs n k / nth zs j := Int.tdiv_eq_ediv_of_nonneg r1
      have hv : nth (ofL zs n) j = restN zs n k % nth zs j + 1 := by rw [nth_ofL hjl, show zs.length - (j + 1) = k by omega]
      have hr2 : restN zs n (k + 1) = restN zs n k / nth zs j := by show restN zs n k / nth zs (zs.length - (k + 1)) = _; rw [hj]
      have hmb1 := Int.emod_nonneg (restN zs n k) (b := nth zs j) (by omega)
      have hmb2 := Int.emod_lt_of_pos (restN zs n k) (b := nth zs j) (by omega)
      have hst := ho.stored j (nth (ofL zs n) j)
      have hsu := ofK_succ n hlt
      rw [hj] at hsu
      rw [← hsu] at hst
      have hfz := ho.frozen j
      have hcj := ho.cellAt (j := j) (by rw [ofK_length]; exact hjl)
      rw [hv] at hst
      have Hs := Lib.hid hst
      have Hr2 := Lib.hid hr2
      rw [hje]
      clear hc hst hv hr2 hsu hr hcb hgs hj
      have Hje := Lib.hid hje
      clear hje
      have hq1 : 0 ≤ restN zs n k / nth zs j := Int.ediv_nonneg r1 (by omega)
      have hq2 : restN zs n k / nth zs j ≤ restN zs n k := Int.ediv_le_self _ r1
      go_wp2_with fail
      have hje := Hje.out
      have e1 : (zs.length : Int) - 1 - ((k + 1 : Nat) : Int) = (j : Int) - 1 := by omega
      exact ⟨⟨k + 1, by omega, by rw [e1], by rw [Hr2.out], Hs.out.1, boxed_setFar hb0 (show w.heap.size ≠ w.heap.size + 1 by omega), hB.setCell (p := ⟨w.heap.size + 1, j, none⟩) (Nat.le_succ _) _⟩, by simp [intOf]; try omega⟩
    · obtain rfl : k = zs.length := by omega
      rw [ofK_all] at ho
      have hq : (zs.length : Int) - 1 - zs.length < 0 := by omega
      go_wp2
      go_ret
      exact ⟨_, rfl, ho.base (by omega), hB⟩

end Go.Proofs.Ytieobjoijalijaa
