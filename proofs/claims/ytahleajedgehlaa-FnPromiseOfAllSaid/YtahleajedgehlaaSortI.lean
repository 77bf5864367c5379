/-
  SortTasks of the program: the comparison that the program hands over, the library's stable sort of at most eight elements.
  Conditions: at most eight tasks.
-/
import Derived.Test.YtahleajedgehlaaSort
import Derived.Deep.RegionHeld3
namespace Go.Proofs.Ytahleajedgehlaa
open Go.RowKit Go.Shelf
attribute [local go_sem] Oper.semAt_some

theorem isNaN_c (x : Int) (w : World) : Calls Try.prog 65 #[.int .i64 x] w fun e w' => e = .returned (.bool false) ∧ w = w' := by
  go_enter Try.func65, Try.ntmps65
  go_wp2
  go_ret
  simp

def cmpI (x y : Int) : Int := if x < y then -1 else if y < x then 1 else 0
theorem compare_c (x y : Int) (w : World) : Calls Try.prog 58 #[.int .i64 x, .int .i64 y] w fun e w' => e = .returned (.int .i64 (cmpI x y)) ∧ w = w' := by
  by_cases h1 : x < y
  · have Hc := Lib.hid (show cmpI x y = -1 by unfold cmpI; rw [if_pos h1])
    go_enter Try.func58, Try.ntmps58
    go_wp2_with (go_at_call 65; refine (isNaN_c _ _).mono ?_; rintro e w' ⟨rfl, rfl⟩)
    go_ret
    exact ⟨ret_int Hc.out.symm, rfl⟩
  · by_cases h2 : y < x
    · have Hc := Lib.hid (show cmpI x y = 1 by unfold cmpI; rw [if_neg h1, if_pos h2])
      go_enter Try.func58, Try.ntmps58
      go_wp2_with (go_at_call 65; refine (isNaN_c _ _).mono ?_; rintro e w' ⟨rfl, rfl⟩)
      go_ret
      exact ⟨ret_int Hc.out.symm, rfl⟩
    · have Hc := Lib.hid (show cmpI x y = 0 by unfold cmpI; rw [if_neg h1, if_neg h2])
      go_enter Try.func58, Try.ntmps58
      go_wp2_with (go_at_call 65; refine (isNaN_c _ _).mono ?_; rintro e w' ⟨rfl, rfl⟩)
      go_ret
      exact ⟨ret_int Hc.out.symm, rfl⟩

set_option maxRecDepth 100000 in
set_option maxHeartbeats 8000000 in
theorem sortClosure_c (tb n₀ : Nat) (a : Option Addr) (cap : Nat) (zs : List Int) (i j : Nat) (w : World) (hb : Boxed w tb 24 (.slice a zs.length cap)) (hI : Ints n₀ w (.slice a zs.length cap) zs) (hi : i < zs.length) (hj : j < zs.length) :
    Calls Try.prog 57 #[.int .i64 i, .int .i64 j, .pointer (some ⟨tb, 0, none⟩)] w fun e w' => e = .returned (.int .i64 (cmpI (nth zs i) (nth zs j))) ∧ w' = w.drew := by
  obtain ⟨b, off, rfl, hb2, hc⟩ := hI.at_ hi
  have h1 := hc i hi
  have h2 := hc j hj
  have cT := hb.cell
  have hfw : Try.prog.follows Departure.mixedOrders = true := by kernel_rfl
  clear hc hb hI
  go_enter Try.func57, Try.ntmps57
  go_wp2_with (go_at_call 58; refine (compare_c _ _ _).mono ?_; rintro e w' ⟨rfl, rfl⟩)
  refine wp_region_held_drew (S := fun w' => w' = w.drew) hfw rfl ?_
  intro hS0
  refine wpAnyH_take (i := 0) (v := ?v0) rfl (by kernel_rfl) (by kernel_rfl) (by kernel_rfl) (fun _ _ _ h => h) (.inl ⟨by rfl, ?y0⟩) hS0 ?_
  case y0 =>
    intro w' hS
    (have k1 : w'.cell? ⟨tb, 0, none⟩ = some (.slice (some ⟨b, off, none⟩) zs.length cap) := (by rw [hS]; exact cT); have k2 : w'.cell? ⟨b, off + i, none⟩ = some (.int .i64 (nth zs i)) := (by rw [hS]; exact h1); have k3 : w'.cell? ⟨b, off + j, none⟩ = some (.int .i64 (nth zs j)) := (by rw [hS]; exact h2); clear hS)
    go_simp
    try with_reducible rfl
  refine wpAnyH_take (i := 1) (v := ?v1) rfl (by kernel_rfl) (by kernel_rfl) (by kernel_rfl) (fun _ _ _ h => h) (.inl ⟨by rfl, ?y1⟩) hS0 ?_
  case y1 =>
    intro w' hS
    (have k1 : w'.cell? ⟨tb, 0, none⟩ = some (.slice (some ⟨b, off, none⟩) zs.length cap) := (by rw [hS]; exact cT); have k2 : w'.cell? ⟨b, off + i, none⟩ = some (.int .i64 (nth zs i)) := (by rw [hS]; exact h1); have k3 : w'.cell? ⟨b, off + j, none⟩ = some (.int .i64 (nth zs j)) := (by rw [hS]; exact h2); clear hS)
    go_simp
    try with_reducible rfl
  refine wpAnyH_take (i := 2) (v := ?v2) rfl (by kernel_rfl) (by kernel_rfl) (by kernel_rfl) (fun _ _ _ h => h) (.inl ⟨by rfl, ?y2⟩) hS0 ?_
  case y2 =>
    intro w' hS
    (have k1 : w'.cell? ⟨tb, 0, none⟩ = some (.slice (some ⟨b, off, none⟩) zs.length cap) := (by rw [hS]; exact cT); have k2 : w'.cell? ⟨b, off + i, none⟩ = some (.int .i64 (nth zs i)) := (by rw [hS]; exact h1); have k3 : w'.cell? ⟨b, off + j, none⟩ = some (.int .i64 (nth zs j)) := (by rw [hS]; exact h2); clear hS)
    go_simp
    try with_reducible rfl
  refine wpAnyH_take (i := 3) (v := ?v3) rfl (by kernel_rfl) (by kernel_rfl) (by kernel_rfl) (fun _ _ _ h => h) (.inl ⟨by rfl, ?y3⟩) hS0 ?_
  case y3 =>
    intro w' hS
    (have k1 : w'.cell? ⟨tb, 0, none⟩ = some (.slice (some ⟨b, off, none⟩) zs.length cap) := (by rw [hS]; exact cT); have k2 : w'.cell? ⟨b, off + i, none⟩ = some (.int .i64 (nth zs i)) := (by rw [hS]; exact h1); have k3 : w'.cell? ⟨b, off + j, none⟩ = some (.int .i64 (nth zs j)) := (by rw [hS]; exact h2); clear hS)
    go_simp
    try with_reducible rfl
  refine wpAnyH_take (i := 4) (v := ?v4) rfl (by kernel_rfl) (by kernel_rfl) (by kernel_rfl) (fun _ _ _ h => h) (.inl ⟨by rfl, ?y4⟩) hS0 ?_
  case y4 =>
    intro w' hS
    (have k1 : w'.cell? ⟨tb, 0, none⟩ = some (.slice (some ⟨b, off, none⟩) zs.length cap) := (by rw [hS]; exact cT); have k2 : w'.cell? ⟨b, off + i, none⟩ = some (.int .i64 (nth zs i)) := (by rw [hS]; exact h1); have k3 : w'.cell? ⟨b, off + j, none⟩ = some (.int .i64 (nth zs j)) := (by rw [hS]; exact h2); clear hS)
    go_simp
    try with_reducible rfl
  refine wpAnyH_take (i := 5) (v := ?v5) rfl (by kernel_rfl) (by kernel_rfl) (by kernel_rfl) (fun _ _ _ h => h) (.inl ⟨by rfl, ?y5⟩) hS0 ?_
  case y5 =>
    intro w' hS
    (have k1 : w'.cell? ⟨tb, 0, none⟩ = some (.slice (some ⟨b, off, none⟩) zs.length cap) := (by rw [hS]; exact cT); have k2 : w'.cell? ⟨b, off + i, none⟩ = some (.int .i64 (nth zs i)) := (by rw [hS]; exact h1); have k3 : w'.cell? ⟨b, off + j, none⟩ = some (.int .i64 (nth zs j)) := (by rw [hS]; exact h2); clear hS)
    go_simp
    try with_reducible rfl
  refine wpAnyH_take (i := 6) (v := ?v6) rfl (by kernel_rfl) (by kernel_rfl) (by kernel_rfl) (fun _ _ _ h => h) (.inl ⟨by rfl, ?y6⟩) hS0 ?_
  case y6 =>
    intro w' hS
    (have k1 : w'.cell? ⟨tb, 0, none⟩ = some (.slice (some ⟨b, off, none⟩) zs.length cap) := (by rw [hS]; exact cT); have k2 : w'.cell? ⟨b, off + i, none⟩ = some (.int .i64 (nth zs i)) := (by rw [hS]; exact h1); have k3 : w'.cell? ⟨b, off + j, none⟩ = some (.int .i64 (nth zs j)) := (by rw [hS]; exact h2); clear hS)
    go_simp
    try with_reducible rfl
  refine wpAnyH_take (i := 7) (v := ?v7) rfl (by kernel_rfl) (by kernel_rfl) (by kernel_rfl) (fun _ _ _ h => h) (.inl ⟨by rfl, ?y7⟩) hS0 ?_
  case y7 =>
    intro w' hS
    (have k1 : w'.cell? ⟨tb, 0, none⟩ = some (.slice (some ⟨b, off, none⟩) zs.length cap) := (by rw [hS]; exact cT); have k2 : w'.cell? ⟨b, off + i, none⟩ = some (.int .i64 (nth zs i)) := (by rw [hS]; exact h1); have k3 : w'.cell? ⟨b, off + j, none⟩ = some (.int .i64 (nth zs j)) := (by rw [hS]; exact h2); clear hS)
    go_simp
    try with_reducible rfl
  refine wpAnyH_take (i := 8) (v := ?v8) rfl (by kernel_rfl) (by kernel_rfl) (by kernel_rfl) (fun _ _ _ h => h) (.inl ⟨by rfl, ?y8⟩) hS0 ?_
  case y8 =>
    intro w' hS
    (have k1 : w'.cell? ⟨tb, 0, none⟩ = some (.slice (some ⟨b, off, none⟩) zs.length cap) := (by rw [hS]; exact cT); have k2 : w'.cell? ⟨b, off + i, none⟩ = some (.int .i64 (nth zs i)) := (by rw [hS]; exact h1); have k3 : w'.cell? ⟨b, off + j, none⟩ = some (.int .i64 (nth zs j)) := (by rw [hS]; exact h2); clear hS)
    go_simp
    try with_reducible rfl
  refine wpAnyH_take (i := 9) (v := ?v9) rfl (by kernel_rfl) (by kernel_rfl) (by kernel_rfl) (fun _ _ _ h => h) (.inl ⟨by rfl, ?y9⟩) hS0 ?_
  case y9 =>
    intro w' hS
    (have k1 : w'.cell? ⟨tb, 0, none⟩ = some (.slice (some ⟨b, off, none⟩) zs.length cap) := (by rw [hS]; exact cT); have k2 : w'.cell? ⟨b, off + i, none⟩ = some (.int .i64 (nth zs i)) := (by rw [hS]; exact h1); have k3 : w'.cell? ⟨b, off + j, none⟩ = some (.int .i64 (nth zs j)) := (by rw [hS]; exact h2); clear hS)
    go_simp
    try with_reducible rfl
  refine wpAnyH_ready (rs := [10]) (by kernel_rfl) (by simp) ?_
  refine AllReadyH.cons rfl (fun K' hK' => ?_) AllReadyH.nil
  rw [if_pos (by rfl)]
  go_simp
  refine (compare_c _ _ _).mono ?_
  rintro e w' ⟨rfl, rfl⟩
  refine hK'.out _ _ rfl fun hS1 => ?_
  refine wpAnyH_take (i := 11) (v := ?v11) rfl (by kernel_rfl) (by kernel_rfl) (by kernel_rfl) (fun _ _ _ h => h) (.inl ⟨by rfl, ?y11⟩) hS1 ?_
  case y11 =>
    intro w' hS
    (clear hS)
    go_simp
    try with_reducible rfl
  refine wpAnyH_done (by kernel_rfl) ?_ _
  go_wp2
  go_ret
  exact ⟨rfl, rfl⟩

set_option maxRecDepth 100000 in
set_option maxHeartbeats 8000000 in
theorem insertSort_c (tb n₀ B g cap2 : Nat) (a : Option Addr) (cap : Nat) (zs : List Int) (w : World) (hb : Boxed w tb 24 (.slice a zs.length cap)) (hI : Ints n₀ w (.slice a zs.length cap) zs)
    (ho : OwnI B w (.slice (some ⟨g, 0, none⟩) zs.length cap2) (stI zs zs.length 1)) (hne : tb ≠ g) (hn0 : n₀ ≤ g) (hnw : n₀ ≤ w.heap.size) (hl : zs.length ≤ 8) (h0 : 1 ≤ zs.length) :
    Calls Try.prog 69 #[.slice (some ⟨g, 0, none⟩) zs.length cap2, .int .i64 0, .int .i64 zs.length, .func (.func 57) #[] #[.pointer (some ⟨tb, 0, none⟩)]] w
      fun e w' => (∃ v, e = .returned v) ∧ OwnI B w' (.slice (some ⟨g, 0, none⟩) zs.length cap2) (ordTo zs zs.length) ∧ w.grownBy w' (some g) := by
  go_enter Try.func69, Try.ntmps69
  go_wp2
  go_loopw [8] (fun i wr => ∃ k : Nat, 1 ≤ k ∧ k ≤ zs.length ∧ i = .int .i64 k ∧ OwnI B wr (.slice (some ⟨g, 0, none⟩) zs.length cap2) (stI zs zs.length k) ∧ w.grownBy wr (some g)) (fun i _ => zs.length - (intOf i).toNat)
  case atStart => exact ⟨1, Nat.le_refl _, h0, rfl, ho, ⟨rfl, rfl, rfl, Nat.le_refl _, fun _ _ _ => rfl⟩⟩
  case round =>
    obtain ⟨k, hk1, hk, rfl, hok, hg⟩ := hrel
    by_cases hlt : k < zs.length
    · go_wp2
      go_loopw [9] (fun v wr => ∃ j : Nat, j ≤ k ∧ v = .int .i64 j ∧ OwnI B wr (.slice (some ⟨g, 0, none⟩) zs.length cap2) (midI zs zs.length k j) ∧ posOf zs (ordTo zs k) k k = posOf zs (ordTo zs k) k j ∧ w.grownBy wr (some g)) (fun v _ => (intOf v).toNat)
      case atStart => exact ⟨k, Nat.le_refl _, rfl, by rw [stI_mid]; exact hok, rfl, hg⟩
      case round =>
        obtain ⟨j, hj, rfl, hom, hp, hg2⟩ := hrel
        have Hp := Lib.hid hp
        have endOf : posOf zs (ordTo zs k) k j = j → midI zs zs.length k j = stI zs zs.length (k + 1) := fun h => by
          have h2 : posOf zs (ordTo zs k) k k = j := Hp.out.trans h
          have := mid_stI (zs := zs) (n := zs.length) (k := k)
          rwa [h2] at this
        have Hend := Lib.hid endOf
        clear endOf hp hok hg
        by_cases hz : j = 0
        · subst hz
          have He := Lib.hid (Hend.out rfl)
          have hom2 : OwnI B wr.drew (.slice (some ⟨g, 0, none⟩) zs.length cap2) (midI zs zs.length k 0) := World.ownsRow.drew hom
          have hg3 : w.grownBy wr.drew (some g) := ⟨hg2.os, hg2.tape, hg2.output, hg2.size, hg2.block⟩
          go_wp2
          go_region
          go_wp2
          go_roundw
          case rel => exact ⟨k + 1, by omega, by omega, by simp, by rw [← He.out]; exact hom2, hg3⟩
          case measure => simp [intOf]; omega
        · obtain ⟨m, rfl⟩ : ∃ m, j = m + 1 := ⟨j - 1, by omega⟩
          have hc1 := hom.cellAt (j := m + 1) (by rw [midI_length]; omega)
          have hc2 := hom.cellAt (j := m) (by rw [midI_length]; omega)
          have hf1 := hom.frozen (m + 1)
          have hf2 := hom.frozen m
          have e1 : nth (midI zs zs.length k (m + 1)) (m + 1) = k := midI_at (by omega) hlt
          have e2 : nth (midI zs zs.length k (m + 1)) m = nth (ordTo zs k) m := midI_before (by omega) hlt
          have hbd := ordTo_bd zs k (m := m) (by omega)
          obtain ⟨q, hq⟩ : ∃ q : Nat, nth (ordTo zs k) m = q := ⟨(nth (ordTo zs k) m).toNat, by omega⟩
          have hsw := midI_swap (zs := zs) (n := zs.length) (k := k) (j := m) (by omega) hlt
          rw [e1, e2, hq] at hsw
          rw [e1] at hc1
          rw [e2, hq] at hc2
          rw [hq] at hbd
          have hql : q < k := by omega
          have hgap : gapAt zs (ordTo zs k) m = nth zs q := by unfold gapAt; rw [hq]; rfl
          have Hgap := Lib.hid hgap
          have Hsw := Lib.hid hsw
          have hbx := hb.kept hg2 (by simpa using hne)
          have hIx := hI.below ((Below.refl n₀ w).grown hg2 hnw (fun j e => by simp at e; omega))
          have Hq := Lib.hid hq
          have E1 := Lib.hid e1
          have E2 := Lib.hid e2
          have hfw : Try.prog.follows Departure.mixedOrders = true := by kernel_rfl
          clear hbd hq hgap hsw e1 e2
          have hi0 : (0 : Int) ≤ (m : Int) + 1 := by omega
          have hi3 : (0 : Int) < (m : Int) + 1 := by omega
          have hi1 : (m : Int) + 1 < (zs.length : Int) := by omega
          have hi2 : (m : Int) < (zs.length : Int) := by omega
          have hi4 : (0 : Int) ≤ (m : Int) := by omega
          have hw1 : IntKind.i64.wrap ((m : Int) + 1 - 1) = (m : Int) := by rw [IntKind.wrap_i64]; omega
          have hw2 : IntKind.i64.wrap (m : Int) = (m : Int) := by rw [IntKind.wrap_i64]; omega
          have hbd : Boxed wr.drew tb 24 (.slice a zs.length cap) := hbx
          have hId : Ints n₀ wr.drew (.slice a zs.length cap) zs := hIx.below (Below.refl _ _).drew
          have gd : ∀ d, w.grownBy { wr with drawn := d } (some g) := fun d => ⟨hg2.os, hg2.tape, hg2.output, hg2.size, hg2.block⟩
          by_cases hgt : nth zs k < nth zs q
          · have Hcm := Lib.hid (show cmpI (nth zs k) (nth zs q) = -1 by unfold cmpI; rw [if_pos hgt])
            have Hp2 := Lib.hid (posOf_yes (zs := zs) (o := ordTo zs k) (x := k) (j := m) (by rw [Hgap.out]; exact hgt))
            clear hgt
            go_wp2
            go_region_held3 (fun w' => w'.cell? ⟨g, m + 1, none⟩ = some (.int .i64 k) ∧ w'.cell? ⟨g, m, none⟩ = some (.int .i64 q) ∧ ∃ d, w' = { wr with drawn := d })
              (exact ⟨hc1, hc2, _, rfl⟩)
              (first | (go_at_call 57; refine (sortClosure_c tb n₀ a cap zs k q _ hbd hId hlt (by omega)).mono ?_; rintro e w' ⟨rfl, rfl⟩; rw [Hcm.out]))
            obtain ⟨r1, r2⟩ := hom.stored (m + 1) (q : Int)
            obtain ⟨r3, r4⟩ := r1.stored (n := zs.length) m (k : Int)
            rw [← Hsw.out] at r3
            have r6 := grownBy_tr (grownBy_tr hg2 r2) r4
            clear r1 r2 r4
            go_wp2
            go_region
            go_wp2
            go_roundw
            case rel => exact ⟨m, by omega, by simp, r3, by rw [Hp.out, Hp2.out], ⟨r6.os, r6.tape, r6.output, r6.size, r6.block⟩⟩
            case measure => simp [intOf]
          · obtain ⟨c, hcc, hc0, hc3⟩ : ∃ c, cmpI (nth zs k) (nth zs q) = c ∧ 0 ≤ c ∧ c ≤ 1 := ⟨_, rfl, by unfold cmpI; rw [if_neg hgt]; split <;> omega, by unfold cmpI; rw [if_neg hgt]; split <;> omega⟩
            have Hcm := Lib.hid hcc
            have Hp2 := Lib.hid (posOf_no (zs := zs) (o := ordTo zs k) (x := k) (j := m) (by rw [Hgap.out]; exact hgt))
            have He := Lib.hid (Hend.out Hp2.out)
            clear hgt hcc
            go_wp2
            go_region_held3 (fun w' => w'.cell? ⟨g, m + 1, none⟩ = some (.int .i64 k) ∧ w'.cell? ⟨g, m, none⟩ = some (.int .i64 q) ∧ ∃ d, w' = { wr with drawn := d })
              (exact ⟨hc1, hc2, _, rfl⟩)
              (first | (go_at_call 57; refine (sortClosure_c tb n₀ a cap zs k q _ hbd hId hlt (by omega)).mono ?_; rintro e w' ⟨rfl, rfl⟩; rw [Hcm.out]))
            go_wp2
            go_roundw
            case rel => exact ⟨k + 1, by omega, by omega, by simp, by rw [← He.out]; exact hom, gd _⟩
            case measure => simp [intOf]; omega
    · obtain rfl : k = zs.length := by omega
      rw [stI_all] at hok
      go_wp2
      go_end0
      exact ⟨⟨_, rfl⟩, hok, hg⟩

end Go.Proofs.Ytahleajedgehlaa
