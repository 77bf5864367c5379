/-
  slices.Sorted(slices.Values(list)) for lists of at most eight numbers: the library's insertion sort, the iterator, what it collects.
  Conditions: lists of 1 to 8 elements.
-/
import Derived.Test.YtahleajedgehlaaSrtM
import Derived.Test.YtahleajedgehlaaSortI
namespace Go.Proofs.Ytahleajedgehlaa
open Go.RowKit Go.Shelf
attribute [local go_sem] Oper.semAt_some

theorem less_c (d : Bool) (x y : Int) (w : World) (hd : decide (x < y) = d) : Calls Try.prog 77 #[.int .i64 x, .int .i64 y] w fun e w' => e = .returned (.bool d) ∧ w = w' := by
  cases d
  · have h : ¬ x < y := by simpa using hd
    clear hd
    go_enter Try.func77, Try.ntmps77
    go_wp2_with (go_at_call 65; refine (isNaN_c _ _).mono ?_; rintro e w' ⟨rfl, rfl⟩)
    go_ret
    refine ⟨?_, rfl⟩
    simp
    omega
  · have h : x < y := by simpa using hd
    clear hd
    go_enter Try.func77, Try.ntmps77
    go_wp2_with (go_at_call 65; refine (isNaN_c _ _).mono ?_; rintro e w' ⟨rfl, rfl⟩)
    go_ret
    simp

set_option maxRecDepth 100000 in
set_option maxHeartbeats 8000000 in
theorem insertOrd_c (B g cap2 : Nat) (zs : List Int) (w : World) (ho : OwnI B w (.slice (some ⟨g, 0, none⟩) zs.length cap2) (valI zs (stI zs zs.length 1))) (hl : zs.length ≤ 8) (h0 : 1 ≤ zs.length) :
    Calls Try.prog 71 #[.slice (some ⟨g, 0, none⟩) zs.length cap2, .int .i64 0, .int .i64 zs.length] w
      fun e w' => (∃ v, e = .returned v) ∧ OwnI B w' (.slice (some ⟨g, 0, none⟩) zs.length cap2) (sortV zs) ∧ w.grownBy w' (some g) := by
  go_enter Try.func71, Try.ntmps71
  go_wp2
  go_loopw [6] (fun i wr => ∃ k : Nat, 1 ≤ k ∧ k ≤ zs.length ∧ i = .int .i64 k ∧ OwnI B wr (.slice (some ⟨g, 0, none⟩) zs.length cap2) (valI zs (stI zs zs.length k)) ∧ w.grownBy wr (some g)) (fun i _ => zs.length - (intOf i).toNat)
  case atStart => exact ⟨1, Nat.le_refl _, h0, rfl, ho, ⟨rfl, rfl, rfl, Nat.le_refl _, fun _ _ _ => rfl⟩⟩
  case round =>
    obtain ⟨k, hk1, hk, rfl, hok, hg⟩ := hrel
    by_cases hlt : k < zs.length
    · go_wp2
      go_loopw [7] (fun v wr => ∃ j : Nat, j ≤ k ∧ v = .int .i64 j ∧ OwnI B wr (.slice (some ⟨g, 0, none⟩) zs.length cap2) (valI zs (midI zs zs.length k j)) ∧ posOf zs (ordTo zs k) k k = posOf zs (ordTo zs k) k j ∧ w.grownBy wr (some g)) (fun v _ => (intOf v).toNat)
      case atStart => exact ⟨k, Nat.le_refl _, rfl, by rw [stI_mid]; exact hok, rfl, hg⟩
      case round =>
        obtain ⟨j, hj, rfl, hom, hp, hg2⟩ := hrel
        have Hp := Lib.hid hp
        have endOf : posOf zs (ordTo zs k) k j = j → midI zs zs.length k j = stI zs zs.length (k + 1) := fun h => by
          have h2 : posOf zs (ordTo zs k) k k = j := Hp.out.trans h
          have := mid_stI (zs := zs) (n := zs.length) (k := k)
          rwa [h2] at this
        have Hend := Lib.hid endOf
        clear endOf hp hok hg
        by_cases hz : j = 0
        · subst hz
          have He := Lib.hid (Hend.out rfl)
          have hom2 : OwnI B wr.drew (.slice (some ⟨g, 0, none⟩) zs.length cap2) (valI zs (midI zs zs.length k 0)) := World.ownsRow.drew hom
          have hg3 : w.grownBy wr.drew (some g) := ⟨hg2.os, hg2.tape, hg2.output, hg2.size, hg2.block⟩
          go_wp2
          go_region
          go_wp2
          go_roundw
          case rel => exact ⟨k + 1, by omega, by omega, by simp, by rw [← He.out]; exact hom2, hg3⟩
          case measure => simp [intOf]; omega
        · obtain ⟨m, rfl⟩ : ∃ m, j = m + 1 := ⟨j - 1, by omega⟩
          have hvl : (valI zs (midI zs zs.length k (m + 1))).length = zs.length := by rw [valI_length, midI_length]
          have hc1 := hom.cellAt (j := m + 1) (by omega)
          have hc2 := hom.cellAt (j := m) (by omega)
          have hf1 := hom.frozen (m + 1)
          have hf2 := hom.frozen m
          have e1 : nth (midI zs zs.length k (m + 1)) (m + 1) = k := midI_at (by omega) hlt
          have e2 : nth (midI zs zs.length k (m + 1)) m = nth (ordTo zs k) m := midI_before (by omega) hlt
          have hbd := ordTo_bd zs k (m := m) (by omega)
          obtain ⟨q, hq⟩ : ∃ q : Nat, nth (ordTo zs k) m = q := ⟨(nth (ordTo zs k) m).toNat, by omega⟩
          have hsw := midI_swap (zs := zs) (n := zs.length) (k := k) (j := m) (by omega) hlt
          rw [e1, e2, hq] at hsw
          have hsv : valI zs (midI zs zs.length k m) = ((valI zs (midI zs zs.length k (m + 1))).set (m + 1) (nth zs q)).set m (nth zs k) := by
            rw [hsw, valI_set, valI_set]; rfl
          rw [nth_valI (by rw [midI_length]; omega), e1] at hc1
          rw [nth_valI (by rw [midI_length]; omega), e2, hq] at hc2
          rw [hq] at hbd
          have hgap : gapAt zs (ordTo zs k) m = nth zs q := by unfold gapAt; rw [hq]; rfl
          have Hgap := Lib.hid hgap
          have Hsv := Lib.hid hsv
          have hfw : Try.prog.follows Departure.mixedOrders = true := by kernel_rfl
          have c1 : wr.cell? ⟨g, m + 1, none⟩ = some (.int .i64 (nth zs k)) := hc1
          have c2 : wr.cell? ⟨g, m, none⟩ = some (.int .i64 (nth zs q)) := hc2
          clear hbd hq hgap hsw hsv e1 e2 hc1 hc2 hvl
          have hi0 : (0 : Int) ≤ (m : Int) + 1 := by omega
          have hi3 : (0 : Int) < (m : Int) + 1 := by omega
          have hi1 : (m : Int) + 1 < (zs.length : Int) := by omega
          have hi2 : (m : Int) < (zs.length : Int) := by omega
          have hi4 : (0 : Int) ≤ (m : Int) := by omega
          have hw1 : IntKind.i64.wrap ((m : Int) + 1 - 1) = (m : Int) := by rw [IntKind.wrap_i64]; omega
          have hw2 : IntKind.i64.wrap (m : Int) = (m : Int) := by rw [IntKind.wrap_i64]; omega
          have gd : ∀ d, w.grownBy { wr with drawn := d } (some g) := fun d => ⟨hg2.os, hg2.tape, hg2.output, hg2.size, hg2.block⟩
          by_cases hgt : nth zs k < nth zs q
          · have Hcm := Lib.hid (show decide (nth zs k < nth zs q) = true by simpa using hgt)
            have Hp2 := Lib.hid (posOf_yes (zs := zs) (o := ordTo zs k) (x := k) (j := m) (by rw [Hgap.out]; exact hgt))
            clear hgt
            go_wp2
            go_region_held3 (fun w' => w'.cell? ⟨g, m + 1, none⟩ = some (.int .i64 (nth zs k)) ∧ w'.cell? ⟨g, m, none⟩ = some (.int .i64 (nth zs q)) ∧ ∃ d, w' = { wr with drawn := d })
              (exact ⟨c1, c2, _, rfl⟩)
              (first | (go_at_call 77; refine (less_c true _ _ _ Hcm.out).mono ?_; rintro e w' ⟨rfl, rfl⟩))
            obtain ⟨r1, r2⟩ := hom.stored (m + 1) (nth zs q)
            obtain ⟨r3, r4⟩ := r1.stored (n := zs.length) m (nth zs k)
            rw [← Hsv.out] at r3
            have r6 := grownBy_tr (grownBy_tr hg2 r2) r4
            clear r1 r2 r4
            go_wp2
            go_region
            go_wp2
            go_roundw
            case rel => exact ⟨m, by omega, by simp, r3, by rw [Hp.out, Hp2.out], ⟨r6.os, r6.tape, r6.output, r6.size, r6.block⟩⟩
            case measure => simp [intOf]
          · have Hcm := Lib.hid (show decide (nth zs k < nth zs q) = false by simpa using hgt)
            have Hp2 := Lib.hid (posOf_no (zs := zs) (o := ordTo zs k) (x := k) (j := m) (by rw [Hgap.out]; exact hgt))
            have He := Lib.hid (Hend.out Hp2.out)
            clear hgt
            go_wp2
            go_region_held3 (fun w' => w'.cell? ⟨g, m + 1, none⟩ = some (.int .i64 (nth zs k)) ∧ w'.cell? ⟨g, m, none⟩ = some (.int .i64 (nth zs q)) ∧ ∃ d, w' = { wr with drawn := d })
              (exact ⟨c1, c2, _, rfl⟩)
              (first | (go_at_call 77; refine (less_c false _ _ _ Hcm.out).mono ?_; rintro e w' ⟨rfl, rfl⟩))
            go_wp2
            go_roundw
            case rel => exact ⟨k + 1, by omega, by omega, by simp, by rw [← He.out]; exact hom, gd _⟩
            case measure => simp [intOf]; omega
    · obtain rfl : k = zs.length := by omega
      rw [valI_end] at hok
      go_wp2
      go_end0
      exact ⟨⟨_, rfl⟩, hok, hg⟩

set_option maxRecDepth 100000 in
set_option maxHeartbeats 8000000 in
theorem pdq_c (B g cap2 : Nat) (zs : List Int) (lim : Int) (w : World) (ho : OwnI B w (.slice (some ⟨g, 0, none⟩) zs.length cap2) zs) (hl : zs.length ≤ 8) (h0 : 1 ≤ zs.length) :
    Calls Try.prog 67 #[.slice (some ⟨g, 0, none⟩) zs.length cap2, .int .i64 0, .int .i64 zs.length, .int .i64 lim] w
      fun e w' => (∃ v, e = .returned v) ∧ OwnI B w' (.slice (some ⟨g, 0, none⟩) zs.length cap2) (sortV zs) ∧ w.grownBy w' (some g) := by
  have ho1 : OwnI B w (.slice (some ⟨g, 0, none⟩) zs.length cap2) (valI zs (stI zs zs.length 1)) := by rw [valI_start]; exact ho
  have hlz : (zs.length : Int) ≤ 12 := by omega
  clear ho
  go_enter Try.func67, Try.ntmps67
  go_wp2
  go_loopw [1, 2, 10] (fun x y _ wr => x = .int .i64 0 ∧ y = .int .i64 zs.length ∧ wr = w) (fun _ _ _ _ => 0)
  case atStart => exact ⟨rfl, rfl, rfl⟩
  case round =>
    obtain ⟨rfl, rfl, rfl⟩ := hrel
    go_wp2_with fail
    refine (insertOrd_c B g cap2 zs _ ho1 hl h0).mono ?_
    rintro e w2 ⟨⟨v, rfl⟩, ho2, hg2⟩
    go_wp2
    refine bodyPost_ret (results_none rfl _ _ _) rfl ?_
    exact ⟨⟨_, rfl⟩, ho2, hg2⟩

set_option maxRecDepth 100000 in
set_option maxHeartbeats 8000000 in
theorem len64_c (n : Nat) (w : World) (hn : n ≤ 8) : Calls Try.prog 81 #[.int .u64 n] w fun e w' => (∃ v : Int, e = .returned (.int .i64 v)) ∧ w = w' := by
  rcases (show n = 0 ∨ n = 1 ∨ n = 2 ∨ n = 3 ∨ n = 4 ∨ n = 5 ∨ n = 6 ∨ n = 7 ∨ n = 8 by omega) with rfl | rfl | rfl | rfl | rfl | rfl | rfl | rfl | rfl
  all_goals
    go_enter Try.func81, Try.ntmps81
    go_wp2
    go_ret
    exact ⟨⟨_, rfl⟩, rfl⟩

theorem bitsLen_c (n : Nat) (w : World) (hn : n ≤ 8) : Calls Try.prog 68 #[.int .u64 n] w fun e w' => (∃ v : Int, e = .returned (.int .i64 v)) ∧ w = w' := by
  go_enter Try.func68, Try.ntmps68
  go_wp2_with fail
  refine (len64_c n _ hn).mono ?_
  rintro e w1 ⟨⟨v, rfl⟩, rfl⟩
  go_wp2
  go_ret
  exact ⟨⟨_, rfl⟩, rfl⟩

set_option maxRecDepth 100000 in
set_option maxHeartbeats 8000000 in
theorem sort_c (B g cap2 : Nat) (zs : List Int) (w : World) (ho : OwnI B w (.slice (some ⟨g, 0, none⟩) zs.length cap2) zs) (hl : zs.length ≤ 8) (h0 : 1 ≤ zs.length) :
    Calls Try.prog 62 #[.slice (some ⟨g, 0, none⟩) zs.length cap2] w
      fun e w' => (∃ v, e = .returned v) ∧ OwnI B w' (.slice (some ⟨g, 0, none⟩) zs.length cap2) (sortV zs) ∧ w.grownBy w' (some g) := by
  have hwu : IntKind.u64.wrap (zs.length : Int) = (zs.length : Int) := by simp [IntKind.wrap, IntKind.bits, IntKind.signed]; omega
  go_enter Try.func62, Try.ntmps62
  go_wp2_with fail
  refine (bitsLen_c zs.length _ hl).mono ?_
  rintro e w1 ⟨⟨v, rfl⟩, rfl⟩
  go_wp2_with fail
  refine (pdq_c B g cap2 zs v _ ho hl h0).mono ?_
  rintro e w2 ⟨⟨v2, rfl⟩, ho2, hg2⟩
  go_wp2
  go_end0
  exact ⟨⟨_, rfl⟩, ho2, hg2⟩

/-! ### the iterator -/
def valAt (zs : List Int) (k : Nat) : Array Value := #[.int .i64 (nth zs k)]

set_option maxRecDepth 100000 in
set_option maxHeartbeats 2000000 in
theorem values_at (F : Fence) (n : Nat) (h8 : F.fn 63) (hro : F.round = none) (hn : 1 ≤ n) (Bs n₀ : Nat) (sv : Value) (zs : List Int) (hreach : zs.length * 8 ≤ 140737488351232) (w : World) (hBs : Boxed w Bs 22 sv) (hn₀ : n₀ ≤ w.heap.size) (hI1 : Ints n₀ w sv zs) :
    SeqAt F n Try.prog 63 #[.pointer (some ⟨Bs, 0, none⟩)] (valAt zs) (fun b => b < n₀) 0 zs.length w := fun l J Jx W hW hJ hJx hY h0 => by
  have hI0 : ∀ W, Kps (fun b => b < n₀) w W → Ints W.heap.size W sv zs := fun _ h => (hI1.kps h (fun _ hk => hk)).mono (Nat.le_trans hn₀ h.size)
  have hI : ∀ W', Kps (fun b => b < n₀) W W' → Ints W'.heap.size W' sv zs := fun W' h => hI0 W' ((Kps.below hW).trans h)
  have hc0 : W.cell? ⟨Bs, 0, none⟩ = some sv := (hW.cell (p := ⟨Bs, 0, none⟩) hBs.lt).trans hBs.cell
  clear hI0 hBs hI1
  obtain ⟨a, cap, rfl⟩ := (hI W (Kps.refl _ _)).shape
  refine callsIn_of_wp Try.func63 rfl h8 ?_ hro
  simp only [Try.ntmps63, List.size_toArray, List.length_cons, List.length_nil, Nat.reduceAdd, Nat.reduceSub, Array.replicate_succ, Array.replicate_zero, List.push_toArray, List.append_toArray, List.nil_append, List.cons_append]
  gi_wp2
  gi_loopw [7] (fun i wr => ∃ k : Nat, k ≤ zs.length ∧ i = .int .i64 k ∧ J k wr ∧ Kps (fun b => b < n₀) W wr)
    (fun i _ => zs.length - (intOf i).toNat)
  case atStart => exact ⟨0, Nat.zero_le _, rfl, h0, Kps.refl _ _⟩
  case round =>
    obtain ⟨k, hk, rfl, hJs, hnx⟩ := hrel
    by_cases hlt : k < zs.length
    · obtain ⟨b, off, rfl, hb, hc⟩ := (hI wr hnx).at_ hlt
      have hcx : wr.cell? ⟨b, off + k, none⟩ = some (.int .i64 (nth zs k)) := hc k hlt
      obtain ⟨fn, tmps, assign, body, hy, hR⟩ := hY k wr hJs hlt (by have := hnx.size; omega)
      dsimp only [valAt] at hy
      clear hc hI
      gi_wp2
      refine hR.mono ?_
      rintro e W3 ⟨hk3, (⟨rfl, hJ3⟩ | ⟨rfl, hJx3⟩)⟩
      · gi_wp2
        go_roundw
        case rel => exact ⟨k + 1, by omega, by simp, hJ3, hnx.trans (hk3.mono fun _ h => .inl h)⟩
        case measure => simp [intOf]; omega
      · gi_wp2
        refine bodyPost_ret (results_none rfl _ _ _) rfl ?_
        exact ⟨⟨_, rfl⟩, .inr ⟨k + 1, by omega, hJx3⟩⟩
    · obtain rfl : k = zs.length := by omega
      gi_wp2
      go_end0
      exact ⟨⟨_, rfl⟩, .inl hJs⟩

theorem values_c (a : Option Addr) (len cap : Nat) (w : World) :
    Calls Try.prog 55 #[.slice a len cap] w fun e w' => e = .returned (.func (.func 63) #[] #[.pointer (some ⟨w.heap.size, 0, none⟩)]) ∧ w' = w.alloc (.cells #[.slice a len cap] 22) := by
  go_enter Try.func55, Try.ntmps55
  go_wp2
  go_ret
  exact ⟨rfl, rfl⟩

/-- the first k numbers of a list -/
def preL (L : List Int) (k : Nat) : List Int := L.take k
theorem preL_succ {L : List Int} {k : Nat} (h : k < L.length) : preL L (k + 1) = preL L k ++ [nth L k] := take_snoc h
theorem preL_length {L : List Int} {k : Nat} (h : k ≤ L.length) : (preL L k).length = k := by simp [preL]; omega
theorem preL_all (L : List Int) : preL L L.length = L := by simp [preL]

set_option maxRecDepth 100000 in
set_option maxHeartbeats 8000000 in
theorem appendSeq_c (gf : Nat) (lb : Array Value) (L : List Int) (Keep : Nat → Prop) (c : Nat) (w : World) (eg : ∀ args w, (callFunc gf args).run Try.prog w = .ok (.enter gf args) w)
    (hseq : ∀ W, Below w.heap.size w W → SeqAt Fence.wide 8 Try.prog gf lb (valAt L) Keep c L.length W) (hKeep : ∀ b, Keep b → b < w.heap.size) (hl : L.length ≤ 1048576) :
    Calls Try.prog 66 #[.slice none 0 0, .func (.func gf) #[] lb] w (GivesI w L id) := by
  obtain ⟨i0, hi, hz0, hz1, hz2⟩ := info_parts Try.infoI2
  refine (callsIn_wide (n := 9)).1 ?_
  refine callsIn_of_wp_marks Try.func66 rfl trivial ?_ rfl
  simp only [Try.ntmps66, List.size_toArray, List.length_cons, List.length_nil, Nat.reduceAdd, Nat.reduceSub, Array.replicate_succ, Array.replicate_zero, List.push_toArray, List.append_toArray, List.nil_append, List.cons_append]
  gi_wp2_with fail
  obtain ⟨W0, hW0⟩ : ∃ W0, (w.alloc (.cells #[.slice none 0 0] 22)) = W0 := ⟨_, rfl⟩
  have hB0 : Below w.heap.size w W0 := by rw [← hW0]; exact ((Below.refl _ w).alloc (Nat.le_refl _) _)
  have hs0 : w.heap.size + 1 ≤ W0.heap.size := by rw [← hW0]; simp
  have bW : Boxed W0 (w.heap.size) 22 (.slice none 0 0) := by rw [← hW0]; repeat first | (refine boxed_at ?_; (simp; done)) | refine Boxed.alloc ?_ _
  rw [hW0]
  clear hW0
  have hsq := hseq W0 hB0
  obtain ⟨top, htop⟩ : ∃ top, W0.heap.size + 2 + c = top := ⟨_, rfl⟩
  have Htop := Lib.hid htop
  have htop1 : w.heap.size + 3 ≤ top := by omega
  have HK := Lib.hid hKeep
  clear hseq
  refine range_outA (Keep := Keep) (c := c) rfl (by omega) rfl trivial eg hsq (fun b hb => by have := hKeep b hb; omega) (fun _ => rfl)
    (fun k W => (∃ v, Boxed W w.heap.size 22 v ∧ OwnI top W v (preL L k)) ∧ Below w.heap.size w W ∧ (k = 0 ∨ top ≤ W.heap.size))
    (fun _ _ _ => False)
    (OwnFrom.and (Own.from (boxRow_Own _ _ _ _) _) (OwnFrom.and (ownFrom_below (Nat.le_refl _) (by omega)) (ownFrom_size _ _)))
    (fun _ _ _ _ _ hs _ _ => hs)
    ⟨⟨_, bW, ownI_nil _ _⟩, hB0, .inl rfl⟩ ?a1 ?assign ?body ?done ?stop
  case assign =>
    intro l k W K hk hK
    simp only [valAt]
    gi_wp2
    exact hK
  case body =>
    rintro l k W hl2 hr ⟨⟨v, bW1, ho1⟩, hB1, _⟩ hlt hs
    clear htop hKeep
    have hsW : top ≤ W.heap.size := by have := Htop.out; omega
    have hband : ∀ j, Band Keep W0.heap.size (W0.heap.size + 2 + c) j → ¬ (j = w.heap.size ∨ top ≤ j) := fun j hj => by
      have := Htop.out
      rcases hj with hj | hj
      · have := HK.out j hj; omega
      · omega
    have Hband := Lib.hid hband
    clear hband hs
    have cW := bW1.cell
    have fW := bW1.frozen
    have Htl := Lib.hid (preL_succ hlt)
    have hdl := preL_length (show k ≤ L.length by omega)
    have hdb : (preL L k).length ≤ 1048576 := by omega
    clear hdl
    gi_wp2_with (gi_at_builtin; refine wpListIn_append_own _ rfl _ _ 22 rfl top 2 i0 (.int .i64 0) 1 8 Try.underlying22 hi hz0 hz1 hz2 rfl (by decide) _ _ _ rfl (World.ownsRow.alloc ho1 _) ⟨W.heap.size, 0, none⟩ 1 1 [.int .i64 (nth L k)] rfl rfl (Go.cell_one_new _ _ _) (by simp [Value.oneCell']) (by unfold maxLen; omega) (by omega) (by simp; omega) ?_)
    intro v' w4 hown' hgrow _
    have ho2 := ownI_snoc hown'
    rw [← Htl.out] at ho2
    obtain ⟨g', cap', rfl, hg1, hg2⟩ := ho2.shape (by rw [preL_length (by omega)]; omega)
    obtain ⟨r1, r2, r3, r4⟩ := appended bW1 (by omega) ho1 ho2 hgrow
    have c1 := r1.cell
    have f1 := r1.frozen
    clear hown' hgrow cW fW
    gi_wp2
    exact ⟨r4.kps Hband.out, ⟨⟨_, r2, r3⟩, r4.below hB1 (fun j hj => by omega) (by omega), .inr (Nat.le_trans hsW r4.size)⟩⟩
  case done =>
    rintro D W hD ⟨⟨v, bW1, ho1⟩, hB1, htp⟩ hK
    rw [preL_all] at ho1
    have cW := bW1.cell
    gi_wp2
    refine retM1 hK ⟨_, results_tmp rfl _ _ _, ?_⟩
    exact ⟨_, rfl, (ho1.base (by omega)).shut hK, below_shut hB1 (by omega)⟩
  case stop =>
    rintro D c k W hD hk h
    exact h.elim

theorem collect_c (gf : Nat) (lb : Array Value) (L : List Int) (Keep : Nat → Prop) (c : Nat) (w : World) (eg : ∀ args w, (callFunc gf args).run Try.prog w = .ok (.enter gf args) w)
    (hseq : ∀ W, Below w.heap.size w W → SeqAt Fence.wide 8 Try.prog gf lb (valAt L) Keep c L.length W) (hKeep : ∀ b, Keep b → b < w.heap.size) (hl : L.length ≤ 1048576) :
    Calls Try.prog 61 #[.func (.func gf) #[] lb] w (GivesI w L id) := by
  go_enter Try.func61, Try.ntmps61
  go_wp2_with fail
  refine (appendSeq_c gf lb L Keep c w eg hseq hKeep hl).mono ?_
  rintro e w1 ⟨v, rfl, ho, hB⟩
  simp only [id]
  go_wp2
  go_ret
  exact ⟨_, rfl, ho, hB⟩

set_option maxRecDepth 100000 in
set_option maxHeartbeats 8000000 in
theorem sorted_c (Bs n₀ : Nat) (sv : Value) (zs : List Int) (w : World) (hBs : Boxed w Bs 22 sv) (hn₀ : n₀ ≤ w.heap.size) (hI : Ints n₀ w sv zs) (hl : zs.length ≤ 8) (h0 : 1 ≤ zs.length) :
    Calls Try.prog 54 #[.func (.func 63) #[] #[.pointer (some ⟨Bs, 0, none⟩)]] w (GivesI w (sortV zs) id) := by
  go_enter Try.func54, Try.ntmps54
  go_wp2_with fail
  refine (collect_c _ _ zs (fun b => b < n₀) 0 w (enters_of Try.func63 (by kernel_rfl) rfl) (fun W hW => values_at Fence.wide 8 trivial rfl (by omega) Bs n₀ sv zs (by omega) W (boxed_later hBs hW) (by have := hW.size; omega) (hI.below (hW.mono hn₀))) (fun b hb => by omega) (by omega)).mono ?_
  rintro e w1 ⟨v, rfl, ho, hB⟩
  simp only [id]
  obtain ⟨g, cap, rfl, hg1, hg2⟩ := ho.shape (by omega)
  go_wp2_with fail
  refine (sort_c w.heap.size g cap zs _ ho hl h0).mono ?_
  rintro e w2 ⟨⟨v2, rfl⟩, ho2, hg3⟩
  have hB2 : Below w.heap.size w w2 := hB.grown hg3 hB.size (fun j e => by cases e; exact hg1)
  go_wp2
  go_ret
  exact ⟨_, rfl, ho2, hB2⟩

end Go.Proofs.Ytahleajedgehlaa
