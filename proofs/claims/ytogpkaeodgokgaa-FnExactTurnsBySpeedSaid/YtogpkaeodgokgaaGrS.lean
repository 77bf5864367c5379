/-
  The model's functions for gardens: l06Is, l06Heights, l06Turns, l06Grow, l06Highest, l06Fastest, l06Same.
  Conditions: each slice takes at most 140737488351232 bytes; heights from 0 to 100000.
-/
import Derived.Test.YtogpkaeodgokgaaWaits
import Derived.Test.YtogpkaeodgokgaaGrd
namespace Go.Proofs.Ytogpkaeodgokgaa
open Go.RowKit Go.Shelf
attribute [local go_sem] Oper.semAt_some

set_option maxRecDepth 100000 in
set_option maxHeartbeats 1000000 in
theorem l06Is_c (sv : Value) (zs : List Int) (w : World) (hI : Ints w.heap.size w sv zs) (hl : zs.length * 8 ≤ 140737488351232) :
    Calls Try.prog 83 #[.agg #[sv]] w fun e w' => e = .returned (.bool (gardenOk zs)) ∧ Below w.heap.size w w' := by
  obtain ⟨a, cap, rfl⟩ := hI.shape
  have hB0 : Below w.heap.size w (w.alloc (.cells #[.slice a zs.length cap] 48)) := (Below.refl _ w).alloc (Nat.le_refl _) _
  go_enter Try.func83, Try.ntmps83
  go_wp2
  go_loop [3] (fun i => ∃ k : Nat, k ≤ zs.length ∧ i = .int .i64 k ∧ (∀ j, j < k → inB (nth zs j) 1 20 = true)) (fun i => zs.length - (intOf i).toNat)
  case atStart => exact ⟨0, Nat.zero_le _, rfl, by simp⟩
  case round =>
    obtain ⟨k, hk, rfl, hall⟩ := hrel
    by_cases hlt : k < zs.length
    · obtain ⟨b, off, rfl, hb, hc⟩ := (hI.below hB0).at_ hlt
      have hcx := hc k hlt
      clear hc
      by_cases he : inB (nth zs k) 1 20 = true
      · have He := Lib.hid he
        clear he
        go_wp2_with (go_at_call 86; refine (l01In_d true _ _ _ _ He.out).mono ?_; rintro e w' ⟨rfl, rfl⟩)
        go_round
        case rel => exact ⟨k + 1, by omega, by simp, fun j hj => by by_cases e : j = k; exact e ▸ He.out; exact hall j (by omega)⟩
        case measure => simp [intOf]; omega
      · have he' : inB (nth zs k) 1 20 = false := by simpa using he
        have He := Lib.hid he'
        clear he he'
        go_wp2_with (go_at_call 86; refine (l01In_d false _ _ _ _ He.out).mono ?_; rintro e w' ⟨rfl, rfl⟩)
        go_ret
        exact ⟨ret_bool (by unfold gardenOk; rw [all_false_of hlt He.out]; rfl), hB0⟩
    · obtain rfl : k = zs.length := by omega
      have ha := all_true_of (p := fun z => inB z 1 20) hall
      by_cases h1 : 0 < zs.length
      · by_cases h2 : zs.length ≤ 8
        · have Hf := Lib.hid (show gardenOk zs = true by unfold gardenOk; rw [ha, inB_true.2 (by omega)]; rfl)
          clear hall ha
          go_wp2
          go_ret
          exact ⟨ret_bool (by rw [Hf.out]; first | done | (simp; done) | (simp; omega)), hB0⟩
        · have Hf := Lib.hid (show gardenOk zs = false by unfold gardenOk; rw [inB_false.2 (by omega), Bool.and_false])
          clear hall ha
          go_wp2
          go_ret
          exact ⟨ret_bool (by rw [Hf.out]; first | done | (simp; done) | (simp; omega)), hB0⟩
      · have Hf := Lib.hid (show gardenOk zs = false by unfold gardenOk; rw [inB_false.2 (by omega), Bool.and_false])
        clear hall ha
        go_wp2
        go_ret
        exact ⟨ret_bool (by rw [Hf.out]; first | done | (simp; done) | (simp; omega)), hB0⟩

theorem l06Is_d (d : Bool) (sv : Value) (zs : List Int) (w : World) (hI : Ints w.heap.size w sv zs) (hl : zs.length * 8 ≤ 140737488351232) (hd : gardenOk zs = d) :
    Calls Try.prog 83 #[.agg #[sv]] w fun e w' => e = .returned (.bool d) ∧ Below w.heap.size w w' := by
  subst hd; exact l06Is_c sv zs w hI hl

set_option maxRecDepth 100000 in
set_option maxHeartbeats 1000000 in
theorem s_IsGarden (c0 : Value) (zs : List Int) (w : World) (hI : Ints w.heap.size w c0 zs) (_hN : I64s zs) (hm : zs.length ≤ 1048576) :
    Calls Try.prog 34 #[.agg #[c0]] w fun e w' => e = .returned (.bool (gardenOk zs)) ∧ Below w.heap.size w w' := by
  obtain ⟨a, cap, rfl⟩ := hI.shape
  have hB0 : Below w.heap.size w (w.alloc (.cells #[.slice a zs.length cap] 48)) := (Below.refl _ w).alloc (Nat.le_refl _) _
  go_enter Try.func34, Try.ntmps34
  go_wp2_with fail
  refine (l06Is_c _ zs _ (hI.later hB0) (by omega)).mono ?_
  rintro e w1 ⟨rfl, hb⟩
  go_wp2
  go_ret
  exact ⟨rfl, hB0.trans (hb.mono (by simp))⟩

set_option maxRecDepth 100000 in
set_option maxHeartbeats 2000000 in
theorem l06Heights_c (sv tv : Value) (rs hs : List Int) (w : World) (hI : Ints w.heap.size w sv rs) (hT : Ints w.heap.size w tv hs) (hl : rs.length * 8 ≤ 140737488351232) (ht : hs.length * 8 ≤ 140737488351232) :
    Calls Try.prog 85 #[.agg #[sv], tv] w fun e w' => e = .returned (.int .i64 (htC rs hs)) ∧ Below w.heap.size w w' := by
  obtain ⟨a, cap, rfl⟩ := hI.shape
  obtain ⟨a2, cap2, rfl⟩ := hT.shape
  have hB0 : Below w.heap.size w (w.alloc (.cells #[.slice a rs.length cap] 48)) := (Below.refl _ w).alloc (Nat.le_refl _) _
  have hI0 := hI.later hB0
  cases h1 : gardenOk rs
  · have Hc := Lib.hid (show htC rs hs = 1 by simp [htC, h1])
    go_enter Try.func85, Try.ntmps85
    go_wp2_with fail
    refine (l06Is_d false _ rs _ hI0 hl h1).mono ?_
    rintro e w1 ⟨rfl, hb⟩
    go_wp2
    go_ret
    exact ⟨ret_int Hc.out.symm, hB0.trans (hb.mono (by simp))⟩
  · have H1 := Lib.hid h1
    by_cases hle : hs.length = rs.length
    · have Hc := Lib.hid (show htC rs hs = if heightsOk hs = true then 0 else 2 by unfold htC; rw [if_pos h1]; simp [hle])
      have hq : ((hs.length : Int) != (rs.length : Int)) = false := by rw [hle]; simp
      clear h1 hle
      go_enter Try.func85, Try.ntmps85
      go_wp2_with fail
      refine (l06Is_d true _ rs _ hI0 hl H1.out).mono ?_
      rintro e w1 ⟨rfl, hb⟩
      have hB1 := hB0.trans (hb.mono (by simp))
      have b1 : Boxed w1 w.heap.size 48 (.slice a rs.length cap) := boxed_later (Boxed.new _ _ _) hb
      have k1 := b1.cell
      clear hb hB0
      go_wp2
      go_loop [5] (fun i => ∃ k : Nat, k ≤ hs.length ∧ i = .int .i64 k ∧ (∀ j, j < k → inB (nth hs j) 0 100000 = true)) (fun i => hs.length - (intOf i).toNat)
      case atStart => exact ⟨0, Nat.zero_le _, rfl, by simp⟩
      case round =>
        obtain ⟨k, hk, rfl, hall⟩ := hrel
        by_cases hlt : k < hs.length
        · obtain ⟨b, off, rfl, hb, hc⟩ := (hT.below hB1).at_ hlt
          have hcx := hc k hlt
          clear hc
          by_cases he : inB (nth hs k) 0 100000 = true
          · have He := Lib.hid he
            clear he
            go_wp2_with (go_at_call 86; refine (l01In_d true _ _ _ _ He.out).mono ?_; rintro e w' ⟨rfl, rfl⟩)
            go_round
            case rel => exact ⟨k + 1, by omega, by simp, fun j hj => by by_cases e : j = k; exact e ▸ He.out; exact hall j (by omega)⟩
            case measure => simp [intOf]; omega
          · have he' : inB (nth hs k) 0 100000 = false := by simpa using he
            have He := Lib.hid he'
            clear he he'
            go_wp2_with (go_at_call 86; refine (l01In_d false _ _ _ _ He.out).mono ?_; rintro e w' ⟨rfl, rfl⟩)
            go_ret
            exact ⟨ret_int (by rw [Hc.out]; unfold heightsOk; rw [all_false_of hlt He.out]; rfl), hB1⟩
        · obtain rfl : k = hs.length := by omega
          have Ha := Lib.hid (show heightsOk hs = true from all_true_of hall)
          clear hall
          go_wp2
          go_ret
          exact ⟨ret_int (by rw [Hc.out, if_pos Ha.out]), hB1⟩
    · have Hc := Lib.hid (show htC rs hs = 2 by simp [htC, h1, hle])
      have hq : ((hs.length : Int) != (rs.length : Int)) = true := by rw [bne_iff_ne]; omega
      clear h1 hle
      go_enter Try.func85, Try.ntmps85
      go_wp2_with fail
      refine (l06Is_d true _ rs _ hI0 hl H1.out).mono ?_
      rintro e w1 ⟨rfl, hb⟩
      have k1 : w1.cell? ⟨w.heap.size, 0, none⟩ = some (.slice a rs.length cap) := (hb.cell (p := ⟨w.heap.size, 0, none⟩) (by simp)).trans (by simp [go_sem])
      go_wp2
      go_ret
      exact ⟨ret_int Hc.out.symm, hB0.trans (hb.mono (by simp))⟩

set_option maxRecDepth 100000 in
set_option maxHeartbeats 2000000 in
theorem l06Turns_c (sv tv : Value) (rs ts : List Int) (w : World) (hI : Ints w.heap.size w sv rs) (hT : Ints w.heap.size w tv ts) (hl : rs.length * 8 ≤ 140737488351232) (ht : ts.length * 8 ≤ 140737488351232) :
    Calls Try.prog 98 #[.agg #[sv], tv] w fun e w' => e = .returned (.int .i64 (gtC rs ts)) ∧ Below w.heap.size w w' := by
  obtain ⟨a, cap, rfl⟩ := hI.shape
  obtain ⟨a2, cap2, rfl⟩ := hT.shape
  have hB0 : Below w.heap.size w (w.alloc (.cells #[.slice a rs.length cap] 48)) := (Below.refl _ w).alloc (Nat.le_refl _) _
  have hI0 := hI.later hB0
  have hT0 := hT.later hB0
  cases h1 : gardenOk rs
  · have Hc := Lib.hid (show gtC rs ts = 1 by simp [gtC, h1])
    go_enter Try.func98, Try.ntmps98
    go_wp2_with fail
    refine (l06Is_d false _ rs _ hI0 hl h1).mono ?_
    rintro e w1 ⟨rfl, hb⟩
    go_wp2
    go_ret
    exact ⟨ret_int Hc.out.symm, hB0.trans (hb.mono (by simp))⟩
  · have H1 := Lib.hid h1
    rcases hd : turnsOk ts rs.length with _ | _
    · have Hc := Lib.hid (show gtC rs ts = 2 by simp [gtC, h1, hd])
      have H2 := Lib.hid hd
      clear h1 hd
      go_enter Try.func98, Try.ntmps98
      go_wp2_with fail
      refine (l06Is_d true _ rs _ hI0 hl H1.out).mono ?_
      rintro e w1 ⟨rfl, hb⟩
      have k1 : w1.cell? ⟨w.heap.size, 0, none⟩ = some (.slice a rs.length cap) := (hb.cell (p := ⟨w.heap.size, 0, none⟩) (by simp)).trans (by simp [go_sem])
      go_wp2_with fail
      refine (l01Turns_c _ ts _ _ (hT0.later hb) ht (by omega) (by omega)).mono ?_
      rintro e w2 ⟨he, rfl⟩
      rw [H2.out] at he
      subst he
      go_wp2
      go_ret
      exact ⟨ret_int Hc.out.symm, hB0.trans (hb.mono (by simp))⟩
    · have Hc := Lib.hid (show gtC rs ts = 0 by simp [gtC, h1, hd])
      have H2 := Lib.hid hd
      clear h1 hd
      go_enter Try.func98, Try.ntmps98
      go_wp2_with fail
      refine (l06Is_d true _ rs _ hI0 hl H1.out).mono ?_
      rintro e w1 ⟨rfl, hb⟩
      have k1 : w1.cell? ⟨w.heap.size, 0, none⟩ = some (.slice a rs.length cap) := (hb.cell (p := ⟨w.heap.size, 0, none⟩) (by simp)).trans (by simp [go_sem])
      go_wp2_with fail
      refine (l01Turns_c _ ts _ _ (hT0.later hb) ht (by omega) (by omega)).mono ?_
      rintro e w2 ⟨he, rfl⟩
      rw [H2.out] at he
      subst he
      go_wp2
      go_ret
      exact ⟨ret_int Hc.out.symm, hB0.trans (hb.mono (by simp))⟩

theorem ownI_emptyG {B : Nat} (w : World) (h : B ≤ w.heap.size) : OwnI B (w.alloc (.cells #[] 2)) (.slice (some ⟨w.heap.size, 0, none⟩) 0 0) [] := World.ownsRow_made w #[] 0 h (by unfold maxLen; omega) rfl
theorem boxed_drewN {W : World} {b : Nat} {t : TypeId} {v : Value} (h : Boxed W b t v) (n : Nat) : Boxed (W.drewN n) b t v := boxed_later h (below_drewN (Below.refl _ _) n)
theorem growL_take {rs hs : List Int} {d : Int} {k : Nat} (h : k < hs.length) : (growL rs hs d).take (k + 1) = (growL rs hs d).take k ++ [nth hs k + d * nth rs k] := by
  rw [take_snoc (by rw [growL_length]; exact h), nth_growL h]
theorem mul_bd {d r D R : Int} (h0 : 0 ≤ d) (h1 : d ≤ D) (h2 : 0 ≤ r) (h3 : r ≤ R) : 0 ≤ d * r ∧ d * r ≤ D * R :=
  ⟨Int.mul_nonneg h0 h2, Int.mul_le_mul h1 h3 h2 (by omega)⟩

set_option maxRecDepth 100000 in
set_option maxHeartbeats 4000000 in
theorem l06Grow_c (c0 : Value) (rs : List Int) (c1 : Value) (hs : List Int) (d : Int) (w : World) (hI : Ints w.heap.size w c0 rs) (hT : Ints w.heap.size w c1 hs) (hg : gardenOk rs = true) (hle : hs.length = rs.length)
    (hbd : ∀ k, 0 ≤ nth hs k ∧ nth hs k ≤ 100000) (h0 : 0 ≤ d) (h1 : d ≤ 200) :
    Calls Try.prog 87 #[.agg #[c0], c1, .int .i64 d] w (GivesI w (growL rs hs d) id) := by
  obtain ⟨i0, hi, hz0, hz1, hz2⟩ := info_parts Try.infoI
  have hfw : Try.prog.follows Departure.mixedOrders = true := by kernel_rfl
  obtain ⟨a, cap, rfl⟩ := hI.shape
  obtain ⟨a2, cap2, rfl⟩ := hT.shape
  have hB0 : Below w.heap.size w (w.alloc (.cells #[.slice a rs.length cap] 48)) := (Below.refl _ w).alloc (Nat.le_refl _) _
  have hl8 := gardenOk_len hg
  have hls1 : hs.length ≤ rs.length := by omega
  have hls2 : rs.length ≤ hs.length := by omega
  have Hbd := Lib.hid hbd
  clear hbd hle
  go_enter Try.func87, Try.ntmps87
  go_wp2
  have b0 : Boxed ((w.alloc (.cells #[.slice a rs.length cap] 48)).alloc (.cells #[] 2)) w.heap.size 48 (.slice a rs.length cap) := (Boxed.new _ _ _).alloc _
  have ho0 : OwnI (w.heap.size + 1) ((w.alloc (.cells #[.slice a rs.length cap] 48)).alloc (.cells #[] 2)) (.slice (some ⟨(w.alloc (.cells #[.slice a rs.length cap] 48)).heap.size, 0, none⟩) 0 0) [] := ownI_emptyG _ (by simp)
  go_loopw [7, 8] (fun v i wr => ∃ k : Nat, k ≤ hs.length ∧ i = .int .i64 k ∧ OwnI (w.heap.size + 1) wr v ((growL rs hs d).take k) ∧ Boxed wr w.heap.size 48 (.slice a rs.length cap) ∧ Below w.heap.size w wr) (fun _ i _ => hs.length - (intOf i).toNat)
  case atStart => exact ⟨0, Nat.zero_le _, rfl, by simpa using ho0, b0, hB0.alloc (by simp) _⟩
  case round =>
    obtain ⟨k, hk, rfl, ho, hb0, hB⟩ := hrel
    have hlen : ((growL rs hs d).take k).length ≤ 8 := by rw [List.length_take, growL_length]; omega
    obtain ⟨xs, hxs⟩ : ∃ xs, (growL rs hs d).take k = xs := ⟨_, rfl⟩
    rw [hxs] at ho hlen
    have Hx := Lib.hid hxs
    clear hxs
    have hsw := hB.size
    have hbs := hb0.lt
    have kb := hb0.cell
    by_cases hlt : k < hs.length
    · obtain ⟨b, off, rfl, hb, hc⟩ := hI.at_ (k := k) (by omega)
      obtain ⟨b2, off2, rfl, hb2, hc2⟩ := hT.at_ hlt
      have hcx := hc k (by omega)
      have hcy := hc2 k hlt
      have hr := gardenOk_nth hg (k := k) (by omega)
      have hh := Hbd.out k
      have hm := mul_bd (r := nth rs k) h0 h1 (by omega) hr.2
      have ht := growL_take (rs := rs) (hs := hs) (d := d) hlt
      rw [Hx.out] at ht
      obtain ⟨q, hq⟩ : ∃ q : Int, d * nth rs k = q := ⟨_, rfl⟩
      rw [hq] at ht hm
      have Ht := Lib.hid ht
      have hwp : IntKind.i64.wrap q = q := by rw [IntKind.wrap_i64]; omega
      have hws : IntKind.i64.wrap (nth hs k + q) = nth hs k + q := by rw [IntKind.wrap_i64]; omega
      have hrow : wr.drew.ownsRow (w.heap.size + 1) 2 1 u7 xs.length (xs.map (.int .i64)) := World.ownsRow.drew ho
      have hki : (k : Int) < (rs.length : Int) := by omega
      have hkh : (k : Int) < (hs.length : Int) := by omega
      clear hc hc2 ht
      go_wp2_with fail
      refine wp_region_held_drew (S := fun w' => Boxed w' w.heap.size 48 (.slice (some ⟨b, off, none⟩) rs.length cap) ∧ Below w.heap.size w w') hfw ⟨boxed_later hb0 (Below.refl _ _).drew, hB.drew⟩ ?_
      intro hS0
      refine wpAnyH_take (i := 0) (v := ?vs1q0) rfl (by kernel_rfl) (by kernel_rfl) (by kernel_rfl) (fun _ _ _ h => h) (.inl ⟨by first | kernel_rfl | rfl, ?ys1q0⟩) hS0 ?_
      case ys1q0 =>
        intro w' hS
        (have k1 := (hS.2.cell (p := ⟨b2, off2 + k, none⟩) hb2).trans hcy; clear hS)
        go_simp
        try with_reducible rfl
      refine wpAnyH_take (i := 1) (v := ?vs1q1) rfl (by kernel_rfl) (by kernel_rfl) (by kernel_rfl) (fun _ _ _ h => h) (.inl ⟨by first | kernel_rfl | rfl, ?ys1q1⟩) hS0 ?_
      case ys1q1 =>
        intro w' hS
        (have k1 := (hS.2.cell (p := ⟨b2, off2 + k, none⟩) hb2).trans hcy; clear hS)
        go_simp
        try with_reducible rfl
      refine wpAnyH_take (i := 2) (v := ?vs1q2) rfl (by kernel_rfl) (by kernel_rfl) (by kernel_rfl) (fun _ _ _ h => h) (.inl ⟨by first | kernel_rfl | rfl, ?ys1q2⟩) hS0 ?_
      case ys1q2 =>
        intro w' hS
        (have k1 := (hS.2.cell (p := ⟨b2, off2 + k, none⟩) hb2).trans hcy; clear hS)
        go_simp
        try with_reducible rfl
      refine wpAnyH_take (i := 3) (v := ?vs1q3) rfl (by kernel_rfl) (by kernel_rfl) (by kernel_rfl) (fun _ _ _ h => h) (.inl ⟨by first | kernel_rfl | rfl, ?ys1q3⟩) hS0 ?_
      case ys1q3 =>
        intro w' hS
        (have k1 := (hS.2.cell (p := ⟨b2, off2 + k, none⟩) hb2).trans hcy; clear hS)
        go_simp
        try with_reducible rfl
      refine wpAnyH_take (i := 4) (v := ?vs1q4) rfl (by kernel_rfl) (by kernel_rfl) (by kernel_rfl) (fun _ _ _ h => h) (.inl ⟨by first | kernel_rfl | rfl, ?ys1q4⟩) hS0 ?_
      case ys1q4 =>
        intro w' hS
        (have k1 := (hS.2.cell (p := ⟨b2, off2 + k, none⟩) hb2).trans hcy; clear hS)
        go_simp
        try with_reducible rfl
      refine wpAnyH_take (i := 5) (v := ?vs2q5) rfl (by kernel_rfl) (by kernel_rfl) (by kernel_rfl) (fun _ _ _ h => h) (.inl ⟨by first | kernel_rfl | rfl, ?ys2q5⟩) hS0 ?_
      case ys2q5 =>
        intro w' hS
        (have k1 := (hS.2.cell (p := ⟨b, off + k, none⟩) hb).trans hcx; have k2 := hS.1.cell; clear hS)
        go_simp
        try with_reducible rfl
      refine wpAnyH_take (i := 6) (v := ?vs2q6) rfl (by kernel_rfl) (by kernel_rfl) (by kernel_rfl) (fun _ _ _ h => h) (.inl ⟨by first | kernel_rfl | rfl, ?ys2q6⟩) hS0 ?_
      case ys2q6 =>
        intro w' hS
        (have k1 := (hS.2.cell (p := ⟨b, off + k, none⟩) hb).trans hcx; have k2 := hS.1.cell; clear hS)
        go_simp
        try with_reducible rfl
      refine wpAnyH_take (i := 7) (v := ?vs2q7) rfl (by kernel_rfl) (by kernel_rfl) (by kernel_rfl) (fun _ _ _ h => h) (.inl ⟨by first | kernel_rfl | rfl, ?ys2q7⟩) hS0 ?_
      case ys2q7 =>
        intro w' hS
        (have k1 := (hS.2.cell (p := ⟨b, off + k, none⟩) hb).trans hcx; have k2 := hS.1.cell; clear hS)
        go_simp
        try with_reducible rfl
      refine wpAnyH_take (i := 8) (v := ?vs2q8) rfl (by kernel_rfl) (by kernel_rfl) (by kernel_rfl) (fun _ _ _ h => h) (.inl ⟨by first | kernel_rfl | rfl, ?ys2q8⟩) hS0 ?_
      case ys2q8 =>
        intro w' hS
        (have k1 := (hS.2.cell (p := ⟨b, off + k, none⟩) hb).trans hcx; have k2 := hS.1.cell; clear hS)
        go_simp
        try with_reducible rfl
      refine wpAnyH_take (i := 9) (v := ?vs2q9) rfl (by kernel_rfl) (by kernel_rfl) (by kernel_rfl) (fun _ _ _ h => h) (.inl ⟨by first | kernel_rfl | rfl, ?ys2q9⟩) hS0 ?_
      case ys2q9 =>
        intro w' hS
        (have k1 := (hS.2.cell (p := ⟨b, off + k, none⟩) hb).trans hcx; have k2 := hS.1.cell; clear hS)
        go_simp
        try with_reducible rfl
      refine wpAnyH_take (i := 10) (v := ?vs2q10) rfl (by kernel_rfl) (by kernel_rfl) (by kernel_rfl) (fun _ _ _ h => h) (.inl ⟨by first | kernel_rfl | rfl, ?ys2q10⟩) hS0 ?_
      case ys2q10 =>
        intro w' hS
        (have k1 := (hS.2.cell (p := ⟨b, off + k, none⟩) hb).trans hcx; have k2 := hS.1.cell; clear hS)
        go_simp
        try with_reducible rfl
      refine wpAnyH_take (i := 11) (v := (.int .i64 q)) rfl (by kernel_rfl) (by kernel_rfl) (by kernel_rfl) (fun _ _ _ h => h) (.inl ⟨by first | kernel_rfl | rfl, ?ys3q11⟩) hS0 ?_
      case ys3q11 =>
        intro w' hS
        (clear hS)
        go_simp
        first | done | (simp; done) | (simp; omega) | omega | (simp [*]; done)
      refine wpAnyH_take (i := 12) (v := (.int .i64 (nth hs k + q))) rfl (by kernel_rfl) (by kernel_rfl) (by kernel_rfl) (fun _ _ _ h => h) (.inl ⟨by first | kernel_rfl | rfl, ?ys4q12⟩) hS0 ?_
      case ys4q12 =>
        intro w' hS
        (clear hS)
        go_simp
        first | done | (simp; done) | (simp; omega) | omega | (simp [*]; done)
      refine wpAnyH_ready (rs := [13]) (by kernel_rfl) (by simp) ?_
      refine AllReadyH.cons rfl (fun K' hK' => ?_) AllReadyH.nil
      rw [if_pos (by first | kernel_rfl | rfl)]
      go_simp
      refine hK'.out _ _ ⟨hS0.1.alloc _, hS0.2.alloc hS0.2.size _⟩ fun hS2 => ?_
      refine wpAnyH_ready (rs := [14]) (by kernel_rfl) (by simp) ?_
      refine AllReadyH.cons rfl (fun K' hK' => ?_) AllReadyH.nil
      rw [if_pos (by first | kernel_rfl | rfl)]
      refine wp_append_own _ (.tmp 16) (.tmp 29) 22 rfl (w.heap.size + 1) 2 i0 (.int .i64 0) 1 8 Try.underlying22 hi hz0 hz1 hz2 rfl (by decide) _ _ _ rfl (World.ownsRow.alloc hrow _) ⟨wr.heap.size, 0, none⟩ 1 1 [.int .i64 (nth hs k + q)] rfl rfl (Go.cell_one_new _ _ _) (by simp [Value.oneCell']) (by unfold maxLen; omega) (by omega) (by simp; omega) ?_
      intro v' w5 hown' hgrow hfar
      have ho6 := ownI_snoc hown'
      have hb5 : ∀ j, u7.ownBlock = some j → w.heap.size + 1 ≤ j := fun j e => (ho.blk j e).1
      have s4 : Below w.heap.size w w5 := hS2.2.grown hgrow hS2.2.size (fun j e => by have := hb5 j e; omega)
      have b4 : Boxed w5 w.heap.size 48 (.slice (some ⟨b, off, none⟩) rs.length cap) := hS2.1.kept hgrow (fun e => by have := hb5 _ e.symm; omega)
      clear hown' hgrow hfar hS2 hS0 ho hrow hB hb0
      refine hK'.out _ _ ⟨b4, s4⟩ fun hS3 => ?_
      refine wpAnyH_take (i := 15) (v := ?vs7q15) rfl (by kernel_rfl) (by kernel_rfl) (by kernel_rfl) (fun _ _ _ h => h) (.inl ⟨by first | kernel_rfl | rfl, ?ys7q15⟩) hS3 ?_
      case ys7q15 =>
        intro w' hS
        (clear hS)
        go_simp
        try with_reducible rfl
      refine wpAnyH_done (by kernel_rfl) ?_ _
      clear hS3
      go_wp2
      go_roundw
      case rel => exact ⟨k + 1, by omega, by simp, by rw [Ht.out]; exact ho6, b4, s4⟩
      case measure => simp [intOf]; omega
    · obtain rfl : k = hs.length := by omega
      have hx := Hx.out
      rw [← growL_length rs hs d, List.take_length] at hx
      go_wp2
      go_ret
      exact ⟨_, rfl, by rw [hx]; exact ho.base (by omega), hB⟩

theorem rkG_zero (rs hs : List Int) (i : Nat) : rkG rs 0 hs i = nth hs i := if_pos rfl
theorem rkG_low {rs hs : List Int} {x : Int} {i : Nat} (hx : 1 ≤ x) (h : nth hs i < x) : rkG rs x hs i = -1 := by unfold rkG; rw [if_neg (by omega), if_pos h]
theorem rkG_high {rs hs : List Int} {x : Int} {i : Nat} (hx : 1 ≤ x) (h : ¬ nth hs i < x) : rkG rs x hs i = nth rs i := by unfold rkG; rw [if_neg (by omega), if_neg h]

set_option maxRecDepth 100000 in
set_option maxHeartbeats 2000000 in
theorem l06Highest_c (rs : List Int) (c1 : Value) (hs : List Int) (w : World) (hT : Ints w.heap.size w c1 hs) (hl0 : 1 ≤ hs.length) (hl8 : hs.length ≤ 8) (hle : hs.length = rs.length) (hbd : ∀ k, 0 ≤ nth hs k ∧ nth hs k ≤ 1000000) :
    Calls Try.prog 92 #[c1] w fun e w' => e = .returned (.int .i64 (cutG rs 0 hs)) ∧ Below w.heap.size w w' := by
  obtain ⟨a2, cap2, rfl⟩ := hT.shape
  have Hbd := Lib.hid hbd
  have Hc := Lib.hid (show cutG rs 0 hs = (cutTo (rkG rs 0 hs) hs.length).1 by rw [cutG, hle])
  have h1 : cutTo (rkG rs 0 hs) 1 = (0, nth hs 0) := by rw [← rkG_zero rs hs 0]; exact cutTo_one (by rw [rkG_zero]; exact (hbd 0).1)
  clear hbd hle
  go_enter Try.func92, Try.ntmps92
  go_wp2
  go_loopw [3, 4] (fun m i wr => ∃ k : Nat, 1 ≤ k ∧ k ≤ hs.length ∧ i = .int .i64 k ∧ (∃ j : Nat, j < k ∧ m = .int .i64 j ∧ cutTo (rkG rs 0 hs) k = ((j : Int), nth hs j)) ∧ Below w.heap.size w wr) (fun _ i _ => hs.length - (intOf i).toNat)
  case atStart => exact ⟨1, Nat.le_refl _, hl0, rfl, ⟨0, by omega, rfl, h1⟩, Below.refl _ _⟩
  case round =>
    obtain ⟨k, hk1, hk, rfl, ⟨j, hj, rfl, hcut⟩, hB⟩ := hrel
    have Hcut := Lib.hid hcut
    clear hcut h1
    by_cases hlt : k < hs.length
    · obtain ⟨b2, off2, rfl, hb2, hc2⟩ := (hT.below hB).at_ hlt
      have hcx := hc2 k hlt
      have hcy := hc2 j (by omega)
      have h5 := Hbd.out k
      have h6 := Hbd.out j
      clear hc2
      by_cases hgt : nth hs j < nth hs k
      · have Hn := Lib.hid (show cutTo (rkG rs 0 hs) (k + 1) = ((k : Int), nth hs k) by rw [cutTo_yes (by rw [Hcut.out, rkG_zero]; exact hgt), rkG_zero])
        go_wp2
        go_quiet (fail)
        go_wp2
        go_roundw
        case rel => exact ⟨k + 1, by omega, by omega, by simp, ⟨k, by omega, rfl, Hn.out⟩, below_drewN hB _⟩
        case measure => simp [intOf]; omega
      · have Hn := Lib.hid (show cutTo (rkG rs 0 hs) (k + 1) = ((j : Int), nth hs j) by rw [cutTo_no (by rw [Hcut.out, rkG_zero]; exact hgt), Hcut.out])
        go_wp2
        go_quiet (fail)
        go_wp2
        go_roundw
        case rel => exact ⟨k + 1, by omega, by omega, by simp, ⟨j, by omega, rfl, Hn.out⟩, below_drewN hB _⟩
        case measure => simp [intOf]; omega
    · obtain rfl : k = hs.length := by omega
      go_wp2
      go_ret
      exact ⟨ret_int (by rw [Hc.out, Hcut.out]), hB⟩

set_option maxRecDepth 100000 in
set_option maxHeartbeats 2000000 in
theorem l06Fastest_c (c0 : Value) (rs : List Int) (c1 : Value) (hs : List Int) (x : Int) (w : World) (hI : Ints w.heap.size w c0 rs) (hT : Ints w.heap.size w c1 hs) (hg : gardenOk rs = true) (hle : hs.length = rs.length) (hbd : ∀ k, 0 ≤ nth hs k ∧ nth hs k ≤ 1000000) (hx : 1 ≤ x) :
    Calls Try.prog 95 #[.agg #[c0], c1, .int .i64 x] w fun e w' => e = .returned (.int .i64 (cutG rs x hs)) ∧ Below w.heap.size w w' := by
  obtain ⟨a, cap, rfl⟩ := hI.shape
  obtain ⟨a2, cap2, rfl⟩ := hT.shape
  have hB0 : Below w.heap.size w (w.alloc (.cells #[.slice a rs.length cap] 48)) := (Below.refl _ w).alloc (Nat.le_refl _) _
  have hl8 := gardenOk_len hg
  have hls1 : hs.length ≤ rs.length := by omega
  have hls2 : rs.length ≤ hs.length := by omega
  have Hbd := Lib.hid hbd
  have Hc := Lib.hid (show cutG rs x hs = (cutTo (rkG rs x hs) hs.length).1 by rw [cutG, hle])
  clear hbd hle
  go_enter Try.func95, Try.ntmps95
  go_wp2
  go_loopw [7, 8] (fun m i wr => ∃ k : Nat, k ≤ hs.length ∧ i = .int .i64 k ∧ ((m = .int .i64 (-1) ∧ cutTo (rkG rs x hs) k = (-1, -1)) ∨ ∃ j : Nat, j < k ∧ m = .int .i64 j ∧ cutTo (rkG rs x hs) k = ((j : Int), nth rs j)) ∧ Boxed wr w.heap.size 48 (.slice a rs.length cap) ∧ Below w.heap.size w wr) (fun _ i _ => hs.length - (intOf i).toNat)
  case atStart => exact ⟨0, Nat.zero_le _, rfl, .inl ⟨rfl, rfl⟩, Boxed.new _ _ _, hB0⟩
  case round =>
    obtain ⟨k, hk, rfl, hcut, hbx, hB⟩ := hrel
    have kb := hbx.cell
    by_cases hlt : k < hs.length
    · obtain ⟨b, off, rfl, hb, hc⟩ := (hI.below hB).at_ (k := k) (by omega)
      obtain ⟨b2, off2, rfl, hb2, hc2⟩ := (hT.below hB).at_ hlt
      have hcx := hc k (by omega)
      have hcy := hc2 k hlt
      have h5 := Hbd.out k
      have hr := gardenOk_nth hg (k := k) (by omega)
      by_cases hlow : nth hs k < x
      · have hd1 : decide (x ≤ nth hs k) = false := decide_eq_false (by omega)
        have hrk := rkG_low (rs := rs) hx hlow
        have Hn := Lib.hid (show cutTo (rkG rs x hs) (k + 1) = cutTo (rkG rs x hs) k from cutTo_no (by
          rw [hrk]; rcases hcut with ⟨_, h⟩ | ⟨j, hj, _, h⟩
          · rw [h]; simp
          · have := (cutTo_bd (rkG rs x hs) k).2.2; omega))
        clear hc hc2 hrk
        have Hcut := Lib.hid hcut
        clear hcut
        rcases Hcut.out with ⟨rfl, hcut⟩ | ⟨j, hj, rfl, hcut⟩
        · have Hcut2 := Lib.hid hcut
          clear hcut Hcut
          go_wp2
          go_quiet (fail)
          go_wp2
          go_roundw
          case rel => exact ⟨k + 1, by omega, by simp, .inl ⟨rfl, Hn.out.trans Hcut2.out⟩, boxed_drewN hbx _, below_drewN hB _⟩
          case measure => simp [intOf]; omega
        · have Hcut2 := Lib.hid hcut
          clear hcut Hcut
          go_wp2
          go_quiet (fail)
          go_wp2
          go_roundw
          case rel => exact ⟨k + 1, by omega, by simp, .inr ⟨j, by omega, rfl, Hn.out.trans Hcut2.out⟩, boxed_drewN hbx _, below_drewN hB _⟩
          case measure => simp [intOf]; omega
      · have hrk := rkG_high (rs := rs) hx hlow
        rcases hcut with ⟨rfl, hcut⟩ | ⟨j, hj, rfl, hcut⟩
        · have Hn := Lib.hid (show cutTo (rkG rs x hs) (k + 1) = ((k : Int), nth rs k) by rw [cutTo_yes (by rw [hcut, hrk]; show (-1 : Int) < _; omega), hrk])
          clear hc hc2 hrk hcut
          go_wp2
          go_quiet (fail)
          go_wp2
          go_roundw
          case rel => exact ⟨k + 1, by omega, by simp, .inr ⟨k, by omega, rfl, Hn.out⟩, boxed_drewN hbx _, below_drewN hB _⟩
          case measure => simp [intOf]; omega
        · have hcz := hc j (by omega)
          have hd2 : decide ((j : Int) < 0) = false := decide_eq_false (by omega)
          have hr2 := gardenOk_nth hg (k := j) (by omega)
          by_cases hgt : nth rs j < nth rs k
          · have Hn := Lib.hid (show cutTo (rkG rs x hs) (k + 1) = ((k : Int), nth rs k) by rw [cutTo_yes (by rw [hcut, hrk]; exact hgt), hrk])
            clear hc hc2 hrk hcut
            go_wp2
            go_quiet (fail)
            go_wp2
            go_roundw
            case rel => exact ⟨k + 1, by omega, by simp, .inr ⟨k, by omega, rfl, Hn.out⟩, boxed_drewN hbx _, below_drewN hB _⟩
            case measure => simp [intOf]; omega
          · have Hn := Lib.hid (show cutTo (rkG rs x hs) (k + 1) = ((j : Int), nth rs j) by rw [cutTo_no (by rw [hcut, hrk]; exact hgt), hcut])
            clear hc hc2 hrk hcut
            go_wp2
            go_quiet (fail)
            go_wp2
            go_roundw
            case rel => exact ⟨k + 1, by omega, by simp, .inr ⟨j, by omega, rfl, Hn.out⟩, boxed_drewN hbx _, below_drewN hB _⟩
            case measure => simp [intOf]; omega
    · obtain rfl : k = hs.length := by omega
      have Hcut := Lib.hid hcut
      clear hcut
      rcases Hcut.out with ⟨rfl, hcut⟩ | ⟨j, hj, rfl, hcut⟩
      · have Hcut2 := Lib.hid hcut
        clear hcut Hcut
        go_wp2
        go_ret
        exact ⟨ret_int (by rw [Hc.out, Hcut2.out]), hB⟩
      · have Hcut2 := Lib.hid hcut
        clear hcut Hcut
        go_wp2
        go_ret
        exact ⟨ret_int (by rw [Hc.out, Hcut2.out]), hB⟩

set_option maxRecDepth 100000 in
set_option maxHeartbeats 2000000 in
theorem l06Same_d (d : Bool) (sv tv : Value) (xs ys : List Int) (w : World) (hX : Ints w.heap.size w sv xs) (hY : Ints w.heap.size w tv ys) (hl : xs.length ≤ 8) (hle : xs.length = ys.length) (hd : decide (xs = ys) = d) :
    Calls Try.prog 131 #[sv, tv] w fun e w' => e = .returned (.bool d) ∧ Below w.heap.size w w' := by
  subst hd
  obtain ⟨a, cap, rfl⟩ := hX.shape
  obtain ⟨a2, cap2, rfl⟩ := hY.shape
  have Hl := Lib.hid hle
  have hl2 : xs.length ≤ ys.length := by omega
  clear hle
  go_enter Try.func131, Try.ntmps131
  go_wp2
  go_loopw [5] (fun i wr => ∃ k : Nat, k ≤ xs.length ∧ i = .int .i64 k ∧ (∀ j, j < k → nth xs j = nth ys j) ∧ Below w.heap.size w wr)
    (fun i _ => xs.length - (intOf i).toNat)
  case atStart => exact ⟨0, Nat.zero_le _, rfl, by simp, Below.refl _ _⟩
  case round =>
    obtain ⟨k, hk, rfl, hall, hB⟩ := hrel
    by_cases hlt : k < xs.length
    · obtain ⟨b, off, rfl, hb, hc⟩ := (hX.below hB).at_ hlt
      have hlt2 : k < ys.length := by omega
      obtain ⟨b2, off2, rfl, hb2, hc2⟩ := (hY.below hB).at_ hlt2
      have hcx := hc k hlt
      have hcy := hc2 k hlt2
      have hi1 : (k : Int) < (xs.length : Int) := by omega
      have hi2 : (k : Int) < (ys.length : Int) := by omega
      clear hc hc2
      by_cases he : nth xs k = nth ys k
      · have hq2 : (nth xs k != nth ys k) = false := by simp [he]
        have He := Lib.hid he
        clear he
        go_wp2
        go_quiet (fail)
        go_wp2
        go_roundw
        case rel => exact ⟨k + 1, by omega, by simp, fun j hj => by by_cases e : j = k; exact e ▸ He.out; exact hall j (by omega), below_drewN hB _⟩
        case measure => simp [intOf]; omega
      · have hq2 : (nth xs k != nth ys k) = true := by simpa using he
        go_wp2
        go_quiet (fail)
        go_wp2
        go_ret
        exact ⟨ret_bool (decide_eq_false (fun e => he (by rw [e]))).symm, below_drewN hB _⟩
    · obtain rfl : k = xs.length := by omega
      go_wp2
      go_ret
      exact ⟨ret_bool (decide_eq_true (ext_nth Hl.out hall)).symm, hB⟩

end Go.Proofs.Ytogpkaeodgokgaa
