/-
  The model's first open set that leads to a state that is left.
  Conditions: at most 8 tasks.
-/
import Derived.Test.YtieobjoijalijaaCss
namespace Go.Proofs.Ytieobjoijalijaa
open Go.RowKit Go.Shelf
attribute [local go_sem] Oper.semAt_some

/-- an open set that leads to a state that is left -/
def GoS (zs : List Int) (m : Int) (bs : List Bool) (st : List Int) (s : Nat) : Prop := SetOf zs.length m s ∧ OpnS st s ∧ bAt bs (numL zs (stepS zs st s)) = true
def FirstPost (w : World) (zs : List Int) (m : Int) (bs : List Bool) (st : List Int) (e : Ending) (w' : World) : Prop :=
  Below w.heap.size w w' ∧ ((∃ s : Nat, GoS zs m bs st s ∧ (∀ t, t < s → ¬ GoS zs m bs st t) ∧ e = .returned (.tuple #[.int .i64 (s : Int), .int .i64 (numL zs (stepS zs st s)), .bool true])) ∨
    ((∀ s, ¬ GoS zs m bs st s) ∧ e = .returned (.tuple #[.int .i64 0, .int .i64 0, .bool false])))

theorem OwnB.of_below {B g n cap : Nat} {w W : World} {bs : List Bool} (h : OwnB B w (.slice (some ⟨g, 0, none⟩) n cap) bs) (hb : Below w.heap.size w W) : OwnB B W (.slice (some ⟨g, 0, none⟩) n cap) bs := h.below hb
set_option maxRecDepth 100000 in
set_option maxHeartbeats 8000000 in
theorem l08First_c (c0 : Value) (zs : List Int) (c1 : Value) (sl : List Int) (m : Int) (g N : Nat) (bs : List Bool) (c3 : Value) (st : List Int) (w : World) (hI : Ints w.heap.size w c0 zs) (ht : tasksOk zs = true) (hsl : setsTo m (2 ^ zs.length) = sl) (hJ : Ints w.heap.size w c1 sl)
    (hL : OwnB 0 w (.slice (some ⟨g, 0, none⟩) N N) bs) (hlen : bs.length = N) (hcn : cntN zs = N) (hT : Ints w.heap.size w c3 st) (hs : IsSt zs st) :
    Calls Try.prog 84 #[.agg #[c0], c1, .slice (some ⟨g, 0, none⟩) N N, c3] w (FirstPost w zs m bs st) := by
  obtain ⟨a, cap, rfl⟩ := hI.shape
  obtain ⟨a1, cap1, rfl⟩ := hJ.shape
  obtain ⟨a3, cap3, rfl⟩ := hT.shape
  have hfw : Try.prog.follows Departure.mixedOrders = true := by kernel_rfl
  have hp := pos_of ht
  have hl8 := (tasksOk_len ht).2
  have hB0 : Below w.heap.size w (w.alloc (.cells #[.slice a zs.length cap] 28)) := (Below.refl _ w).alloc (Nat.le_refl _) _
  have b0 : Boxed (w.alloc (.cells #[.slice a zs.length cap] 28)) w.heap.size 28 (.slice a zs.length cap) := Boxed.new _ _ _
  have hsl8 : sl.length ≤ 256 := by rw [← hsl]; exact Nat.le_trans (setsTo_len _ _) (Nat.le_trans (Nat.pow_le_pow_right (by decide) hl8) (by decide : 2 ^ 8 ≤ 256))
  go_enter Try.func84, Try.ntmps84
  go_wp2
  go_loopw [11] (fun i wr => ∃ k : Nat, k ≤ sl.length ∧ i = .int .i64 k ∧ (∀ q, q < k → ∀ t : Nat, nth sl q = (t : Int) → ¬ GoS zs m bs st t) ∧ Boxed wr w.heap.size 28 (.slice a zs.length cap) ∧ Below w.heap.size w wr) (fun i _ => sl.length - (intOf i).toNat)
  case atStart => exact ⟨0, Nat.zero_le _, rfl, by simp, b0, hB0⟩
  case round =>
    obtain ⟨k, hk, rfl, hno, bT, hB⟩ := hrel
    clear b0 hB0
    by_cases hlt : k < sl.length
    · obtain ⟨t, hnt, htN, htp⟩ := nth_setsTo (m := m) (N := 2 ^ zs.length) (q := k) (by rw [hsl]; exact hlt)
      rw [hsl] at hnt
      have ht8 : t < 256 := Nat.lt_of_lt_of_le htN (Nat.le_trans (Nat.pow_le_pow_right (by decide) hl8) (by decide : 2 ^ 8 ≤ 256))
      obtain ⟨b1, off1, rfl, hb1, hc1⟩ := hJ.at_ hlt
      have hcx := hc1 k hlt
      rw [hnt] at hcx
      have hki : (k : Int) < (sl.length : Int) := by omega
      have hkb : (k : Int) < 256 := by omega
      have hnext : ¬ GoS zs m bs st t → ∀ q, q < k + 1 → ∀ t : Nat, nth sl q = (t : Int) → ¬ GoS zs m bs st t := fun hg q hq u hu => by
        by_cases e : q = k
        · subst e
          have : u = t := by rw [hnt] at hu; omega
          subst this; exact hg
        · exact hno q (by omega) u hu
      have hleast : ∀ u, u < t → ¬ GoS zs m bs st u := fun u hu hg => by
        obtain ⟨q', hq', e'⟩ := sets_before (m := m) (N := 2 ^ zs.length) (q := k) (t := u) (by rw [hsl]; exact hlt) (by rw [hsl, hnt]; exact_mod_cast hu) hg.1.2
        rw [hsl] at e'
        exact hno q' hq' u e' hg
      have Hno := Lib.hid hnext
      have Hle := Lib.hid hleast
      clear hnext hleast hno hc1
      go_wp2_with fail
      refine wp_region_held_drew (S := fun w' => Boxed w' w.heap.size 28 (.slice a zs.length cap) ∧ Below w.heap.size w w') hfw ⟨bT, hB.drew⟩ ?_
      intro hS0
      obtain ⟨Wd, hWd⟩ : ∃ Wd, wr.drew = Wd := ⟨_, rfl⟩
      rw [hWd] at hS0 ⊢
      clear hWd bT hB
      refine wpAnyH_take (i := 0) (v := ?vr10) rfl (by kernel_rfl) (by kernel_rfl) (by kernel_rfl) (fun _ _ _ h => h) (.inl ⟨by rfl, ?yr10⟩) hS0 ?_
      case yr10 =>
        intro w' hS
        (have k1 := hS.1.cell; have k2 := (hS.2.cell (p := ⟨b1, off1 + k, none⟩) hb1).trans hcx; clear hS)
        go_simp
        try with_reducible rfl
      refine wpAnyH_take (i := 1) (v := ?vr11) rfl (by kernel_rfl) (by kernel_rfl) (by kernel_rfl) (fun _ _ _ h => h) (.inl ⟨by rfl, ?yr11⟩) hS0 ?_
      case yr11 =>
        intro w' hS
        (have k1 := hS.1.cell; have k2 := (hS.2.cell (p := ⟨b1, off1 + k, none⟩) hb1).trans hcx; clear hS)
        go_simp
        try with_reducible rfl
      refine wpAnyH_take (i := 2) (v := ?vr12) rfl (by kernel_rfl) (by kernel_rfl) (by kernel_rfl) (fun _ _ _ h => h) (.inl ⟨by rfl, ?yr12⟩) hS0 ?_
      case yr12 =>
        intro w' hS
        (have k1 := hS.1.cell; have k2 := (hS.2.cell (p := ⟨b1, off1 + k, none⟩) hb1).trans hcx; clear hS)
        go_simp
        try with_reducible rfl
      refine wpAnyH_take (i := 3) (v := ?vr13) rfl (by kernel_rfl) (by kernel_rfl) (by kernel_rfl) (fun _ _ _ h => h) (.inl ⟨by rfl, ?yr13⟩) hS0 ?_
      case yr13 =>
        intro w' hS
        (have k1 := hS.1.cell; have k2 := (hS.2.cell (p := ⟨b1, off1 + k, none⟩) hb1).trans hcx; clear hS)
        go_simp
        try with_reducible rfl
      refine wpAnyH_take (i := 4) (v := ?vr14) rfl (by kernel_rfl) (by kernel_rfl) (by kernel_rfl) (fun _ _ _ h => h) (.inl ⟨by rfl, ?yr14⟩) hS0 ?_
      case yr14 =>
        intro w' hS
        (have k1 := hS.1.cell; have k2 := (hS.2.cell (p := ⟨b1, off1 + k, none⟩) hb1).trans hcx; clear hS)
        go_simp
        try with_reducible rfl
      refine wpAnyH_take (i := 5) (v := ?vr15) rfl (by kernel_rfl) (by kernel_rfl) (by kernel_rfl) (fun _ _ _ h => h) (.inl ⟨by rfl, ?yr15⟩) hS0 ?_
      case yr15 =>
        intro w' hS
        (have k1 := hS.1.cell; have k2 := (hS.2.cell (p := ⟨b1, off1 + k, none⟩) hb1).trans hcx; clear hS)
        go_simp
        try with_reducible rfl
      refine wpAnyH_ready (rs := [6]) (by kernel_rfl) (by simp) ?_
      refine AllReadyH.cons rfl (fun K' hK' => ?_) AllReadyH.nil
      rw [if_pos (by rfl)]
      go_simp
      refine (l08Step_c _ zs _ st t Wd (hI.later hS0.2) ht (hT.later hS0.2) hs ht8).mono ?_
      rintro e W5 (⟨hop, v, rfl, hoV, hb5⟩ | ⟨hop, rfl, hb5⟩)
      · have hS5 : Boxed W5 w.heap.size 28 (.slice a zs.length cap) ∧ Below w.heap.size w W5 := ⟨boxed_later hS0.1 hb5, hS0.2.trans (hb5.mono hS0.2.size)⟩
        obtain ⟨aV, cV, rfl⟩ := hoV.ints.shape
        refine hK'.out _ _ hS5 fun hS1 => ?_
        clear hK' hS1 hS0
        refine wpAnyH_take (i := 7) (v := ?vr27) rfl (by kernel_rfl) (by kernel_rfl) (by kernel_rfl) (fun _ _ _ h => h) (.inl ⟨by rfl, ?yr27⟩) hS5 ?_
        case yr27 =>
          intro w' hS
          (clear hS)
          go_simp
          try with_reducible rfl
        refine wpAnyH_take (i := 8) (v := ?vr28) rfl (by kernel_rfl) (by kernel_rfl) (by kernel_rfl) (fun _ _ _ h => h) (.inl ⟨by rfl, ?yr28⟩) hS5 ?_
        case yr28 =>
          intro w' hS
          (clear hS)
          go_simp
          try with_reducible rfl
        refine wpAnyH_take (i := 9) (v := ?vr29) rfl (by kernel_rfl) (by kernel_rfl) (by kernel_rfl) (fun _ _ _ h => h) (.inl ⟨by rfl, ?yr29⟩) hS5 ?_
        case yr29 =>
          intro w' hS
          (clear hS)
          go_simp
          try with_reducible rfl
        refine wpAnyH_take (i := 10) (v := ?vr210) rfl (by kernel_rfl) (by kernel_rfl) (by kernel_rfl) (fun _ _ _ h => h) (.inl ⟨by rfl, ?yr210⟩) hS5 ?_
        case yr210 =>
          intro w' hS
          (clear hS)
          go_simp
          try with_reducible rfl
        refine wpAnyH_take (i := 11) (v := ?vr211) rfl (by kernel_rfl) (by kernel_rfl) (by kernel_rfl) (fun _ _ _ h => h) (.inl ⟨by rfl, ?yr211⟩) hS5 ?_
        case yr211 =>
          intro w' hS
          (clear hS)
          go_simp
          try with_reducible rfl
        refine wpAnyH_done (by kernel_rfl) ?_ _
        have hss : IsSt zs (stepS zs st t) := hs.stepS hop
        obtain ⟨mm, hm1, hm2, hm3⟩ := num_nat hp hss
        rw [hcn] at hm2
        obtain ⟨ys, hys⟩ : ∃ ys, stepS zs st t = ys := ⟨_, rfl⟩
        have hyl : ys.length ≤ 8 := by rw [← hys, stepS_length, hs.1]; exact hl8
        rw [hys] at hoV hss hm1 ⊢
        have hoI := hoV.ints
        have k5 := hS5.1.cell
        have Hys := Lib.hid hys
        clear hys hm3 hoV
        go_wp2_with fail
        refine (l02Number_c _ zs _ ys _ (hI.later hS5.2) ht hoI hss).mono ?_
        rintro e W6 ⟨rfl, hb6⟩
        have hB6 := hS5.2.trans (hb6.mono hS5.2.size)
        have bT6 := boxed_later hS5.1 hb6
        have hcm := ho_cell (hL.of_below hB6) hlen hm2
        have kx := (hB6.cell (p := ⟨b1, off1 + k, none⟩) hb1).trans hcx
        rw [hm1]
        have Hm1 := Lib.hid hm1
        have hmi : (mm : Int) < (N : Int) := by omega
        clear hm1 hS5 hb6 hoI k5
        cases hbm : bAt bs (mm : Int)
        · rw [hbm] at hcm
          have hng : ¬ GoS zs m bs st t := by
            rintro ⟨_, _, h⟩
            rw [Hys.out, Hm1.out, hbm] at h
            simp at h
          clear hbm
          go_wp2_with fail
          go_roundw
          case rel => exact ⟨k + 1, by omega, by simp, Hno.out hng, bT6, hB6⟩
          case measure => simp [intOf]; omega
        · rw [hbm] at hcm
          have hgo : GoS zs m bs st t := ⟨⟨htN, htp⟩, hop, by rw [Hys.out, Hm1.out, hbm]⟩
          clear hbm
          go_wp2_with fail
          go_ret3
          exact ⟨hB6, .inl ⟨t, hgo, Hle.out, by rw [Hys.out, Hm1.out]; rfl⟩⟩
      · have hS5 : Boxed W5 w.heap.size 28 (.slice a zs.length cap) ∧ Below w.heap.size w W5 := ⟨boxed_later hS0.1 hb5, hS0.2.trans (hb5.mono hS0.2.size)⟩
        refine hK'.out _ _ hS5 fun hS1 => ?_
        clear hK' hS1 hS0
        refine wpAnyH_take (i := 7) (v := ?vr37) rfl (by kernel_rfl) (by kernel_rfl) (by kernel_rfl) (fun _ _ _ h => h) (.inl ⟨by rfl, ?yr37⟩) hS5 ?_
        case yr37 =>
          intro w' hS
          (clear hS)
          go_simp
          try with_reducible rfl
        refine wpAnyH_take (i := 8) (v := ?vr38) rfl (by kernel_rfl) (by kernel_rfl) (by kernel_rfl) (fun _ _ _ h => h) (.inl ⟨by rfl, ?yr38⟩) hS5 ?_
        case yr38 =>
          intro w' hS
          (clear hS)
          go_simp
          try with_reducible rfl
        refine wpAnyH_take (i := 9) (v := ?vr39) rfl (by kernel_rfl) (by kernel_rfl) (by kernel_rfl) (fun _ _ _ h => h) (.inl ⟨by rfl, ?yr39⟩) hS5 ?_
        case yr39 =>
          intro w' hS
          (clear hS)
          go_simp
          try with_reducible rfl
        refine wpAnyH_take (i := 10) (v := ?vr310) rfl (by kernel_rfl) (by kernel_rfl) (by kernel_rfl) (fun _ _ _ h => h) (.inl ⟨by rfl, ?yr310⟩) hS5 ?_
        case yr310 =>
          intro w' hS
          (clear hS)
          go_simp
          try with_reducible rfl
        refine wpAnyH_take (i := 11) (v := ?vr311) rfl (by kernel_rfl) (by kernel_rfl) (by kernel_rfl) (fun _ _ _ h => h) (.inl ⟨by rfl, ?yr311⟩) hS5 ?_
        case yr311 =>
          intro w' hS
          (clear hS)
          go_simp
          try with_reducible rfl
        refine wpAnyH_done (by kernel_rfl) ?_ _
        have hng : ¬ GoS zs m bs st t := fun h => hop h.2.1
        clear hop
        go_wp2_with fail
        go_roundw
        case rel => exact ⟨k + 1, by omega, by simp, Hno.out hng, hS5.1, hS5.2⟩
        case measure => simp [intOf]; omega
    · have hnone : ∀ s, ¬ GoS zs m bs st s := fun s hg => by
        obtain ⟨q', hq', e'⟩ := setsTo_idx hg.1
        rw [hsl] at hq' e'
        exact hno q' (by omega) s e' hg
      clear hno
      go_wp2_with fail
      go_ret3
      exact ⟨hB, .inr ⟨hnone, rfl⟩⟩

end Go.Proofs.Ytieobjoijalijaa
