/-
  Places of a ground (the model's l09Places), AreNear of program and model.
  Conditions: none.
-/
import Derived.Test.YtieobjoijalijaaGnI
namespace Go.Proofs.Ytieobjoijalijaa
open Go.RowKit Go.Shelf
attribute [local go_sem] Oper.semAt_some

/-- the code of a ground and places -/
def plcC (p r : Int) (zs : List Int) : Int := if gOk p r then (if zs.all (fun z => inB z 0 (p - 1)) then 0 else 2) else 1

set_option maxRecDepth 100000 in
set_option maxHeartbeats 4000000 in
theorem l09Places_c (p r : Int) (sv : Value) (zs : List Int) (w : World) (hI : Ints w.heap.size w sv zs) (hl : zs.length ≤ 4) :
    Calls Try.prog 102 #[.agg #[.int .i64 p, .int .i64 r], sv] w fun e w' => e = .returned (.int .i64 (plcC p r zs)) ∧ Below w.heap.size w w' := by
  obtain ⟨a, cap, rfl⟩ := hI.shape
  have hfw : Try.prog.follows Departure.mixedOrders = true := by kernel_rfl
  have b0 := Box2.new w 56 (.int .i64 p) (.int .i64 r)
  have c0 := b0.c0
  have c1 := b0.c1
  have hB0 : Below w.heap.size w (w.alloc (.cells #[.int .i64 p, .int .i64 r] 56)) := (Below.refl _ w).alloc (Nat.le_refl _) _
  have hs0 : (w.alloc (.cells #[.int .i64 p, .int .i64 r] 56)).heap.size = w.heap.size + 1 := by simp
  obtain ⟨W0, hW0⟩ : ∃ W0, (w.alloc (.cells #[.int .i64 p, .int .i64 r] 56)) = W0 := ⟨_, rfl⟩
  rw [hW0] at b0 c0 c1 hB0 hs0
  have HB0 := Lib.hid b0
  clear b0
  cases hg : gOk p r
  · have Hg := Lib.hid hg
    have Hc := Lib.hid (show plcC p r zs = 1 by unfold plcC; rw [hg]; rfl)
    clear hg
    go_enter Try.func102, Try.ntmps102
    go_wp2_with fail
    refine (l09Is_c p r _).mono ?_
    rintro e w1 ⟨rfl, hb⟩
    rw [Hg.out]
    go_wp2
    go_ret
    exact ⟨ret_int (by rw [Hc.out]), hB0.trans (hb.mono hB0.size)⟩
  · have Hg := Lib.hid hg
    have hp : 1 ≤ p ∧ p ≤ 6 := by
      obtain ⟨n, m, rfl, _, h1, h2, _⟩ := gOk_nat hg
      omega
    have hpw : IntKind.i64.wrap (p - 1) = p - 1 := by rw [IntKind.wrap_i64]; omega
    have Hc := Lib.hid (show plcC p r zs = if zs.all (fun z => inB z 0 (p - 1)) then 0 else 2 by unfold plcC; rw [hg]; rfl)
    clear hg
    go_enter Try.func102, Try.ntmps102
    go_wp2_with fail
    refine (l09Is_c p r _).mono ?_
    rintro e w1 ⟨rfl, hb⟩
    rw [Hg.out]
    have b1 := HB0.out.later hb
    have hB1 := hB0.trans (hb.mono hB0.size)
    clear c0 c1 hB0 hs0 hb hW0
    go_wp2
    go_loopw [5] (fun q wr => ∃ k : Nat, k ≤ zs.length ∧ q = .int .i64 k ∧ (∀ j, j < k → inB (nth zs j) 0 (p - 1) = true) ∧ Box2 wr w.heap.size 56 (.int .i64 p) (.int .i64 r) ∧ Below w.heap.size w wr) (fun q _ => zs.length - (intOf q).toNat)
    case atStart => exact ⟨0, Nat.zero_le _, rfl, fun j hj => by omega, b1, hB1⟩
    case round =>
      obtain ⟨k, hk, rfl, hall, bG, hB⟩ := hrel
      by_cases hlt : k < zs.length
      · have hki : (k : Int) < (zs.length : Int) := by omega
        obtain ⟨b, off, rfl, hb0, hcell⟩ := (hI.below hB).at_ hlt
        have e1 : wr.drew.cell? ⟨b, off + k, none⟩ = some (.int .i64 (nth zs k)) := hcell k hlt
        have g0 : wr.drew.cell? ⟨w.heap.size, 0, none⟩ = some (.int .i64 p) := bG.c0
        have HB := Lib.hid hB
        have HG := Lib.hid bG
        have Hall := Lib.hid hall
        have HI := Lib.hid hI
        clear hB bG hall hcell hI
        cases hin : inB (nth zs k) 0 (p - 1)
        · have Hf := Lib.hid (show zs.all (fun z => inB z 0 (p - 1)) = false from all_false_of (p := fun z => inB z 0 (p - 1)) hlt hin)
          have Hin := Lib.hid hin
          clear hin
          go_wp2_with fail
          refine wp_region_held_drew (S := fun w' => w' = wr.drew) hfw rfl ?_
          intro hS0
          refine wpAnyH_take (i := 0) (v := ?va10) rfl (by kernel_rfl) (by kernel_rfl) (by kernel_rfl) (fun _ _ _ h => h) (.inl ⟨by first | kernel_rfl | rfl, ?ya10⟩) rfl ?_
          case ya10 =>
            intro w' hS
            (subst hS)
            go_simp
            try with_reducible rfl
          refine wpAnyH_take (i := 1) (v := ?va11) rfl (by kernel_rfl) (by kernel_rfl) (by kernel_rfl) (fun _ _ _ h => h) (.inl ⟨by first | kernel_rfl | rfl, ?ya11⟩) rfl ?_
          case ya11 =>
            intro w' hS
            (subst hS)
            go_simp
            try with_reducible rfl
          refine wpAnyH_take (i := 2) (v := ?va12) rfl (by kernel_rfl) (by kernel_rfl) (by kernel_rfl) (fun _ _ _ h => h) (.inl ⟨by first | kernel_rfl | rfl, ?ya12⟩) rfl ?_
          case ya12 =>
            intro w' hS
            (subst hS)
            go_simp
            try with_reducible rfl
          refine wpAnyH_take (i := 3) (v := ?va13) rfl (by kernel_rfl) (by kernel_rfl) (by kernel_rfl) (fun _ _ _ h => h) (.inl ⟨by first | kernel_rfl | rfl, ?ya13⟩) rfl ?_
          case ya13 =>
            intro w' hS
            (subst hS)
            go_simp
            try with_reducible rfl
          refine wpAnyH_take (i := 4) (v := ?va14) rfl (by kernel_rfl) (by kernel_rfl) (by kernel_rfl) (fun _ _ _ h => h) (.inl ⟨by first | kernel_rfl | rfl, ?ya14⟩) rfl ?_
          case ya14 =>
            intro w' hS
            (subst hS)
            go_simp
            try with_reducible rfl
          refine wpAnyH_take (i := 5) (v := ?va15) rfl (by kernel_rfl) (by kernel_rfl) (by kernel_rfl) (fun _ _ _ h => h) (.inl ⟨by first | kernel_rfl | rfl, ?ya15⟩) rfl ?_
          case ya15 =>
            intro w' hS
            (subst hS)
            go_simp
            try with_reducible rfl
          try simp only [Act.put, List.getElem_toArray, List.getElem_cons_zero, List.getElem_cons_succ, List.setIfInBounds_toArray, List.set_cons_zero, List.set_cons_succ]
          refine wpAnyH_take (i := 6) (v := (.int .i64 (p - 1))) rfl (by kernel_rfl) (by kernel_rfl) (by kernel_rfl) (fun _ _ _ h => h) (.inl ⟨by first | kernel_rfl | rfl, ?ya26⟩) rfl ?_
          case ya26 =>
            intro w' hS
            (subst hS)
            go_simp
            first | done | (simp; done) | (simp; omega) | omega | (simp [*]; done)
          refine wpAnyH_ready (rs := [7]) (by kernel_rfl) (by simp) ?_
          refine AllReadyH.cons rfl (fun K' hK' => ?_) AllReadyH.nil
          rw [if_pos (by first | kernel_rfl | rfl)]
          go_simp
          refine (l01In_d false _ _ _ _ Hin.out).mono ?_
          rintro e w2 ⟨rfl, rfl⟩
          refine hK'.out _ _ rfl fun hS1 => ?_
          refine wpAnyH_take (i := 8) (v := ?va38) rfl (by kernel_rfl) (by kernel_rfl) (by kernel_rfl) (fun _ _ _ h => h) (.inl ⟨by first | kernel_rfl | rfl, ?ya38⟩) rfl ?_
          case ya38 =>
            intro w' hS
            (subst hS)
            go_simp
            try with_reducible rfl
          try simp only [Act.put, List.getElem_toArray, List.getElem_cons_zero, List.getElem_cons_succ, List.setIfInBounds_toArray, List.set_cons_zero, List.set_cons_succ]
          refine wpAnyH_done (by kernel_rfl) ?_ _
          go_wp2
          go_ret
          exact ⟨ret_int (by rw [Hc.out, Hf.out]; rfl), HB.out.drew⟩
        · have Hin := Lib.hid hin
          clear hin
          go_wp2_with fail
          refine wp_region_held_drew (S := fun w' => w' = wr.drew) hfw rfl ?_
          intro hS0
          refine wpAnyH_take (i := 0) (v := ?vb10) rfl (by kernel_rfl) (by kernel_rfl) (by kernel_rfl) (fun _ _ _ h => h) (.inl ⟨by first | kernel_rfl | rfl, ?yb10⟩) rfl ?_
          case yb10 =>
            intro w' hS
            (subst hS)
            go_simp
            try with_reducible rfl
          refine wpAnyH_take (i := 1) (v := ?vb11) rfl (by kernel_rfl) (by kernel_rfl) (by kernel_rfl) (fun _ _ _ h => h) (.inl ⟨by first | kernel_rfl | rfl, ?yb11⟩) rfl ?_
          case yb11 =>
            intro w' hS
            (subst hS)
            go_simp
            try with_reducible rfl
          refine wpAnyH_take (i := 2) (v := ?vb12) rfl (by kernel_rfl) (by kernel_rfl) (by kernel_rfl) (fun _ _ _ h => h) (.inl ⟨by first | kernel_rfl | rfl, ?yb12⟩) rfl ?_
          case yb12 =>
            intro w' hS
            (subst hS)
            go_simp
            try with_reducible rfl
          refine wpAnyH_take (i := 3) (v := ?vb13) rfl (by kernel_rfl) (by kernel_rfl) (by kernel_rfl) (fun _ _ _ h => h) (.inl ⟨by first | kernel_rfl | rfl, ?yb13⟩) rfl ?_
          case yb13 =>
            intro w' hS
            (subst hS)
            go_simp
            try with_reducible rfl
          refine wpAnyH_take (i := 4) (v := ?vb14) rfl (by kernel_rfl) (by kernel_rfl) (by kernel_rfl) (fun _ _ _ h => h) (.inl ⟨by first | kernel_rfl | rfl, ?yb14⟩) rfl ?_
          case yb14 =>
            intro w' hS
            (subst hS)
            go_simp
            try with_reducible rfl
          refine wpAnyH_take (i := 5) (v := ?vb15) rfl (by kernel_rfl) (by kernel_rfl) (by kernel_rfl) (fun _ _ _ h => h) (.inl ⟨by first | kernel_rfl | rfl, ?yb15⟩) rfl ?_
          case yb15 =>
            intro w' hS
            (subst hS)
            go_simp
            try with_reducible rfl
          try simp only [Act.put, List.getElem_toArray, List.getElem_cons_zero, List.getElem_cons_succ, List.setIfInBounds_toArray, List.set_cons_zero, List.set_cons_succ]
          refine wpAnyH_take (i := 6) (v := (.int .i64 (p - 1))) rfl (by kernel_rfl) (by kernel_rfl) (by kernel_rfl) (fun _ _ _ h => h) (.inl ⟨by first | kernel_rfl | rfl, ?yb26⟩) rfl ?_
          case yb26 =>
            intro w' hS
            (subst hS)
            go_simp
            first | done | (simp; done) | (simp; omega) | omega | (simp [*]; done)
          refine wpAnyH_ready (rs := [7]) (by kernel_rfl) (by simp) ?_
          refine AllReadyH.cons rfl (fun K' hK' => ?_) AllReadyH.nil
          rw [if_pos (by first | kernel_rfl | rfl)]
          go_simp
          refine (l01In_d true _ _ _ _ Hin.out).mono ?_
          rintro e w2 ⟨rfl, rfl⟩
          refine hK'.out _ _ rfl fun hS1 => ?_
          refine wpAnyH_take (i := 8) (v := (.bool false)) rfl (by kernel_rfl) (by kernel_rfl) (by kernel_rfl) (fun _ _ _ h => h) (.inl ⟨by first | kernel_rfl | rfl, ?yb38⟩) rfl ?_
          case yb38 =>
            intro w' hS
            (subst hS)
            go_simp
            first | done | (simp; done) | (simp; omega) | omega | (simp [*]; done)
          refine wpAnyH_done (by kernel_rfl) ?_ _
          go_wp2
          go_roundw
          case rel => exact ⟨k + 1, by omega, by simp, fun j hj => (by
            by_cases h : j = k
            · subst h; exact Hin.out
            · exact Hall.out j (by omega)), HG.out, HB.out.drew⟩
          case measure => simp [intOf]; omega
      · obtain rfl : k = zs.length := by omega
        have Hf := Lib.hid (show zs.all (fun z => inB z 0 (p - 1)) = true from all_true_of (p := fun z => inB z 0 (p - 1)) hall)
        clear hall
        go_wp2
        go_ret
        exact ⟨ret_int (by rw [Hc.out, Hf.out]; rfl), hB⟩

/-! ### AreNear -/
def anC (p r i j : Int) : Int := plcC p r [i, j]
def anB (p r i j : Int) : Bool := anC p r i j == 0 && nearB r.toNat i.toNat j.toNat
theorem an_bad {p r : Int} (i j : Int) (h : gOk p r = false) : anC p r i j = 1 ∧ anB p r i j = false := by
  have : anC p r i j = 1 := by unfold anC plcC; rw [h]; rfl
  exact ⟨this, by unfold anB; rw [this]; rfl⟩
theorem an_out {p r i j : Int} (h : gOk p r = true) (h2 : inB i 0 (p - 1) = false ∨ inB j 0 (p - 1) = false) : anC p r i j = 2 ∧ anB p r i j = false := by
  have : anC p r i j = 2 := by unfold anC plcC; rw [h]; rcases h2 with h2 | h2 <;> simp [h2]
  exact ⟨this, by unfold anB; rw [this]; rfl⟩
theorem an_in {n m i j : Nat} (h : gOk n m = true) (h1 : i < n) (h2 : j < n) : anC n m i j = 0 ∧ anB n m i j = nearB m i j := by
  have a1 : inB (i : Int) 0 ((n : Int) - 1) = true := inB_true.2 ⟨by omega, by omega⟩
  have a2 : inB (j : Int) 0 ((n : Int) - 1) = true := inB_true.2 ⟨by omega, by omega⟩
  have : anC n m i j = 0 := by unfold anC plcC; rw [h]; simp [a1, a2]
  exact ⟨this, by unfold anB; rw [this]; simp⟩

set_option maxRecDepth 100000 in
set_option maxHeartbeats 4000000 in
theorem i_AreNear (p r i j : Int) (w : World) (_hp : I64 p) (_hr : I64 r) (_hi : I64 i) (_hj : I64 j) :
    Calls Try.prog 51 #[.agg #[.int .i64 p, .int .i64 r], .int .i64 i, .int .i64 j] w fun e w' => e = .returned (.tuple #[.bool (anB p r i j), .int .i64 (anC p r i j)]) ∧ Below w.heap.size w w' := by
  have b0 := Box2.new w 56 (.int .i64 p) (.int .i64 r)
  have c0 := b0.c0
  have c1 := b0.c1
  have hB0 : Below w.heap.size w (w.alloc (.cells #[.int .i64 p, .int .i64 r] 56)) := (Below.refl _ w).alloc (Nat.le_refl _) _
  obtain ⟨W0, hW0⟩ : ∃ W0, (w.alloc (.cells #[.int .i64 p, .int .i64 r] 56)) = W0 := ⟨_, rfl⟩
  rw [hW0] at b0 c0 c1 hB0
  have HB0 := Lib.hid b0
  clear b0
  cases hg : gOk p r
  · have Hg := Lib.hid hg
    have Ha := Lib.hid (an_bad i j hg)
    clear hg
    go_enter Try.func51, Try.ntmps51
    go_wp2_with fail
    refine (isGround_c p r _).mono ?_
    rintro e w1 ⟨rfl, hb⟩
    rw [Hg.out]
    go_wp2
    go_ret2
    exact ⟨by rw [Ha.out.1, Ha.out.2]; rfl, hB0.trans (hb.mono hB0.size)⟩
  have Hg := Lib.hid hg
  cases hi1 : inB i 0 (p - 1)
  · have Hi1 := Lib.hid hi1
    have Ha := Lib.hid (an_out hg (j := j) (.inl hi1))
    clear hg hi1
    go_enter Try.func51, Try.ntmps51
    go_wp2_with fail
    refine (isGround_c p r _).mono ?_
    rintro e w1 ⟨rfl, hb⟩
    rw [Hg.out]
    have b1 := HB0.out.later hb
    replace c0 := b1.c0
    replace c1 := b1.c1
    go_wp2_with fail
    refine (isPlaceOf_c p r i _).mono ?_
    rintro e w2 ⟨rfl, hb2⟩
    rw [Hi1.out]
    go_wp2
    go_ret2
    exact ⟨by rw [Ha.out.1, Ha.out.2]; rfl, (hB0.trans (hb.mono hB0.size)).trans (hb2.mono (hB0.trans (hb.mono hB0.size)).size)⟩
  have Hi1 := Lib.hid hi1
  cases hj1 : inB j 0 (p - 1)
  · have Hj1 := Lib.hid hj1
    have Ha := Lib.hid (an_out hg (i := i) (.inr hj1))
    clear hg hi1 hj1
    go_enter Try.func51, Try.ntmps51
    go_wp2_with fail
    refine (isGround_c p r _).mono ?_
    rintro e w1 ⟨rfl, hb⟩
    rw [Hg.out]
    have b1 := HB0.out.later hb
    have hB1 := hB0.trans (hb.mono hB0.size)
    replace c0 := b1.c0
    replace c1 := b1.c1
    clear hb hB0
    go_wp2_with fail
    refine (isPlaceOf_c p r i _).mono ?_
    rintro e w2 ⟨rfl, hb2⟩
    rw [Hi1.out]
    replace b1 := b1.later hb2
    replace hB1 := hB1.trans (hb2.mono hB1.size)
    replace c0 := b1.c0
    replace c1 := b1.c1
    clear hb2
    go_wp2_with fail
    refine (isPlaceOf_c p r j _).mono ?_
    rintro e w3 ⟨rfl, hb2⟩
    rw [Hj1.out]
    replace hB1 := hB1.trans (hb2.mono hB1.size)
    clear hb2
    go_wp2
    go_ret2
    exact ⟨by rw [Ha.out.1, Ha.out.2]; rfl, hB1⟩
  have Hj1 := Lib.hid hj1
  obtain ⟨n, m, rfl, rfl, hn1, hn6, hm⟩ := gOk_nat hg
  have q1 := inB_true.1 hi1
  have q2 := inB_true.1 hj1
  obtain ⟨i, rfl⟩ : ∃ i' : Nat, i = i' := ⟨i.toNat, by omega⟩
  obtain ⟨j, rfl⟩ : ∃ i' : Nat, j = i' := ⟨j.toNat, by omega⟩
  have hmm : m < 32768 := Nat.lt_of_lt_of_le hm (gTop_le n hn6)
  have Ha := Lib.hid (an_in hg (show i < n by omega) (show j < n by omega))
  have hi6 : i < 6 := by omega
  have hj6 : j < 6 := by omega
  clear hg hi1 hj1 q1 q2 _hp _hr _hi _hj hn1 hm
  go_enter Try.func51, Try.ntmps51
  go_wp2_with fail
  refine (isGround_c n m _).mono ?_
  rintro e w1 ⟨rfl, hb⟩
  rw [Hg.out]
  have b1 := HB0.out.later hb
  have hB1 := hB0.trans (hb.mono hB0.size)
  replace c0 := b1.c0
  replace c1 := b1.c1
  clear hb hB0
  go_wp2_with fail
  refine (isPlaceOf_c n m i _).mono ?_
  rintro e w2 ⟨rfl, hb2⟩
  rw [Hi1.out]
  replace b1 := b1.later hb2
  replace hB1 := hB1.trans (hb2.mono hB1.size)
  replace c0 := b1.c0
  replace c1 := b1.c1
  clear hb2
  go_wp2_with fail
  refine (isPlaceOf_c n m j _).mono ?_
  rintro e w3 ⟨rfl, hb2⟩
  rw [Hj1.out]
  replace b1 := b1.later hb2
  replace hB1 := hB1.trans (hb2.mono hB1.size)
  replace c0 := b1.c0
  replace c1 := b1.c1
  clear hb2
  go_wp2_with fail
  refine (areNear_c n m i j _ hmm hi6 hj6).mono ?_
  rintro e w4 ⟨rfl, hb2⟩
  replace hB1 := hB1.trans (hb2.mono hB1.size)
  clear hb2
  go_wp2
  go_ret2
  exact ⟨by rw [Ha.out.1, Ha.out.2]; rfl, hB1⟩

set_option maxRecDepth 100000 in
set_option maxHeartbeats 4000000 in
theorem s_AreNear (p r i j : Int) (w : World) (_hp : I64 p) (_hr : I64 r) (_hi : I64 i) (_hj : I64 j) :
    Calls Try.prog 50 #[.agg #[.int .i64 p, .int .i64 r], .int .i64 i, .int .i64 j] w fun e w' => e = .returned (.tuple #[.bool (anB p r i j), .int .i64 (anC p r i j)]) ∧ Below w.heap.size w w' := by
  have b0 := Box2.new w 56 (.int .i64 p) (.int .i64 r)
  have c0 := b0.c0
  have c1 := b0.c1
  have hB0 : Below w.heap.size w (w.alloc (.cells #[.int .i64 p, .int .i64 r] 56)) := (Below.refl _ w).alloc (Nat.le_refl _) _
  obtain ⟨W1, hW1⟩ : ∃ W1, ((w.alloc (.cells #[.int .i64 p, .int .i64 r] 56)).alloc (.cells #[.int .i64 i, .int .i64 j] 2)) = W1 := ⟨_, rfl⟩
  have bG : Box2 W1 w.heap.size 56 (.int .i64 p) (.int .i64 r) := by rw [← hW1]; exact b0.alloc _
  have bL : Box2 W1 (w.heap.size + 1) 2 (.int .i64 i) (.int .i64 j) := by rw [← hW1]; exact box2_at (by simp)
  have hB1 : Below w.heap.size w W1 := by rw [← hW1]; exact hB0.alloc (by simp) _
  have hs1 : W1.heap.size = w.heap.size + 2 := by rw [← hW1]; simp
  have hIL : Ints W1.heap.size W1 (.slice (some ⟨w.heap.size + 1, 0, none⟩) 2 2) [i, j] := by
    refine ⟨some ⟨w.heap.size + 1, 0, none⟩, 2, rfl, .inr ⟨w.heap.size + 1, 0, rfl, by omega, fun q hq => ?_⟩⟩
    have hq2 : q = 0 ∨ q = 1 := by simp at hq; omega
    rcases hq2 with rfl | rfl
    · exact bL.c0
    · exact bL.c1
  clear b0 hB0 bL
  have HI := Lib.hid hIL
  have Hs := Lib.hid hs1
  clear hIL hs1
  go_enter Try.func50, Try.ntmps50
  go_wp2_with fail
  refine (l09Places_c p r _ [i, j] _ HI.out (by simp)).mono ?_
  rintro e w1 ⟨rfl, hb⟩
  have b1 := bG.later hb
  replace hB1 := hB1.trans (hb.mono (by have := Hs.out; omega))
  clear HI Hs bG hb c0 c1 hW1
  have c0 := b1.c0
  have c1 := b1.c1
  cases hg : gOk p r
  · have Ha := Lib.hid (an_bad i j hg)
    clear hg
    rw [show plcC p r [i, j] = 1 from Ha.out.1]
    go_wp2
    go_ret2
    exact ⟨by rw [Ha.out.1, Ha.out.2]; rfl, hB1⟩
  by_cases hi1 : inB i 0 (p - 1) = false ∨ inB j 0 (p - 1) = false
  · have Ha := Lib.hid (an_out hg hi1)
    clear hg hi1
    rw [show plcC p r [i, j] = 2 from Ha.out.1]
    go_wp2
    go_ret2
    exact ⟨by rw [Ha.out.1, Ha.out.2]; rfl, hB1⟩
  obtain ⟨n, m, rfl, rfl, hn1, hn6, hm⟩ := gOk_nat hg
  have q1 := inB_true.1 (show inB i 0 ((n : Int) - 1) = true by cases h : inB i 0 ((n : Int) - 1) <;> simp [h] at hi1 ⊢)
  have q2 := inB_true.1 (show inB j 0 ((n : Int) - 1) = true by cases h : inB j 0 ((n : Int) - 1) <;> simp [h] at hi1 ⊢)
  obtain ⟨i, rfl⟩ : ∃ i' : Nat, i = i' := ⟨i.toNat, by omega⟩
  obtain ⟨j, rfl⟩ : ∃ i' : Nat, j = i' := ⟨j.toNat, by omega⟩
  have hmm : m < 32768 := Nat.lt_of_lt_of_le hm (gTop_le n hn6)
  have Ha := Lib.hid (an_in hg (show i < n by omega) (show j < n by omega))
  have hi6 : i < 6 := by omega
  have hj6 : j < 6 := by omega
  clear hg hi1 q1 q2 _hp _hr _hi _hj hn1 hm
  rw [show plcC (n : Int) (m : Int) [(i : Int), (j : Int)] = 0 from Ha.out.1]
  go_wp2_with fail
  refine (l09Near_c n m i j _ hmm hi6 hj6).mono ?_
  rintro e w4 ⟨rfl, hb2⟩
  replace hB1 := hB1.trans (hb2.mono hB1.size)
  clear hb2
  go_wp2
  go_ret2
  exact ⟨by rw [Ha.out.1, Ha.out.2]; rfl, hB1⟩

end Go.Proofs.Ytieobjoijalijaa
