/-
  LeastTower of both.
  Conditions: lists of at most 1048576 elements.
-/
import Derived.Test.YtogpkaeodgokgaaGrG
import Derived.Test.YtogpkaeodgokgaaTopI
import Derived.Test.YtogpkaeodgokgaaTopS
namespace Go.Proofs.Ytogpkaeodgokgaa
open Go.RowKit Go.Shelf
attribute [local go_sem] Oper.semAt_some

/-! ### the search -/
/-- the tasks for a height -/
def tgL (rs : List Int) (m : Int) : List Int := gapsG rs m rs.length
def stopG (rs : List Int) (m : Int) : Prop := overG rs m = true ∨ 4000 < cntL (tgL rs m)
open Classical in
noncomputable def ltF (rs : List Int) : Nat → Int → Int × Int
  | 0, _ => (0, 3)
  | f + 1, m => if stopG rs m then (0, 3) else if CanL (tgL rs m) then (m, 0) else ltF rs f (m + 1)
theorem ltF_stop {rs : List Int} {f : Nat} {m : Int} (h : stopG rs m) : ltF rs (f + 1) m = (0, 3) := by unfold ltF; rw [if_pos h]
theorem ltF_can {rs : List Int} {f : Nat} {m : Int} (h : ¬ stopG rs m) (hc : CanL (tgL rs m)) : ltF rs (f + 1) m = (m, 0) := by unfold ltF; rw [if_neg h, if_pos hc]
theorem ltF_next {rs : List Int} {f : Nat} {m : Int} (h : ¬ stopG rs m) (hc : ¬ CanL (tgL rs m)) : ltF rs (f + 1) m = ltF rs f (m + 1) := by rw [ltF, if_neg h, if_neg hc]
noncomputable def ltP (rs : List Int) : Int × Int := if gardenOk rs = true then ltF rs 1001 (sumK rs rs.length) else (0, 1)
noncomputable def ltR (rs : List Int) : Int := (ltP rs).1
noncomputable def ltC (rs : List Int) : Int := (ltP rs).2
theorem lt_one {rs : List Int} (h : gardenOk rs = false) : ltR rs = 0 ∧ ltC rs = 1 := by
  unfold ltR ltC ltP; rw [if_neg (by rw [h]; simp)]; exact ⟨rfl, rfl⟩
theorem lt_of {rs : List Int} (h : gardenOk rs = true) {p : Int × Int} (hp : ltF rs 1001 (sumK rs rs.length) = p) : ltR rs = p.1 ∧ ltC rs = p.2 := by
  unfold ltR ltC ltP; rw [if_pos h, hp]; exact ⟨rfl, rfl⟩
theorem over_big {rs : List Int} (h : gardenOk rs = true) {m : Int} (hm : 820 ≤ m) : overG rs m = true := by
  have h8 := gardenOk_len h
  have h1 := gardenOk_nth h (k := 0) (by omega)
  refine overG_yes (k := 0) (by omega) ?_
  unfold gapG
  have : 41 ≤ m / nth rs 0 := by
    rw [Int.le_ediv_iff_mul_le (by omega)]
    omega
  omega
theorem sumK_ge {rs : List Int} (h : gardenOk rs = true) {k : Nat} (hk : k ≤ rs.length) {j : Nat} (hj : j < k) : nth rs j ≤ sumK rs k := by
  induction k with
  | zero => omega
  | succ k ih =>
    have h1 := gardenOk_nth h (k := k) (by omega)
    have h2 := sumK_bd h (k := k) (by omega)
    unfold sumK
    by_cases e : j = k
    · subst e; omega
    · have := ih (by omega) (by omega); omega
theorem mostK_le {rs : List Int} (h : gardenOk rs = true) {k : Nat} (hk : k ≤ rs.length) : mostK rs k ≤ sumK rs k := by
  induction k with
  | zero => simp [mostK, sumK]
  | succ k ih =>
    have h1 := gardenOk_nth h (k := k) (by omega)
    have h2 := sumK_bd h (k := k) (by omega)
    have h3 := ih (by omega)
    have h4 := mostK_bd h (k := k) (by omega)
    unfold mostK sumK; omega
theorem tgL_length (rs : List Int) (m : Int) : (tgL rs m).length = rs.length := gapsG_length _ _ _
/-- heights of at least the sum give tasks, if no gap is too great -/
theorem tgL_ok {rs : List Int} (h : gardenOk rs = true) {m : Int} (hm : sumK rs rs.length ≤ m) (ho : overG rs m = false) : tasksOk (tgL rs m) = true := by
  have h8 := gardenOk_len h
  unfold tasksOk
  rw [all_true_of (p := fun z => inB z 1 40) (fun j hj => ?_), inB_true.2 (by rw [tgL_length]; omega)]
  · rfl
  · rw [tgL_length] at hj
    unfold tgL
    rw [nth_gapsG hj]
    have h1 := gardenOk_nth h hj
    have h2 := sumK_ge h (Nat.le_refl _) hj
    have h3 := overG_all ho hj
    refine inB_true.2 ⟨?_, h3⟩
    unfold gapG
    rw [Int.le_ediv_iff_mul_le (by omega)]
    omega
theorem tgL_64 {rs : List Int} (h : gardenOk rs = true) {m : Int} (h0 : 0 ≤ m) (h1 : m ≤ 1000) : I64s (tgL rs m) := fun z hz => by
  obtain ⟨j, hj, rfl⟩ := List.getElem_of_mem hz
  have hj2 := hj
  rw [tgL_length] at hj2
  rw [← nth_lt hj]
  unfold tgL
  rw [nth_gapsG hj2]
  have := gapG_bd (m := m) (gardenOk_nth h hj2).1 h0
  unfold I64; omega
theorem few_of {rs : List Int} {m : Int} (ht : tasksOk (tgL rs m) = true) : fewC (tgL rs m) = if 4000 < cntL (tgL rs m) then 3 else 0 := by unfold fewC; rw [ht]; rfl

open Classical in
set_option maxRecDepth 100000 in
set_option maxHeartbeats 8000000 in
theorem s_LeastTower (c0 : Value) (rs : List Int) (w : World) (hI : Ints w.heap.size w c0 rs) (_hN : I64s rs) (hm : rs.length ≤ 1048576) :
    Calls Try.prog 64 #[.agg #[c0]] w fun e w' => e = .returned (.tuple #[.int .i64 (ltR rs), .int .i64 (ltC rs)]) ∧ Below w.heap.size w w' := by
  obtain ⟨a, cap, rfl⟩ := hI.shape
  have hB0 : Below w.heap.size w (w.alloc (.cells #[.slice a rs.length cap] 48)) := (Below.refl _ w).alloc (Nat.le_refl _) _
  cases hg : gardenOk rs
  · have H := Lib.hid (lt_one hg)
    go_enter Try.func64, Try.ntmps64
    go_wp2_with fail
    refine (l06Is_d false _ rs _ (hI.later hB0) (by omega) hg).mono ?_
    rintro e w1 ⟨rfl, hb⟩
    go_wp2
    go_ret2
    exact ⟨ret_ii H.out.1.symm H.out.2.symm, hB0.trans (hb.mono (by simp))⟩
  · have hl8 := gardenOk_len hg
    have hsb := sumK_bd hg (Nat.le_refl rs.length)
    go_enter Try.func64, Try.ntmps64
    go_wp2_with fail
    refine (l06Is_d true _ rs _ (hI.later hB0) (by omega) hg).mono ?_
    rintro e w1 ⟨rfl, hb⟩
    have hB1 := hB0.trans (hb.mono (by simp))
    have bG : Boxed w1 w.heap.size 48 (.slice a rs.length cap) := boxed_later (Boxed.new _ _ _) hb
    have kG := bG.cell
    clear hb hB0
    go_wp2_with fail
    refine (l06Sum_c _ rs _ (hI.later hB1) hg).mono ?_
    rintro e w2 ⟨rfl, hb⟩
    have hB2 := hB1.trans (hb.mono hB1.size)
    replace bG := boxed_later bG hb
    clear hb hB1 kG
    obtain ⟨s0, hs0⟩ : ∃ s0, sumK rs rs.length = s0 := ⟨_, rfl⟩
    have Hs0 := Lib.hid hs0
    rw [hs0] at hsb ⊢
    clear hs0
    go_wp2
    go_loopw [4] (fun i wr => ∃ n : Nat, n ≤ 1000 ∧ i = .int .i64 (s0 + n) ∧ s0 + n ≤ 820 ∧ ltF rs 1001 s0 = ltF rs (1001 - n) (s0 + n) ∧ Boxed wr w.heap.size 48 (.slice a rs.length cap) ∧ Below w.heap.size w wr) (fun i _ => (1000 - intOf i).toNat)
    case atStart => exact ⟨0, by omega, by simp, by omega, by simp, bG, hB2⟩
    case round =>
      obtain ⟨n, hn, rfl, h820, hlt, hbx, hB⟩ := hrel
      have Hlt := Lib.hid hlt
      have kb := hbx.cell
      clear hlt bG hB2
      obtain ⟨f, hf⟩ : ∃ f, 1001 - n = f + 1 := ⟨1000 - n, by omega⟩
      have Hf := Lib.hid hf
      obtain ⟨m, hmm⟩ : ∃ m : Int, s0 + n = m := ⟨_, rfl⟩
      have Hmm := Lib.hid hmm
      rw [hmm] at h820 ⊢
      have hm1 : s0 ≤ m := by omega
      clear hf
      go_wp2_with fail
      refine (l06Tasks_c _ rs m _ (hI.later hB) hg (by omega) (by omega)).mono ?_
      rintro e w3 (⟨hov, v, rfl, ho, hb⟩ | ⟨hov, rfl, hb⟩)
      · have ht := tgL_ok hg (by rw [Hs0.out]; exact hm1) hov
        have hB3 := hB.trans (hb.mono hB.size)
        replace hbx := boxed_later hbx hb
        change OwnI wr.heap.size w3 v (tgL rs m) at ho
        obtain ⟨av, cv, ev⟩ := ho.ints.shape
        rw [tgL_length] at ev
        subst ev
        have hlG := hbx.lt
        have hb4 : Below w3.heap.size w3 (w3.alloc (.cells #[.slice av rs.length cv] 29)) := (Below.refl _ _).alloc (Nat.le_refl _) _
        have bT : Boxed (w3.alloc (.cells #[.slice av rs.length cv] 29)) w3.heap.size 29 (.slice av rs.length cv) := Boxed.new _ _ _
        have ho4 := ho.below hb4
        have hB4 := hB3.trans (hb4.mono hB3.size)
        have hbx4 := boxed_later hbx hb4
        obtain ⟨w4, hw4⟩ : ∃ w4, w3.alloc (.cells #[.slice av rs.length cv] 29) = w4 := ⟨_, rfl⟩
        rw [hw4] at bT ho4 hB4 hbx4
        have kT := bT.cell
        clear hb ho hB3 hbx hb4
        go_wp2_with fail
        refine (l02Count_c _ (tgL rs m) _ ho4.ints ht).mono ?_
        rintro e w5 ⟨rfl, hb5⟩
        have hB5 := hB4.trans (hb5.mono hB4.size)
        replace hbx4 := boxed_later hbx4 hb5
        replace bT := boxed_later bT hb5
        have ho5 := ho4.below hb5
        have kT2 := bT.cell
        have hpos := cntL_cntN (pos_of ht)
        clear hb5 ho4 hB4 kT hw4
        by_cases h4 : 4000 < cntL (tgL rs m)
        · have Hst := Lib.hid (lt_of hg (rs := rs) (by rw [Hs0.out, Hlt.out, Hf.out, Hmm.out, ltF_stop (.inr h4)]))
          go_wp2
          go_ret2
          exact ⟨ret_ii Hst.out.1.symm Hst.out.2.symm, hB5⟩
        · have hns : ¬ stopG rs m := fun h => by
            rcases h with h | h
            · rw [hov] at h; cases h
            · exact h4 h
          have Hns := Lib.hid hns
          clear hns
          go_wp2_with fail
          refine (l02Can_c _ (tgL rs m) _ ho5.ints ht (by omega)).mono ?_
          rintro e w6 ⟨he, hb6⟩
          have hB6 := hB5.trans (hb6.mono hB5.size)
          have hbx6 := boxed_later hbx4 hb6
          clear hb6 ho5 hB5 hbx4 bT kT2
          by_cases hc : CanL (tgL rs m)
          · have Hst := Lib.hid (lt_of hg (rs := rs) (by rw [Hs0.out, Hlt.out, Hf.out, Hmm.out, ltF_can Hns.out hc]))
            rw [decide_eq_true hc] at he
            subst he
            go_wp2
            go_ret2
            exact ⟨ret_ii Hst.out.1.symm Hst.out.2.symm, hB6⟩
          · have hnx : ltF rs 1001 s0 = ltF rs (1001 - (n + 1)) (s0 + ((n + 1 : Nat) : Int)) := by
              rw [Hlt.out, Hf.out, Hmm.out, ltF_next Hns.out hc]
              congr 1
              · have := Hf.out; omega
              · have := Hmm.out; omega
            have hlm : m < 820 := by
              by_cases hq : 820 ≤ m
              · have := over_big hg hq; rw [hov] at this; cases this
              · omega
            have Hnx := Lib.hid hnx
            rw [decide_eq_false hc] at he
            subst he
            clear hnx hc
            go_wp2
            go_roundw
            case rel =>
              have hmn : m = s0 + n := Hmm.out.symm
              exact ⟨n + 1, by omega, by simp; omega, by omega, Hnx.out, hbx6, hB6⟩
            case measure =>
              have hmn : m = s0 + n := Hmm.out.symm
              simp [intOf]; omega
      · have Hst := Lib.hid (lt_of hg (rs := rs) (by rw [Hs0.out, Hlt.out, Hf.out, Hmm.out, ltF_stop (.inl hov)]))
        have hB3 := hB.trans (hb.mono hB.size)
        have hB4 := hB3.alloc hB3.size (.cells #[.slice none 0 0] 29)
        clear hb
        go_wp2
        go_ret2
        exact ⟨ret_ii Hst.out.1.symm Hst.out.2.symm, hB4⟩

theorem tg_at {rs : List Int} (h : gardenOk rs = true) {m : Int} (h0 : sumK rs rs.length ≤ m) (h1 : m ≤ 1000) :
    (overG rs m = true → tgC rs m = 4 ∧ tgR rs m = []) ∧ (overG rs m = false → tgC rs m = 0 ∧ tgR rs m = tgL rs m) := by
  have hin : inB m (mostK rs rs.length) 1000 = true := inB_true.2 ⟨by have := mostK_le h (Nat.le_refl rs.length); omega, h1⟩
  exact ⟨fun ho => tg_four h hin ho, fun ho => tg_none h hin ho⟩

open Classical in
set_option maxRecDepth 100000 in
set_option maxHeartbeats 8000000 in
theorem i_LeastTower (c0 : Value) (rs : List Int) (w : World) (hI : Ints w.heap.size w c0 rs) (hN : I64s rs) (hm : rs.length ≤ 1048576) :
    Calls Try.prog 65 #[.agg #[c0]] w fun e w' => e = .returned (.tuple #[.int .i64 (ltR rs), .int .i64 (ltC rs)]) ∧ Below w.heap.size w w' := by
  obtain ⟨a, cap, rfl⟩ := hI.shape
  have hB0 : Below w.heap.size w (w.alloc (.cells #[.slice a rs.length cap] 48)) := (Below.refl _ w).alloc (Nat.le_refl _) _
  cases hg : gardenOk rs
  · have H := Lib.hid (lt_one hg)
    have hc1 := Lib.hid (show srC rs = 1 by unfold srC; rw [if_neg (by rw [hg]; simp)])
    have hr1 := Lib.hid (show srR rs = 0 by unfold srR; rw [if_neg (by rw [hg]; simp)])
    go_enter Try.func65, Try.ntmps65
    go_wp2_with fail
    refine (i_SumOfRates _ rs _ (hI.later hB0) hN hm).mono ?_
    rintro e w1 ⟨he, hb⟩
    rw [hc1.out, hr1.out] at he
    subst he
    go_wp2
    go_ret2
    exact ⟨ret_ii H.out.1.symm H.out.2.symm, hB0.trans (hb.mono (by simp))⟩
  · have hl8 := gardenOk_len hg
    have hsb := sumK_bd hg (Nat.le_refl rs.length)
    have hc1 := Lib.hid (show srC rs = 0 by unfold srC; rw [if_pos hg])
    have hr1 := Lib.hid (show srR rs = sumK rs rs.length by unfold srR; rw [if_pos hg])
    go_enter Try.func65, Try.ntmps65
    go_wp2_with fail
    refine (i_SumOfRates _ rs _ (hI.later hB0) hN hm).mono ?_
    rintro e w2 ⟨he, hb⟩
    rw [hc1.out, hr1.out] at he
    subst he
    have hB2 := hB0.trans (hb.mono (by simp))
    have bG : Boxed w2 w.heap.size 48 (.slice a rs.length cap) := boxed_later (Boxed.new _ _ _) hb
    clear hb hB0
    obtain ⟨s0, hs0⟩ : ∃ s0, sumK rs rs.length = s0 := ⟨_, rfl⟩
    have Hs0 := Lib.hid hs0
    rw [hs0] at hsb ⊢
    clear hs0
    go_wp2
    go_loopw [6] (fun i wr => ∃ n : Nat, n ≤ 1000 ∧ i = .int .i64 (s0 + n) ∧ s0 + n ≤ 820 ∧ ltF rs 1001 s0 = ltF rs (1001 - n) (s0 + n) ∧ Boxed wr w.heap.size 48 (.slice a rs.length cap) ∧ Below w.heap.size w wr) (fun i _ => (1000 - intOf i).toNat)
    case atStart => exact ⟨0, by omega, by simp, by omega, by simp, bG, hB2⟩
    case round =>
      obtain ⟨n, hn, rfl, h820, hlt, hbx, hB⟩ := hrel
      have Hlt := Lib.hid hlt
      have kb := hbx.cell
      clear hlt bG hB2
      obtain ⟨f, hf⟩ : ∃ f, 1001 - n = f + 1 := ⟨1000 - n, by omega⟩
      have Hf := Lib.hid hf
      obtain ⟨m, hmm⟩ : ∃ m : Int, s0 + n = m := ⟨_, rfl⟩
      have Hmm := Lib.hid hmm
      rw [hmm] at h820 ⊢
      have hm1 : s0 ≤ m := by omega
      have hm2 : m ≤ 1000 := by omega
      have Htg := Lib.hid (tg_at hg (by rw [Hs0.out]; exact hm1) hm2)
      have hx : I64 m := by unfold I64; omega
      clear hf
      go_wp2_with fail
      refine (i_TasksOfGarden _ rs m _ (hI.later hB) hN hm hx).mono ?_
      rintro e w3 ⟨v, rfl, ho, hb⟩
      have hB3 := hB.trans (hb.mono hB.size)
      replace hbx := boxed_later hbx hb
      clear hb hB
      cases hov : overG rs m
      · have ht := tgL_ok hg (by rw [Hs0.out]; exact hm1) hov
        have hN4 := tgL_64 hg (show 0 ≤ m by omega) hm2
        have hfew := few_of ht
        obtain ⟨e1, e2⟩ := Htg.out.2 hov
        rw [e2] at ho
        rw [e1]
        obtain ⟨av, cv, ev⟩ := ho.ints.shape
        rw [tgL_length] at ev
        subst ev
        have hb4 : Below w3.heap.size w3 (w3.alloc (.cells #[.slice av rs.length cv] 29)) := (Below.refl _ _).alloc (Nat.le_refl _) _
        have bT : Boxed (w3.alloc (.cells #[.slice av rs.length cv] 29)) w3.heap.size 29 (.slice av rs.length cv) := Boxed.new _ _ _
        have ho4 := ho.below hb4
        have hB4 := hB3.trans (hb4.mono hB3.size)
        have hbx4 := boxed_later hbx hb4
        obtain ⟨w4, hw4⟩ : ∃ w4, w3.alloc (.cells #[.slice av rs.length cv] 29) = w4 := ⟨_, rfl⟩
        rw [hw4] at bT ho4 hB4 hbx4
        have kT := bT.cell
        have Hpos := Lib.hid (cntL_cntN (pos_of ht))
        have Hfew := Lib.hid hfew
        clear ho hB3 hbx hb4 e1 e2 hfew
        go_wp2_with fail
        refine (i_CanServe _ (tgL rs m) _ ho4.ints hN4 (by rw [tgL_length]; exact hm)).mono ?_
        rintro e w5 ⟨he, hb5⟩
        have hB5 := hB4.trans (hb5.mono hB4.size)
        replace hbx4 := boxed_later hbx4 hb5
        clear hb5 ho4 hB4 kT hw4 bT
        by_cases h4 : 4000 < cntL (tgL rs m)
        · have Hst := Lib.hid (lt_of hg (rs := rs) (by rw [Hs0.out, Hlt.out, Hf.out, Hmm.out, ltF_stop (.inr h4)]))
          rw [Hfew.out, if_pos h4] at he
          subst he
          clear h4
          go_wp2
          go_ret2
          exact ⟨ret_ii Hst.out.1.symm Hst.out.2.symm, hB5⟩
        · have hns : ¬ stopG rs m := fun h => by
            rcases h with h | h
            · rw [hov] at h; cases h
            · exact h4 h
          have hf0 : fewC (tgL rs m) = 0 := by rw [Hfew.out, if_neg h4]
          have hcr : canR (tgL rs m) = decide (CanL (tgL rs m)) := by unfold canR; rw [if_pos hf0]
          rw [hf0, hcr] at he
          have Hns := Lib.hid hns
          clear hns hf0 hcr h4
          by_cases hc : CanL (tgL rs m)
          · have Hst := Lib.hid (lt_of hg (rs := rs) (by rw [Hs0.out, Hlt.out, Hf.out, Hmm.out, ltF_can Hns.out hc]))
            rw [decide_eq_true hc] at he
            subst he
            clear hc
            go_wp2
            go_ret2
            exact ⟨ret_ii Hst.out.1.symm Hst.out.2.symm, hB5⟩
          · have hnx : ltF rs 1001 s0 = ltF rs (1001 - (n + 1)) (s0 + ((n + 1 : Nat) : Int)) := by
              rw [Hlt.out, Hf.out, Hmm.out, ltF_next Hns.out hc]
              congr 1
              · have := Hf.out; omega
              · have := Hmm.out; omega
            have hlm : m < 820 := by
              by_cases hq : 820 ≤ m
              · have := over_big hg hq; rw [hov] at this; cases this
              · omega
            have Hnx := Lib.hid hnx
            rw [decide_eq_false hc] at he
            subst he
            clear hnx hc
            go_wp2
            go_roundw
            case rel =>
              have hmn : m = s0 + n := Hmm.out.symm
              exact ⟨n + 1, by omega, by simp; omega, by omega, Hnx.out, hbx4, hB5⟩
            case measure =>
              have hmn : m = s0 + n := Hmm.out.symm
              simp [intOf]; omega
      · have Hst := Lib.hid (lt_of hg (rs := rs) (by rw [Hs0.out, Hlt.out, Hf.out, Hmm.out, ltF_stop (.inl hov)]))
        obtain ⟨e1, e2⟩ := Htg.out.1 hov
        rw [e2] at ho
        rw [e1]
        obtain ⟨av, cv, rfl⟩ := ho.ints.shape
        have hB4 := hB3.alloc hB3.size (.cells #[.slice av ([] : List Int).length cv] 29)
        clear e1 e2 ho
        go_wp2
        go_ret2
        exact ⟨ret_ii Hst.out.1.symm Hst.out.2.symm, hB4⟩

end Go.Proofs.Ytogpkaeodgokgaa
