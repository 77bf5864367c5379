/-
  SumOfRates and TowerOf of both.
  Conditions: lists of at most 1048576 elements.
-/
import Derived.Test.YtogpkaeodgokgaaGrF
namespace Go.Proofs.Ytogpkaeodgokgaa
open Go.RowKit Go.Shelf
attribute [local go_sem] Oper.semAt_some

/-! ### sums and towers -/
def sumK (rs : List Int) : Nat → Int
  | 0 => 0
  | k + 1 => sumK rs k + nth rs k
def mostK (rs : List Int) : Nat → Int
  | 0 => 0
  | k + 1 => max (mostK rs k) (nth rs k)
theorem sumK_bd {rs : List Int} (h : gardenOk rs = true) {k : Nat} (hk : k ≤ rs.length) : (k : Int) ≤ sumK rs k ∧ sumK rs k ≤ 20 * k := by
  induction k with
  | zero => simp [sumK]
  | succ k ih =>
    have h1 := ih (by omega)
    have h2 := gardenOk_nth h (k := k) (by omega)
    unfold sumK; omega
theorem mostK_bd {rs : List Int} (h : gardenOk rs = true) {k : Nat} (hk : k ≤ rs.length) : 0 ≤ mostK rs k ∧ mostK rs k ≤ 20 := by
  induction k with
  | zero => simp [mostK]
  | succ k ih =>
    have h1 := ih (by omega)
    have h2 := gardenOk_nth h (k := k) (by omega)
    unfold mostK; omega
def srR (rs : List Int) : Int := if gardenOk rs = true then sumK rs rs.length else 0
def srC (rs : List Int) : Int := if gardenOk rs = true then 0 else 1
/-- the greatest product of a rate and a wait among the first k -/
def towK (rs ts : List Int) : Nat → Int
  | 0 => 0
  | k + 1 => max (towK rs ts k) (nth rs k * greatW ts (k : Int))
theorem prod_bd {rs ts : List Int} (h : gardenOk rs = true) (ht : ts.length ≤ 120) {k : Nat} (hk : k < rs.length) : 0 ≤ nth rs k * greatW ts (k : Int) ∧ nth rs k * greatW ts (k : Int) ≤ 4800 := by
  have h1 := gardenOk_nth h hk
  have h2 := greatW_bd ts (k : Int)
  have h3 := greatW_le ts (k : Int)
  have := mul_bd (d := nth rs k) (r := greatW ts (k : Int)) (D := 20) (R := 240) (by omega) h1.2 h2 (by omega)
  omega
theorem towK_bd {rs ts : List Int} (h : gardenOk rs = true) (ht : ts.length ≤ 120) {k : Nat} (hk : k ≤ rs.length) : 0 ≤ towK rs ts k ∧ towK rs ts k ≤ 4800 := by
  induction k with
  | zero => simp [towK]
  | succ k ih =>
    have h1 := ih (by omega)
    have h2 := prod_bd h ht (k := k) (by omega)
    unfold towK; omega
/-- has some plant no turn? -/
def lackG (rs ts : List Int) : Bool := (List.range rs.length).any fun (j : Nat) => greatW ts (j : Int) == 0
theorem lackG_yes {rs ts : List Int} {k : Nat} (hk : k < rs.length) (h : greatW ts (k : Int) = 0) : lackG rs ts = true := by
  unfold lackG; rw [List.any_eq_true]; exact ⟨k, by simpa using hk, by simpa using h⟩
theorem lackG_no {rs ts : List Int} (h : ∀ k, k < rs.length → greatW ts (k : Int) ≠ 0) : lackG rs ts = false := by
  unfold lackG; rw [List.any_eq_false]; intro k hk; simpa using h k (by simpa using hk)
def twC (rs ts : List Int) : Int := if gtC rs ts = 0 then if lackG rs ts = true then 4 else 0 else gtC rs ts
def twR (rs ts : List Int) : Int := if twC rs ts = 0 then towK rs ts rs.length else 0
theorem tw_yes {rs ts : List Int} (h : gtC rs ts = 0) {k : Nat} (hk : k < rs.length) (h0 : greatW ts (k : Int) = 0) : twC rs ts = 4 ∧ twR rs ts = 0 := by
  have : twC rs ts = 4 := by unfold twC; rw [if_pos h, if_pos (lackG_yes hk h0)]
  exact ⟨this, by unfold twR; rw [if_neg (by omega)]⟩
theorem tw_no {rs ts : List Int} (h : gtC rs ts = 0) (h0 : ∀ k, k < rs.length → greatW ts (k : Int) ≠ 0) : twC rs ts = 0 ∧ twR rs ts = towK rs ts rs.length := by
  have : twC rs ts = 0 := by unfold twC; rw [if_pos h, if_neg (by rw [lackG_no h0]; simp)]
  exact ⟨this, by unfold twR; rw [if_pos this]⟩

set_option maxRecDepth 100000 in
set_option maxHeartbeats 4000000 in
theorem l06Sum_c (c0 : Value) (rs : List Int) (w : World) (hI : Ints w.heap.size w c0 rs) (hg : gardenOk rs = true) :
    Calls Try.prog 108 #[.agg #[c0]] w fun e w' => e = .returned (.tuple #[.int .i64 (sumK rs rs.length), .int .i64 (mostK rs rs.length)]) ∧ Below w.heap.size w w' := by
  obtain ⟨a, cap, rfl⟩ := hI.shape
  have hl8 := gardenOk_len hg
  have hB0 : Below w.heap.size w (w.alloc (.cells #[.slice a rs.length cap] 48)) := (Below.refl _ w).alloc (Nat.le_refl _) _
  go_enter Try.func108, Try.ntmps108
  go_wp2
  go_loop [4, 5, 6] (fun s m i => ∃ k : Nat, k ≤ rs.length ∧ i = .int .i64 k ∧ s = .int .i64 (sumK rs k) ∧ m = .int .i64 (mostK rs k)) (fun _ _ i => rs.length - (intOf i).toNat)
  case atStart => exact ⟨0, Nat.zero_le _, rfl, rfl, rfl⟩
  case round =>
    obtain ⟨k, hk, rfl, rfl, rfl⟩ := hrel
    by_cases hlt : k < rs.length
    · obtain ⟨b, off, rfl, hb, hc⟩ := (hI.below hB0).at_ hlt
      have hcx := hc k hlt
      have h1 := gardenOk_nth hg hlt
      have h2 := sumK_bd hg hk
      have h3 := mostK_bd hg hk
      have Hs := Lib.hid (show sumK rs (k + 1) = sumK rs k + nth rs k from rfl)
      have hm : mostK rs (k + 1) = max (mostK rs k) (nth rs k) := rfl
      clear hc
      by_cases hle : nth rs k ≤ mostK rs k
      · have Hm := Lib.hid (show mostK rs (k + 1) = mostK rs k by omega)
        clear hm
        go_wp2
        go_round
        case rel => exact ⟨k + 1, by omega, by simp, by rw [Hs.out], by rw [Hm.out]; try (congr 1; omega)⟩
        case measure => simp [intOf]; omega
      · have Hm := Lib.hid (show mostK rs (k + 1) = nth rs k by omega)
        clear hm
        go_wp2
        go_round
        case rel => exact ⟨k + 1, by omega, by simp, by rw [Hs.out], by rw [Hm.out]; try (congr 1; omega)⟩
        case measure => simp [intOf]; omega
    · obtain rfl : k = rs.length := by omega
      go_wp2
      go_ret2
      exact ⟨rfl, hB0⟩

set_option maxRecDepth 100000 in
set_option maxHeartbeats 4000000 in
theorem s_SumOfRates (c0 : Value) (rs : List Int) (w : World) (hI : Ints w.heap.size w c0 rs) (_hN : I64s rs) (hm : rs.length ≤ 1048576) :
    Calls Try.prog 59 #[.agg #[c0]] w fun e w' => e = .returned (.tuple #[.int .i64 (srR rs), .int .i64 (srC rs)]) ∧ Below w.heap.size w w' := by
  obtain ⟨a, cap, rfl⟩ := hI.shape
  have hB0 : Below w.heap.size w (w.alloc (.cells #[.slice a rs.length cap] 48)) := (Below.refl _ w).alloc (Nat.le_refl _) _
  cases hg : gardenOk rs
  · have Hc := Lib.hid (show srC rs = 1 by unfold srC; rw [if_neg (by rw [hg]; simp)])
    have Hr := Lib.hid (show srR rs = 0 by unfold srR; rw [if_neg (by rw [hg]; simp)])
    go_enter Try.func59, Try.ntmps59
    go_wp2_with fail
    refine (l06Is_d false _ rs _ (hI.later hB0) (by omega) hg).mono ?_
    rintro e w1 ⟨rfl, hb⟩
    go_wp2
    go_ret2
    exact ⟨ret_ii Hr.out.symm Hc.out.symm, hB0.trans (hb.mono (by simp))⟩
  · have Hc := Lib.hid (show srC rs = 0 by unfold srC; rw [if_pos hg])
    have Hr := Lib.hid (show srR rs = sumK rs rs.length by unfold srR; rw [if_pos hg])
    go_enter Try.func59, Try.ntmps59
    go_wp2_with fail
    refine (l06Is_d true _ rs _ (hI.later hB0) (by omega) hg).mono ?_
    rintro e w1 ⟨rfl, hb⟩
    have hB1 := hB0.trans (hb.mono (by simp))
    have bG : Boxed w1 w.heap.size 48 (.slice a rs.length cap) := boxed_later (Boxed.new _ _ _) hb
    have kG := bG.cell
    clear hb hB0
    go_wp2_with fail
    refine (l06Sum_c _ rs _ (hI.later hB1) hg).mono ?_
    rintro e w2 ⟨rfl, hb2⟩
    go_wp2
    go_ret2
    exact ⟨ret_ii Hr.out.symm Hc.out.symm, hB1.trans (hb2.mono hB1.size)⟩

set_option maxRecDepth 100000 in
set_option maxHeartbeats 4000000 in
theorem i_SumOfRates (c0 : Value) (rs : List Int) (w : World) (hI : Ints w.heap.size w c0 rs) (_hN : I64s rs) (hm : rs.length ≤ 1048576) :
    Calls Try.prog 60 #[.agg #[c0]] w fun e w' => e = .returned (.tuple #[.int .i64 (srR rs), .int .i64 (srC rs)]) ∧ Below w.heap.size w w' := by
  obtain ⟨a, cap, rfl⟩ := hI.shape
  have hB0 : Below w.heap.size w (w.alloc (.cells #[.slice a rs.length cap] 48)) := (Below.refl _ w).alloc (Nat.le_refl _) _
  refine (callsIn_wide (n := 9)).1 ?_
  cases hg : gardenOk rs
  · have Hc := Lib.hid (show srC rs = 1 by unfold srC; rw [if_neg (by rw [hg]; simp)])
    have Hr := Lib.hid (show srR rs = 0 by unfold srR; rw [if_neg (by rw [hg]; simp)])
    refine callsIn_of_wp_marks Try.func60 rfl trivial ?_ rfl
    simp only [Try.ntmps60, List.size_toArray, List.length_cons, List.length_nil, Nat.reduceAdd, Nat.reduceSub, Array.replicate_succ, Array.replicate_zero, List.push_toArray, List.append_toArray, List.nil_append, List.cons_append]
    gi_wp2_with fail
    refine ⟨trivial, (callsIn_wide.2 (isGarden_d false _ rs _ (hI.later hB0) (by omega) hg)).mono ?_⟩
    rintro e w1 ⟨rfl, hb⟩
    gi_wp2
    exact retM0 ⟨.tuple #[.int .i64 0, .int .i64 1], by simp [results, Try.results60, go_sem], ret_ii Hr.out.symm Hc.out.symm, hB0.trans (hb.mono (by simp))⟩
  · have Hc := Lib.hid (show srC rs = 0 by unfold srC; rw [if_pos hg])
    have Hr := Lib.hid (show srR rs = sumK rs rs.length by unfold srR; rw [if_pos hg])
    have hl8 := gardenOk_len hg
    refine callsIn_of_wp_marks Try.func60 rfl trivial ?_ rfl
    simp only [Try.ntmps60, List.size_toArray, List.length_cons, List.length_nil, Nat.reduceAdd, Nat.reduceSub, Array.replicate_succ, Array.replicate_zero, List.push_toArray, List.append_toArray, List.nil_append, List.cons_append]
    gi_wp2_with fail
    refine ⟨trivial, (callsIn_wide.2 (isGarden_d true _ rs _ (hI.later hB0) (by omega) hg)).mono ?_⟩
    rintro e w1 ⟨rfl, hb⟩
    have hB1 := hB0.trans (hb.mono (by simp))
    have bG : Boxed w1 w.heap.size 48 (.slice a rs.length cap) := boxed_later (Boxed.new _ _ _) hb
    have hsG := bG.lt
    have kG := bG.cell
    clear hb hB0
    gi_wp2_with (first | (gi_at_call 102; refine (callsIn_wide.2 (numbered_c _ _ _ _)).mono ?_; rintro e w' ⟨rfl, rfl⟩) | (refine ⟨trivial, ?_⟩; gi_at_call 102; refine (callsIn_wide.2 (numbered_c _ _ _ _)).mono ?_; rintro e w' ⟨rfl, rfl⟩))
    obtain ⟨W0, hW0⟩ : ∃ W0, (w1.alloc (.cells #[.int .i64 0] 2)).alloc (.cells #[.slice a rs.length cap] 22) = W0 := ⟨_, rfl⟩
    have hbW : Below w1.heap.size w1 W0 := by rw [← hW0]; exact ((Below.refl _ _).alloc (Nat.le_refl _) _).alloc (by simp) _
    have bS : Boxed W0 w1.heap.size 2 (.int .i64 0) := by rw [← hW0]; exact (Boxed.new _ _ _).alloc _
    have bN : Boxed W0 (w1.heap.size + 1) 22 (.slice a rs.length cap) := by rw [← hW0]; repeat first | (refine boxed_at ?_; (simp; done)) | refine Boxed.alloc ?_ _
    have hB2 := hB1.trans (hbW.mono hB1.size)
    have hsW : w1.heap.size + 2 ≤ W0.heap.size := by rw [← hW0]; simp
    try rw [hW0]
    clear hW0 hB1 bG hbW kG
    refine range_outA rfl (by omega) rfl trivial (enters_of Try.func129 (by kernel_rfl) rfl) (numbered_at Fence.wide 8 trivial rfl (by omega) _ w.heap.size _ rs (by omega) W0 bN (by omega) (hI.below hB2)) (fun b hb => by omega) (fun _ => rfl)
      (fun k W => Boxed W w1.heap.size 2 (.int .i64 (sumK rs k)) ∧ Below w.heap.size w W)
      (fun _ _ _ => False)
      (OwnFrom.and (Own.from (boxed_own _ _ _) _) (ownFrom_below (Nat.le_refl _) (by omega)))
      (fun _ _ _ _ _ hs _ _ => hs)
      ⟨bS, hB2⟩ ?a1 ?assign ?body ?done ?stop
    case assign =>
      intro l k W K hk hK
      simp only [numAt]
      gi_wp2
      exact hK
    case body =>
      rintro l k W hl hr ⟨bS1, hB⟩ hlt hsz
      have hnb : ¬ Band (fun b => b < w.heap.size) W0.heap.size (W0.heap.size + 2 + 0) w1.heap.size := not_band (by omega) (by omega)
      have kS := bS1.cell
      have fS := bS1.frozen
      have h1 := gardenOk_nth hg hlt
      have h2 := sumK_bd hg (Nat.le_of_lt hlt)
      have Hs := Lib.hid (show sumK rs (k + 1) = sumK rs k + nth rs k from rfl)
      gi_wp2
      exact ⟨Kps.setCell _ _ _ _ hnb, by rw [Hs.out]; exact bS1.set _, hB.setCell (p := ⟨w1.heap.size, 0, none⟩) (by show w.heap.size ≤ w1.heap.size; omega) _⟩
    case done =>
      rintro D W hD ⟨bS1, hB⟩ hK
      have kS := bS1.cell
      gi_wp2
      exact retM1 hK ⟨.tuple #[.int .i64 (sumK rs rs.length), .int .i64 0], by simp [results, Try.results60, go_sem], ret_ii Hr.out.symm Hc.out.symm, below_shut hB (by omega)⟩
    case stop =>
      rintro D c k W hD hk h
      exact h.elim

set_option maxRecDepth 100000 in
set_option maxHeartbeats 8000000 in
theorem s_TowerOf (c0 : Value) (rs : List Int) (c1 : Value) (ts : List Int) (w : World) (hI : Ints w.heap.size w c0 rs) (_hN : I64s rs) (hm : rs.length ≤ 1048576) (hT : Ints w.heap.size w c1 ts) (_hN1 : I64s ts) (hm1 : ts.length ≤ 1048576) :
    Calls Try.prog 51 #[.agg #[c0], c1] w fun e w' => e = .returned (.tuple #[.int .i64 (twR rs ts), .int .i64 (twC rs ts)]) ∧ Below w.heap.size w w' := by
  obtain ⟨a, cap, rfl⟩ := hI.shape
  obtain ⟨a2, cap2, rfl⟩ := hT.shape
  have hB0 : Below w.heap.size w (w.alloc (.cells #[.slice a rs.length cap] 48)) := (Below.refl _ w).alloc (Nat.le_refl _) _
  by_cases h : gtC rs ts = 0
  · have hok := gtC_ok h
    have hg := hok.1
    have hl8 := gardenOk_len hg
    have ht0 := turn_bd hok.2 0
    have Hc := Lib.hid h
    clear h hok
    go_enter Try.func51, Try.ntmps51
    go_wp2_with fail
    refine (l06Turns_c _ _ rs ts _ (hI.later hB0) (hT.later hB0) (by omega) (by omega)).mono ?_
    rintro e w1 ⟨he, hb⟩
    rw [Hc.out] at he
    subst he
    have hB1 := hB0.trans (hb.mono (by simp))
    have bG : Boxed w1 w.heap.size 48 (.slice a rs.length cap) := boxed_later (Boxed.new _ _ _) hb
    clear hb hB0
    go_wp2
    go_loopw [7, 8] (fun m i wr => ∃ k : Nat, k ≤ rs.length ∧ i = .int .i64 k ∧ m = .int .i64 (towK rs ts k) ∧ (∀ j : Nat, j < k → greatW ts (j : Int) ≠ 0) ∧ Boxed wr w.heap.size 48 (.slice a rs.length cap) ∧ Below w.heap.size w wr) (fun _ i _ => rs.length - (intOf i).toNat)
    case atStart => exact ⟨0, Nat.zero_le _, rfl, rfl, fun j hj => by omega, bG, hB1⟩
    case round =>
      obtain ⟨k, hk, rfl, rfl, hall, hbx, hB⟩ := hrel
      have Hall := Lib.hid hall
      have kb := hbx.cell
      clear hall bG hB1
      by_cases hlt : k < rs.length
      · obtain ⟨b, off, rfl, hb, hc⟩ := (hI.below hB).at_ hlt
        have h1 := gardenOk_nth hg hlt
        have h2 := prod_bd hg (show ts.length ≤ 120 by omega) hlt
        have h3 := towK_bd hg (show ts.length ≤ 120 by omega) hk
        have hs : towK rs ts (k + 1) = max (towK rs ts k) (nth rs k * greatW ts (k : Int)) := rfl
        go_wp2_with fail
        refine (l01Greatest_c _ ts (k : Int) _ (hT.later hB) hm1).mono ?_
        rintro e w2 ⟨rfl, hb2⟩
        have hbx2 := boxed_later hbx hb2
        have kb2 := hbx2.cell
        have hB2 := hB.trans (hb2.mono hB.size)
        have hcx := (hb2.cell (p := ⟨b, off + k, none⟩) (by show b < wr.heap.size; have := hB.size; omega)).trans (hc k hlt)
        obtain ⟨g, hgr⟩ : ∃ g : Int, greatW ts (k : Int) = g := ⟨_, rfl⟩
        have Hgr := Lib.hid hgr
        rw [hgr] at h2 hs ⊢
        clear hc hgr hb2 hbx hB kb
        by_cases h0 : g = 0
        · subst h0
          have Htw := Lib.hid (tw_yes Hc.out hlt Hgr.out)
          clear h2 hs
          go_wp2
          go_ret2
          exact ⟨ret_ii Htw.out.2.symm Htw.out.1.symm, hB2⟩
        · have hq : (g == 0) = false := by simpa using h0
          obtain ⟨q, hqq⟩ : ∃ q : Int, nth rs k * g = q := ⟨_, rfl⟩
          have hq2 : g * nth rs k = q := by rw [Int.mul_comm]; exact hqq
          rw [hqq] at h2 hs
          have hwp : IntKind.i64.wrap q = q := by rw [IntKind.wrap_i64]; omega
          have H0 := Lib.hid h0
          have hall2 : ∀ j : Nat, j < k + 1 → greatW ts (j : Int) ≠ 0 := fun j hj => by
            by_cases e : j = k
            · subst e; rw [Hgr.out]; exact H0.out
            · exact Hall.out j (by omega)
          have Hall2 := Lib.hid hall2
          clear h0 hall2 hqq
          by_cases hle : q ≤ towK rs ts k
          · have Hs := Lib.hid (show towK rs ts (k + 1) = towK rs ts k by omega)
            clear hs
            go_wp2
            go_roundw
            case rel => exact ⟨k + 1, by omega, by simp, by rw [Hs.out]; try (congr 1; omega), Hall2.out, hbx2, hB2⟩
            case measure => simp [intOf]; omega
          · have Hs := Lib.hid (show towK rs ts (k + 1) = q by omega)
            clear hs
            go_wp2
            go_roundw
            case rel => exact ⟨k + 1, by omega, by simp, by rw [Hs.out]; try (congr 1; omega), Hall2.out, hbx2, hB2⟩
            case measure => simp [intOf]; omega
      · obtain rfl : k = rs.length := by omega
        have Htw := Lib.hid (tw_no Hc.out Hall.out)
        go_wp2
        go_ret2
        exact ⟨ret_ii Htw.out.2.symm Htw.out.1.symm, hB⟩
  · have hq : (gtC rs ts != 0) = true := by simpa using h
    have hcc : twC rs ts = gtC rs ts := by unfold twC; rw [if_neg h]
    have Hr := Lib.hid (show twR rs ts = 0 by unfold twR; rw [if_neg (by rw [hcc]; exact h)])
    obtain ⟨c, hc⟩ : ∃ c, gtC rs ts = c := ⟨_, rfl⟩
    rw [hc] at hq hcc
    have Hcc := Lib.hid hcc
    have Hc := Lib.hid hc
    clear h hc hcc
    go_enter Try.func51, Try.ntmps51
    go_wp2_with fail
    refine (l06Turns_c _ _ rs ts _ (hI.later hB0) (hT.later hB0) (by omega) (by omega)).mono ?_
    rintro e w1 ⟨he, hb⟩
    rw [Hc.out] at he
    subst he
    go_wp2
    go_ret2
    exact ⟨ret_ii Hr.out.symm Hcc.out.symm, hB0.trans (hb.mono (by simp))⟩

set_option maxRecDepth 100000 in
set_option maxHeartbeats 8000000 in
theorem i_TowerOf (c0 : Value) (rs : List Int) (c1 : Value) (ts : List Int) (w : World) (hI : Ints w.heap.size w c0 rs) (_hN : I64s rs) (hm : rs.length ≤ 1048576) (hT : Ints w.heap.size w c1 ts) (_hN1 : I64s ts) (hm1 : ts.length ≤ 1048576) :
    Calls Try.prog 52 #[.agg #[c0], c1] w fun e w' => e = .returned (.tuple #[.int .i64 (twR rs ts), .int .i64 (twC rs ts)]) ∧ Below w.heap.size w w' := by
  obtain ⟨a, cap, rfl⟩ := hI.shape
  obtain ⟨a2, cap2, rfl⟩ := hT.shape
  refine (callsIn_wide (n := 9)).1 ?_
  by_cases h : gtC rs ts = 0
  · have hok := gtC_ok h
    have hg := hok.1
    have hl8 := gardenOk_len hg
    have ht0 := turn_bd hok.2 0
    have Hc := Lib.hid h
    clear h hok
    refine callsIn_of_wp_marks Try.func52 rfl trivial ?_ rfl
    simp only [Try.ntmps52, List.size_toArray, List.length_cons, List.length_nil, Nat.reduceAdd, Nat.reduceSub, Array.replicate_succ, Array.replicate_zero, List.push_toArray, List.append_toArray, List.nil_append, List.cons_append]
    gi_wp2_with fail
    obtain ⟨W0, hW0⟩ : ∃ W0, ((((w.alloc (.cells #[.slice a rs.length cap] 48)).alloc (.cells #[.slice a2 ts.length cap2] 22)).alloc (.cells #[.int .i64 0] 2)).alloc (.cells #[.int .i64 0] 2)) = W0 := ⟨_, rfl⟩
    have hB0 : Below w.heap.size w W0 := by rw [← hW0]; exact (((((Below.refl _ w).alloc (Nat.le_refl _) _).alloc (by simp; try omega) _).alloc (by simp; try omega) _).alloc (by simp; try omega) _)
    have hs0 : w.heap.size + 4 ≤ W0.heap.size := by rw [← hW0]; simp
    have bG : Boxed W0 (w.heap.size) 48 (.slice a rs.length cap) := by rw [← hW0]; repeat first | (refine boxed_at ?_; (simp; done)) | refine Boxed.alloc ?_ _
    have bT : Boxed W0 (w.heap.size + 1) 22 (.slice a2 ts.length cap2) := by rw [← hW0]; repeat first | (refine boxed_at ?_; (simp; done)) | refine Boxed.alloc ?_ _
    have bR : Boxed W0 (w.heap.size + 1 + 1) 2 (.int .i64 0) := by rw [← hW0]; repeat first | (refine boxed_at ?_; (simp; done)) | refine Boxed.alloc ?_ _
    have bC : Boxed W0 (w.heap.size + 1 + 1 + 1) 2 (.int .i64 0) := by rw [← hW0]; repeat first | (refine boxed_at ?_; (simp; done)) | refine Boxed.alloc ?_ _
    rw [hW0]
    clear hW0
    refine ⟨trivial, (callsIn_wide.2 (checkTurnsIn_c _ _ rs ts _ (hI.later hB0) (hT.later hB0) (by omega) (by omega))).mono ?_⟩
    rintro e w1 ⟨he, hb⟩
    rw [Hc.out] at he
    subst he
    have hB1 := hB0.trans (hb.mono hB0.size)
    replace bG := boxed_later bG hb
    replace bT := boxed_later bT hb
    replace bR := boxed_later bR hb
    replace bC := boxed_later bC hb
    have hs1 : w.heap.size + 4 ≤ w1.heap.size := Nat.le_trans hs0 hb.size
    have hsG := bG.lt
    have kG := bG.cell
    clear hb hB0 hs0
    gi_wp2_with (first | (gi_at_call 102; refine (callsIn_wide.2 (numbered_c _ _ _ _)).mono ?_; rintro e w' ⟨rfl, rfl⟩) | (refine ⟨trivial, ?_⟩; gi_at_call 102; refine (callsIn_wide.2 (numbered_c _ _ _ _)).mono ?_; rintro e w' ⟨rfl, rfl⟩))
    obtain ⟨W1, hW1⟩ : ∃ W1, (w1.alloc (.cells #[.int .i64 0] 2)).alloc (.cells #[.slice a rs.length cap] 22) = W1 := ⟨_, rfl⟩
    have hbW : Below w1.heap.size w1 W1 := by rw [← hW1]; exact ((Below.refl _ _).alloc (Nat.le_refl _) _).alloc (by simp) _
    have bS : Boxed W1 w1.heap.size 2 (.int .i64 0) := by rw [← hW1]; exact (Boxed.new _ _ _).alloc _
    have bN : Boxed W1 (w1.heap.size + 1) 22 (.slice a rs.length cap) := by rw [← hW1]; repeat first | (refine boxed_at ?_; (simp; done)) | refine Boxed.alloc ?_ _
    have hB2 := hB1.trans (hbW.mono hB1.size)
    have hsW : w1.heap.size + 2 ≤ W1.heap.size := by rw [← hW1]; simp
    replace bG := boxed_later bG hbW
    replace bT := boxed_later bT hbW
    replace bR := boxed_later bR hbW
    replace bC := boxed_later bC hbW
    try rw [hW1]
    clear hW1 hB1 hbW kG
    refine range_outA rfl (by omega) rfl trivial (enters_of Try.func129 (by kernel_rfl) rfl) (numbered_at Fence.wide 8 trivial rfl (by omega) _ w.heap.size _ rs (by omega) W1 bN (by omega) (hI.below hB2)) (fun b hb => by omega) (fun _ => rfl)
      (fun k W => (∀ j : Nat, j < k → greatW ts (j : Int) ≠ 0) ∧ Boxed W w1.heap.size 2 (.int .i64 (towK rs ts k)) ∧ Boxed W (w.heap.size + 1) 22 (.slice a2 ts.length cap2) ∧ Boxed W (w.heap.size + 1 + 1) 2 (.int .i64 0) ∧ Boxed W (w.heap.size + 1 + 1 + 1) 2 (.int .i64 0) ∧ Below w.heap.size w W)
      (fun c k W => c = .ret ∧ (∃ j : Nat, j < rs.length ∧ greatW ts (j : Int) = 0) ∧ Boxed W (w.heap.size + 1 + 1) 2 (.int .i64 0) ∧ Boxed W (w.heap.size + 1 + 1 + 1) 2 (.int .i64 4) ∧ Below w.heap.size w W)
      (by repeat' (first | exact ownFrom_pure _ _ | exact Own.from (boxed_own _ _ _) _ | exact Own.from (ownI_Own _ _ _) _ | exact Own.from (ownB_Own _ _ _) _ | exact ownFrom_below (Nat.le_refl _) (by omega) | exact ownFrom_kps (by omega) | apply OwnFrom.and))
      (fun c => (by repeat' (first | exact ownFrom_pure _ _ | exact Own.from (boxed_own _ _ _) _ | exact Own.from (ownI_Own _ _ _) _ | exact Own.from (ownB_Own _ _ _) _ | exact ownFrom_below (Nat.le_refl _) (by omega) | exact ownFrom_kps (by omega) | apply OwnFrom.and)))
      ⟨fun j hj => by omega, bS, bT, bR, bC, hB2⟩ ?a1 ?assign ?body ?done ?stop
    case assign =>
      intro l k W K hk hK
      simp only [numAt]
      gi_wp2
      exact hK
    case body =>
      rintro l k W hl hr ⟨hall, bS1, bT1, bR1, bC1, hB⟩ hlt hsz
      have hnb : ¬ Band (fun b => b < w.heap.size) W1.heap.size (W1.heap.size + 2 + 0) w1.heap.size := not_band (by omega) (by omega)
      have hnb2 : ¬ Band (fun b => b < w.heap.size) W1.heap.size (W1.heap.size + 2 + 0) (w.heap.size + 1 + 1) := not_band (by omega) (by omega)
      have hnb3 : ¬ Band (fun b => b < w.heap.size) W1.heap.size (W1.heap.size + 2 + 0) (w.heap.size + 1 + 1 + 1) := not_band (by omega) (by omega)
      have Hall := Lib.hid hall
      have h1 := gardenOk_nth hg hlt
      have h2 := prod_bd hg (show ts.length ≤ 120 by omega) hlt
      have h3 := towK_bd hg (show ts.length ≤ 120 by omega) (Nat.le_of_lt hlt)
      have hs : towK rs ts (k + 1) = max (towK rs ts k) (nth rs k * greatW ts (k : Int)) := rfl
      have kT := bT1.cell
      clear hall
      gi_wp2_with fail
      refine ⟨trivial, (callsIn_wide.2 (greatestWait_c _ ts (k : Int) _ (hT.later hB) hm1)).mono ?_⟩
      rintro e w2 ⟨rfl, hb2⟩
      have hB3 := hB.trans (hb2.mono hB.size)
      have hsG2 := bS1.lt
      have hk2 : Kps (Band (fun b => b < w.heap.size) W1.heap.size (W1.heap.size + 2 + 0)) W w2 := Kps.below hb2
      replace bS1 := boxed_later bS1 hb2
      replace bT1 := boxed_later bT1 hb2
      replace bR1 := boxed_later bR1 hb2
      replace bC1 := boxed_later bC1 hb2
      obtain ⟨g, hgr⟩ : ∃ g : Int, greatW ts (k : Int) = g := ⟨_, rfl⟩
      have Hgr := Lib.hid hgr
      rw [hgr] at h2 hs ⊢
      have kS := bS1.cell
      have fS := bS1.frozen
      have kR := bR1.cell
      have fR := bR1.frozen
      have kC := bC1.cell
      have fC := bC1.frozen
      clear hgr hb2 hB kT
      by_cases h0 : g = 0
      · subst h0
        clear h2 hs
        gi_wp2
        exact ⟨(hk2.trans (Kps.setCell _ _ _ _ hnb2)).trans (Kps.setCell _ _ _ _ hnb3), rfl, ⟨k, hlt, Hgr.out⟩, (bR1.set _).kept (grownBy_setCell2 _ _ _ _) (by simp), (bC1.kept (grownBy_setCell2 _ _ _ _) (by simp)).set _, (hB3.setCell (p := ⟨w.heap.size + 1 + 1, 0, none⟩) (by simp; omega) _).setCell (p := ⟨w.heap.size + 1 + 1 + 1, 0, none⟩) (by simp; omega) _⟩
      · have hq : (g == 0) = false := by simpa using h0
        obtain ⟨q, hqq⟩ : ∃ q : Int, nth rs k * g = q := ⟨_, rfl⟩
        rw [hqq] at h2 hs
        have hwp : IntKind.i64.wrap q = q := by rw [IntKind.wrap_i64]; omega
        have H0 := Lib.hid h0
        have hall2 : ∀ j : Nat, j < k + 1 → greatW ts (j : Int) ≠ 0 := fun j hj => by
          by_cases e : j = k
          · subst e; rw [Hgr.out]; exact H0.out
          · exact Hall.out j (by omega)
        have Hall2 := Lib.hid hall2
        clear h0 hall2
        by_cases hle : q ≤ towK rs ts k
        · have Hs := Lib.hid (show towK rs ts (k + 1) = towK rs ts k by omega)
          clear hs
          gi_wp2
          exact ⟨hk2.trans (Kps.setCell _ _ _ _ hnb), Hall2.out, by rw [Hs.out]; exact bS1.set _, bT1.kept (grownBy_setCell2 _ _ _ _) (by simp; omega), bR1.kept (grownBy_setCell2 _ _ _ _) (by simp; omega), bC1.kept (grownBy_setCell2 _ _ _ _) (by simp; omega), hB3.setCell (p := ⟨w1.heap.size, 0, none⟩) (by show w.heap.size ≤ w1.heap.size; omega) _⟩
        · have Hs := Lib.hid (show towK rs ts (k + 1) = q by omega)
          clear hs
          gi_wp2
          exact ⟨hk2.trans (Kps.setCell _ _ _ _ hnb), Hall2.out, by rw [Hs.out]; exact bS1.set _, bT1.kept (grownBy_setCell2 _ _ _ _) (by simp; omega), bR1.kept (grownBy_setCell2 _ _ _ _) (by simp; omega), bC1.kept (grownBy_setCell2 _ _ _ _) (by simp; omega), hB3.setCell (p := ⟨w1.heap.size, 0, none⟩) (by show w.heap.size ≤ w1.heap.size; omega) _⟩
    case done =>
      rintro D W hD ⟨hall, bS1, bT1, bR1, bC1, hB⟩ hK
      have Htw := Lib.hid (tw_no Hc.out hall)
      have kS := bS1.cell
      have kR := bR1.cell
      have fR := bR1.frozen
      have kC := bC1.cell
      have fC := bC1.frozen
      clear hall
      gi_wp2
      have hK1 := (KeepsOthers.setCell W ⟨w.heap.size + 1 + 1, 0, none⟩ (.int .i64 (towK rs ts rs.length))).same D _ hK rfl
      have hK2 := (KeepsOthers.setCell _ ⟨w.heap.size + 1 + 1 + 1, 0, none⟩ (.int .i64 0)).same D _ hK1 rfl
      have e1 := (boxed_shut ((bR1.set (.int .i64 (towK rs ts rs.length))).kept (grownBy_setCell2 _ (w.heap.size + 1 + 1 + 1) 0 (.int .i64 0)) (by simp)) hK2).cell
      have e2 := (boxed_shut ((bC1.kept (grownBy_setCell2 _ (w.heap.size + 1 + 1) 0 (.int .i64 (towK rs ts rs.length))) (by simp)).set (.int .i64 0)) hK2).cell
      exact retM1 hK2 ⟨.tuple #[.int .i64 (towK rs ts rs.length), .int .i64 0], by simp [results, Try.results52, go_sem, e1, e2], ret_ii Htw.out.2.symm Htw.out.1.symm, below_shut ((hB.setCell (p := ⟨w.heap.size + 1 + 1, 0, none⟩) (by simp; omega) _).setCell (p := ⟨w.heap.size + 1 + 1 + 1, 0, none⟩) (by simp; omega) _) (by omega)⟩
    case stop =>
      rintro D c k W hD hk ⟨rfl, ⟨j, hj, h0⟩, bR1, bC1, hB⟩ hK
      have Htw := Lib.hid (tw_yes Hc.out hj h0)
      have kR := (boxed_shut bR1 hK).cell
      have kC := (boxed_shut bC1 hK).cell
      gi_wp2
      exact retM1 hK ⟨.tuple #[.int .i64 0, .int .i64 4], by simp [results, Try.results52, go_sem, kR, kC], ret_ii Htw.out.2.symm Htw.out.1.symm, below_shut hB (by omega)⟩
  · have hq : (gtC rs ts != 0) = true := by simpa using h
    have hcc : twC rs ts = gtC rs ts := by unfold twC; rw [if_neg h]
    have Hr := Lib.hid (show twR rs ts = 0 by unfold twR; rw [if_neg (by rw [hcc]; exact h)])
    obtain ⟨c, hc⟩ : ∃ c, gtC rs ts = c := ⟨_, rfl⟩
    rw [hc] at hq hcc
    have Hcc := Lib.hid hcc
    have Hc := Lib.hid hc
    clear h hc hcc
    refine callsIn_of_wp_marks Try.func52 rfl trivial ?_ rfl
    simp only [Try.ntmps52, List.size_toArray, List.length_cons, List.length_nil, Nat.reduceAdd, Nat.reduceSub, Array.replicate_succ, Array.replicate_zero, List.push_toArray, List.append_toArray, List.nil_append, List.cons_append]
    gi_wp2_with fail
    obtain ⟨W0, hW0⟩ : ∃ W0, ((((w.alloc (.cells #[.slice a rs.length cap] 48)).alloc (.cells #[.slice a2 ts.length cap2] 22)).alloc (.cells #[.int .i64 0] 2)).alloc (.cells #[.int .i64 0] 2)) = W0 := ⟨_, rfl⟩
    have hB0 : Below w.heap.size w W0 := by rw [← hW0]; exact (((((Below.refl _ w).alloc (Nat.le_refl _) _).alloc (by simp; try omega) _).alloc (by simp; try omega) _).alloc (by simp; try omega) _)
    have hs0 : w.heap.size + 4 ≤ W0.heap.size := by rw [← hW0]; simp
    have bG : Boxed W0 (w.heap.size) 48 (.slice a rs.length cap) := by rw [← hW0]; repeat first | (refine boxed_at ?_; (simp; done)) | refine Boxed.alloc ?_ _
    have bT : Boxed W0 (w.heap.size + 1) 22 (.slice a2 ts.length cap2) := by rw [← hW0]; repeat first | (refine boxed_at ?_; (simp; done)) | refine Boxed.alloc ?_ _
    have bR : Boxed W0 (w.heap.size + 1 + 1) 2 (.int .i64 0) := by rw [← hW0]; repeat first | (refine boxed_at ?_; (simp; done)) | refine Boxed.alloc ?_ _
    have bC : Boxed W0 (w.heap.size + 1 + 1 + 1) 2 (.int .i64 0) := by rw [← hW0]; repeat first | (refine boxed_at ?_; (simp; done)) | refine Boxed.alloc ?_ _
    rw [hW0]
    clear hW0
    refine ⟨trivial, (callsIn_wide.2 (checkTurnsIn_c _ _ rs ts _ (hI.later hB0) (hT.later hB0) (by omega) (by omega))).mono ?_⟩
    rintro e w1 ⟨he, hb⟩
    rw [Hc.out] at he
    subst he
    have hB1 := hB0.trans (hb.mono hB0.size)
    replace bR := boxed_later bR hb
    replace bC := boxed_later bC hb
    have kR := bR.cell
    have fR := bR.frozen
    have kC := bC.cell
    have fC := bC.frozen
    clear hb hB0
    gi_wp2
    have e1 := ((bR.set (.int .i64 0)).kept (grownBy_setCell2 _ (w.heap.size + 1 + 1 + 1) 0 (.int .i64 c)) (by simp)).cell
    have e2 := ((bC.kept (grownBy_setCell2 _ (w.heap.size + 1 + 1) 0 (.int .i64 0)) (by simp)).set (.int .i64 c)).cell
    exact retM0 ⟨.tuple #[.int .i64 0, .int .i64 c], by simp [results, Try.results52, go_sem, e1, e2], ret_ii Hr.out.symm Hcc.out.symm, (hB1.setCell (p := ⟨w.heap.size + 1 + 1, 0, none⟩) (by simp; omega) _).setCell (p := ⟨w.heap.size + 1 + 1 + 1, 0, none⟩) (by simp; omega) _⟩

end Go.Proofs.Ytogpkaeodgokgaa
