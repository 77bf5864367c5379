/-
  TurnsByOne of the program.
  Conditions: lists of at most 1048576 elements.
-/
import Derived.Test.YtjgkdjnpbocnjaaHtK
namespace Go.Proofs.Ytjgkdjnpbocnjaa
open Go.RowKit Go.Shelf
attribute [local go_sem] Oper.semAt_some

set_option maxRecDepth 100000 in
set_option maxHeartbeats 8000000 in
theorem i_TurnsByOne (c0 : Value) (zs : List Int) (w : World) (hI : Ints w.heap.size w c0 zs) (_hN : I64s zs) (hm : zs.length ≤ 1048576) :
    Calls Try.prog 34 #[.agg #[c0]] w (GivesI w (oneR zs) fun v => .tuple #[v, .int .i64 (oneV zs), .int .i64 (oneC zs)]) := by
  obtain ⟨a, cap, rfl⟩ := hI.shape
  go_enter Try.func34, Try.ntmps34
  go_wp2_with fail
  obtain ⟨W0, hW0⟩ : ∃ W0, (w.alloc (.cells #[.slice a zs.length cap] 39)) = W0 := ⟨_, rfl⟩
  have hB0 : Below w.heap.size w W0 := by rw [← hW0]; exact ((Below.refl _ w).alloc (Nat.le_refl _) _)
  have hs0 : w.heap.size + 1 ≤ W0.heap.size := by rw [← hW0]; simp
  have bT : Boxed W0 (w.heap.size) 39 (.slice a zs.length cap) := by rw [← hW0]; repeat first | (refine boxed_at ?_; (simp; done)) | refine Boxed.alloc ?_ _
  rw [hW0]
  clear hW0
  refine (isTasks_c _ zs _ (hI.later hB0) (by omega)).mono ?_
  rintro e w1 ⟨rfl, hb⟩
  have hB1 := hB0.trans (hb.mono hB0.size)
  replace bT := boxed_later bT hb
  clear hb hB0
  have cT := bT.cell
  cases ht : tasksOk zs
  · obtain ⟨hc, hv, hr⟩ := one_no ht
    have Hc := Lib.hid hc
    have Hv := Lib.hid hv
    have Hr := Lib.hid hr
    clear ht hc hv hr
    go_wp2
    go_ret3
    exact ⟨_, by rw [Hc.out, Hv.out]; rfl, by rw [Hr.out]; exact ownI_nil _ _, hB1⟩
  have hl := tasksOk_len ht
  have Hll := Lib.hid (leastL_40 ht)
  have Ht := Lib.hid ht
  clear ht cT
  go_wp2_with fail
  go_loopw [5] (fun i wr => ∃ (n : Nat) (x : Int), i = .int .i64 x ∧ 1 ≤ x ∧ x ≤ 41 ∧ 41 < x + n ∧ oneX zs 41 1 = oneX zs n x ∧ Boxed wr w.heap.size 39 (.slice a zs.length cap) ∧ Below w.heap.size w wr) (fun i _ => 41 - (intOf i).toNat)
  case atStart => exact ⟨41, 1, rfl, by omega, by omega, by omega, rfl, bT, hB1⟩
  case round =>
    obtain ⟨n, x, rfl, hx1, hx2, hn, hex, bT2, hB2⟩ := hrel
    clear bT hB1
    have Hex := Lib.hid hex
    have cT := bT2.cell
    clear hex
    have hs2 := hB2.size
    go_wp2_with fail
    refine (min_c _ zs _ (hI.later hB2) (by omega) (by omega)).mono ?_
    rintro e w2 ⟨rfl, rfl⟩
    by_cases hle : x ≤ leastL zs
    · have hx40 := Hll.out
      obtain ⟨n, rfl⟩ : ∃ n', n = n' + 1 := ⟨n - 1, by omega⟩
      have hkl := kind_les Ht.out ⟨hx1, hle⟩
      have hfw : Try.prog.follows Departure.mixedOrders = true := by kernel_rfl
      obtain ⟨c, rs, hk2, hcase⟩ : ∃ c rs, KindIs zs (lesTo x zs zs.length) c rs ∧ ((c = 4 ∧ rs = [] ∧ oneX zs 41 1 = oneX zs n (x + 1)) ∨ (c = 0 ∧ oneC zs = 0 ∧ oneV zs = x ∧ oneR zs = rs)) := by
        refine ⟨_, _, hkl, ?_⟩
        cases hr : powT zs x with
        | none => exact .inl ⟨by unfold powC; rw [hr], by unfold powL; rw [hr]; rfl, Hex.out.trans (oneX_none hle hr)⟩
        | some l => exact .inr ⟨by unfold powC; rw [hr], one_some Ht.out (Hex.out.trans (oneX_some hle hr))⟩
      have Hcase := Lib.hid hcase
      have hx41 : x < 41 := by omega
      clear hkl hcase
      go_wp2_with fail
      clear cT
      refine wp_region_held_drew (S := fun w' => Boxed w' w.heap.size 39 (.slice a zs.length cap) ∧ Below w.heap.size w w') hfw ⟨bT2, hB2.drew⟩ ?_
      intro hS0
      refine wpAnyH_take (i := 0) (v := ?v0) rfl (by kernel_rfl) (by kernel_rfl) (by kernel_rfl) (fun _ _ _ h => h) (.inl ⟨by rfl, ?y0⟩) hS0 ?_
      case y0 =>
        intro w' hS
        (have k1 := hS.1.cell; clear hS)
        go_simp
        try with_reducible rfl
      refine wpAnyH_take (i := 1) (v := ?v1) rfl (by kernel_rfl) (by kernel_rfl) (by kernel_rfl) (fun _ _ _ h => h) (.inl ⟨by rfl, ?y1⟩) hS0 ?_
      case y1 =>
        intro w' hS
        (have k1 := hS.1.cell; clear hS)
        go_simp
        try with_reducible rfl
      refine wpAnyH_ready (rs := [2]) (by kernel_rfl) (by simp) ?_
      refine AllReadyH.cons rfl (fun K' hK' => ?_) AllReadyH.nil
      rw [if_pos (by rfl)]
      go_simp
      refine (lessenedTo_c x _).mono ?_
      rintro e w3 ⟨rfl, rfl⟩
      have s1 := hS0.1.alloc (.cells #[.int .i64 x] 2)
      have s2 := hS0.2.alloc hS0.2.size (.cells #[.int .i64 x] 2)
      have s3 : Boxed (wr.drew.alloc (.cells #[.int .i64 x] 2)) wr.heap.size 2 (.int .i64 x) := Boxed.new wr.drew 2 (.int .i64 x)
      refine hK'.out _ _ ⟨s1, s2⟩ fun hS1 => ?_
      refine wpAnyH_take (i := 3) (v := ?vb3) rfl (by kernel_rfl) (by kernel_rfl) (by kernel_rfl) (fun _ _ _ h => h) (.inl ⟨by rfl, ?yb3⟩) hS1 ?_
      case yb3 =>
        intro w' hS
        (clear hS)
        go_simp
        try with_reducible rfl
      refine wpAnyH_ready (rs := [4]) (by kernel_rfl) (by simp) ?_
      refine AllReadyH.cons rfl (fun K' hK' => ?_) AllReadyH.nil
      rw [if_pos (by rfl)]
      go_simp
      refine (turnsOfKind_c _ _ _ zs (lesTo x zs zs.length) c rs _ (hI.later s2) hm hk2 (fun ht W hW => tasksOfKind_les _ zs wr.heap.size x W ((hI.later s2).later hW) hm (boxed_later s3 hW) (by omega) (fun k hk => (tasksOk_nth ht hk).2))).mono ?_
      rintro e w4 ⟨v, rfl, ho, hb⟩
      have t1 := boxed_later s1 hb
      have t2 := s2.trans (hb.mono s2.size)
      refine hK'.out _ _ ⟨t1, t2⟩ fun hS2 => ?_
      have hs3 := s2.size
      refine wpAnyH_take (i := 5) (v := ?vc5) rfl (by kernel_rfl) (by kernel_rfl) (by kernel_rfl) (fun _ _ _ h => h) (.inl ⟨by rfl, ?yc5⟩) hS2 ?_
      case yc5 =>
        intro w' hS
        (clear hS)
        go_simp
        try with_reducible rfl
      refine wpAnyH_take (i := 6) (v := ?vc6) rfl (by kernel_rfl) (by kernel_rfl) (by kernel_rfl) (fun _ _ _ h => h) (.inl ⟨by rfl, ?yc6⟩) hS2 ?_
      case yc6 =>
        intro w' hS
        (clear hS)
        go_simp
        try with_reducible rfl
      refine wpAnyH_take (i := 7) (v := ?vc7) rfl (by kernel_rfl) (by kernel_rfl) (by kernel_rfl) (fun _ _ _ h => h) (.inl ⟨by rfl, ?yc7⟩) hS2 ?_
      case yc7 =>
        intro w' hS
        (clear hS)
        go_simp
        try with_reducible rfl
      refine wpAnyH_take (i := 8) (v := ?vc8) rfl (by kernel_rfl) (by kernel_rfl) (by kernel_rfl) (fun _ _ _ h => h) (.inl ⟨by rfl, ?yc8⟩) hS2 ?_
      case yc8 =>
        intro w' hS
        (clear hS)
        go_simp
        try with_reducible rfl
      refine wpAnyH_take (i := 9) (v := ?vc9) rfl (by kernel_rfl) (by kernel_rfl) (by kernel_rfl) (fun _ _ _ h => h) (.inl ⟨by rfl, ?yc9⟩) hS2 ?_
      case yc9 =>
        intro w' hS
        (clear hS)
        go_simp
        try with_reducible rfl
      refine wpAnyH_done (by kernel_rfl) ?_ _
      clear hS0 hS1 hS2 hb s1 s2 s3
      rcases Hcase.out with ⟨rfl, rfl, hex2⟩ | ⟨rfl, hc, hv, hr⟩
      · have Hex2 := Lib.hid hex2
        clear hex2
        go_wp2
        go_roundw
        case rel => exact ⟨n, x + 1, by simp, by omega, by omega, by omega, Hex2.out, t1, t2⟩
        case measure => simp [intOf]; omega
      · have Hc := Lib.hid hc
        have Hv := Lib.hid hv
        have Hr := Lib.hid hr
        clear hc hv hr
        go_wp2
        go_ret3
        exact ⟨_, by rw [Hc.out, Hv.out]; rfl, by rw [Hr.out]; exact ho.base hs3, t2⟩
    · obtain ⟨hc, hv, hr⟩ := one_none Ht.out (Hex.out.trans (oneX_stop hle))
      have Hc := Lib.hid hc
      have Hv := Lib.hid hv
      have Hr := Lib.hid hr
      clear hc hv hr
      go_wp2
      go_ret3
      exact ⟨_, by rw [Hc.out, Hv.out]; rfl, by rw [Hr.out]; exact ownI_nil _ _, hB2⟩

end Go.Proofs.Ytjgkdjnpbocnjaa
