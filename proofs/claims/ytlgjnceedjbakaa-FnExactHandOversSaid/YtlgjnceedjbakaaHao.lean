/-
  HandOvers of both.
  Conditions: at most 1048576 lists, of at most 1048576 elements each.
-/
import Derived.Test.YtlgjnceedjbakaaHan
namespace Go.Proofs.Ytlgjnceedjbakaa
open Go.RowKit Go.Shelf
attribute [local go_sem] Oper.semAt_some

theorem rem_pre {j n : Nat} (h : j < n) : (((j : Int) + (n : Int) - 1).tmod (n : Int)) = (((j + n - 1) % n : Nat) : Int) := by
  rw [Int.tmod_eq_emod_of_nonneg (by omega), Int.natCast_emod, show ((j + n - 1 : Nat) : Int) = (j : Int) + (n : Int) - 1 by omega]
theorem rem_suc (j n : Nat) : (((j : Int) + 1).tmod (n : Int)) = (((j + 1) % n : Nat) : Int) := by
  rw [Int.tmod_eq_emod_of_nonneg (by omega), Int.natCast_emod, show ((j + 1 : Nat) : Int) = (j : Int) + 1 by omega]

set_option maxRecDepth 100000 in
set_option maxHeartbeats 8000000 in
theorem i_HandOvers (k : Int) (c1 : Value) (xss : List (List Int)) (i : Int) (w : World) (hk : I64 k) (hX : Lsts w.heap.size w c1 xss) (hm : xss.length ≤ 1048576) (hm2 : ∀ c, c < xss.length → (lst xss c).length ≤ 1048576) (_hi : I64 i) :
    Calls Try.prog 35 #[.int .i64 k, c1, .int .i64 i] w fun e w' => e = .returned (.tuple #[.int .i64 (hoR k xss i), .int .i64 (hoC k xss i)]) ∧ Below w.heap.size w w' := by
  obtain ⟨a, cap, rfl⟩ := hX.shape
  have HX := Lib.hid hX
  have Hm2 := Lib.hid hm2
  clear hX hm2
  go_enter Try.func35, Try.ntmps35
  go_wp2_with fail
  refine (i_AreChannels k _ xss _ hk HX.out hm Hm2.out).mono ?_
  rintro e w1 ⟨rfl, hb⟩
  cases hc : chOk k xss
  · have hcc : hoC k xss i = 2 := by unfold hoC wtB; rw [hc]; rfl
    have Hc := Lib.hid hcc
    have Hr := Lib.hid (hoR_no (k := k) (xss := xss) (i := i) (by omega))
    clear hc hcc
    go_wp2
    go_ret2
    exact ⟨ret_i2w Hr.out.symm Hc.out.symm, hb⟩
  have hC := chOk_iff.1 hc
  have hk0 := hC.k0
  have hk8 := hC.k8
  obtain ⟨K, rfl⟩ : ∃ K : Nat, k = K := ⟨k.toNat, by omega⟩
  have Hch := Lib.hid hc
  have HC := Lib.hid hC
  clear hc hC
  by_cases h0 : i < 0
  · have hcc : hoC K xss i = 2 := by unfold hoC wtB; rw [inB_false.2 (by omega), Bool.and_false]; rfl
    have Hc := Lib.hid hcc
    have Hr := Lib.hid (hoR_no (k := K) (xss := xss) (i := i) (by omega))
    clear hcc
    go_wp2
    go_ret2
    exact ⟨ret_i2w Hr.out.symm Hc.out.symm, hb⟩
  by_cases h1 : (K : Int) ≤ i
  · have hcc : hoC K xss i = 2 := by unfold hoC wtB; rw [inB_false.2 (by omega), Bool.and_false]; rfl
    have Hc := Lib.hid hcc
    have Hr := Lib.hid (hoR_no (k := K) (xss := xss) (i := i) (by omega))
    clear hcc
    go_wp2
    go_ret2
    exact ⟨ret_i2w Hr.out.symm Hc.out.symm, hb⟩
  have Hwt := Lib.hid (show wtB K xss i = true by unfold wtB; rw [Hch.out, inB_true.2 (by omega)]; rfl)
  go_wp2_with fail
  refine (haveClash_c K _ xss _ (HX.out.later hb) HC.out).mono ?_
  rintro e w2 ⟨rfl, hb2⟩
  have hB2 := hb.trans (hb2.mono hb.size)
  by_cases hcl : 0 < (clL K xss).length
  · have hcc : hoC K xss i = 5 := by unfold hoC; rw [Hwt.out, if_pos rfl, Int.toNat_natCast, if_pos hcl]
    have Hc := Lib.hid hcc
    have Hr := Lib.hid (hoR_no (k := K) (xss := xss) (i := i) (by omega))
    rw [decide_eq_true hcl]
    clear hcc hcl
    go_wp2
    go_ret2
    exact ⟨ret_i2w Hr.out.symm Hc.out.symm, hB2⟩
  have hcc : hoC K xss i = 0 := by unfold hoC; rw [Hwt.out, if_pos rfl, Int.toNat_natCast, if_neg hcl]
  have Hc := Lib.hid hcc
  have Hr := Lib.hid (show hoR K xss i = (preN (hoL xss i) (hoL xss i).length : Nat) from if_pos hcc)
  rw [decide_eq_false hcl]
  clear hcc hcl hb hb2
  go_wp2_with fail
  refine (channelsOfTurns_c _ xss i (K : Int) _ (HX.out.later hB2) HC.out).mono ?_
  rintro e w3 ⟨v, rfl, ho, hb3⟩
  simp only [id]
  have hB3 := hB2.trans (hb3.mono hB2.size)
  have hI := ho.ints
  have hlen : (hoL xss i).length ≤ 480 := by
    have h1 := hoTo_len xss i (chN xss)
    have h2 : chN xss * xss.length ≤ 120 * 4 := Nat.mul_le_mul HC.out.n.2 HC.out.m4
    unfold hoL; omega
  obtain ⟨ps, hps⟩ : ∃ ps, hoL xss i = ps := ⟨_, rfl⟩
  rw [hps] at hI hlen Hr
  obtain ⟨ap, cp, rfl⟩ := hI.shape
  clear hps ho hb3 hB2
  go_wp2
  go_loopw [9, 33] (fun q x wr => ∃ j : Nat, j ≤ ps.length ∧ x = .int .i64 j ∧ q = .int .i64 (preN ps j : Nat) ∧ wr = w3) (fun _ x _ => ps.length - (intOf x).toNat)
  case atStart => exact ⟨0, Nat.zero_le _, rfl, rfl, rfl⟩
  case round =>
    obtain ⟨j, hj, rfl, rfl, rfl⟩ := hrel
    by_cases hlt : j < ps.length
    · obtain ⟨b, off, rfl, hb, hcl⟩ := hI.at_ hlt
      have c1 := hcl j hlt
      obtain ⟨t, ht⟩ : ∃ t, (j + ps.length - 1) % ps.length = t := ⟨_, rfl⟩
      have htl : t < ps.length := by rw [← ht]; exact Nat.mod_lt _ (by omega)
      have c2 := hcl t htl
      have hrm := rem_pre hlt
      rw [ht] at hrm
      have hji : (j : Int) < (ps.length : Int) := by omega
      have hti : (t : Int) < (ps.length : Int) := by omega
      have hpl := preN_le ps j
      have Ht := Lib.hid ht
      have hz : ¬ (ps.length : Int) = 0 := by omega
      have hz2 : ¬ ps = [] := by rintro rfl; simp at hlt
      clear hcl ht
      by_cases he : nth ps j = nth ps t
      · have hq : (nth ps j != nth ps t) = false := by simp [he]
        have Hy := Lib.hid (preN_no (ps := ps) (j := j) (by rw [Ht.out]; exact he))
        clear he
        go_wp2
        go_roundw
        case rel => exact ⟨j + 1, by omega, by simp, by rw [Hy.out], trivial⟩
        case measure => simp [intOf]; omega
      · have hq : (nth ps j != nth ps t) = true := by simpa using he
        have Hy := Lib.hid (preN_yes (ps := ps) (j := j) (by rw [Ht.out]; exact he))
        clear he
        go_wp2
        go_roundw
        case rel => exact ⟨j + 1, by omega, by simp, by rw [Hy.out]; simp, trivial⟩
        case measure => simp [intOf]; omega
    · obtain rfl : j = ps.length := by omega
      go_wp2
      go_ret2
      exact ⟨ret_i2w Hr.out.symm Hc.out.symm, hB3⟩

/-! ### the model: rows of int -/
def OwnN (B : Nat) (W : World) (v : Value) (zs : List Int) : Prop := W.ownsRow B 3 1 v zs.length (zs.map (.int .i64))
theorem OwnN.ints {B : Nat} {W : World} {v : Value} {zs : List Int} (h : OwnN B W v zs) : Ints W.heap.size W v zs := by
  have h' : W.ownsRow B 3 1 v zs.length (zs.map (.int .i64)) := h
  obtain ⟨_, h2⟩ := id h'
  rcases h2 with ⟨rfl, h0⟩ | ⟨g, cap, cur, rfl, hg, hh, hn, hm, hs, ht⟩
  · exact ⟨none, 0, by simp [h0], .inl (List.length_eq_zero_iff.1 h0)⟩
  · refine ⟨_, cap, rfl, .inr ⟨g, 0, rfl, (Array.getElem?_eq_some_iff.1 hh).1, fun j hj => ?_⟩⟩
    rw [Nat.zero_add, World.ownsRow.cellAt h' j (by omega)]
    simp [getElem?_nth hj]
theorem OwnN.blk {B : Nat} {W : World} {v : Value} {zs : List Int} (h : OwnN B W v zs) : ∀ k, v.ownBlock = some k → B ≤ k ∧ k < W.heap.size := World.ownsRow.lt h
theorem ownN_snoc {B : Nat} {W : World} {v : Value} {xs : List Int} {x : Int} (h : W.ownsRow B 3 1 v (xs.length + 1) (xs.map (Value.int .i64) ++ [.int .i64 x])) : OwnN B W v (xs ++ [x]) := by
  unfold OwnN; simpa using h
theorem Try.infoN8 : (Try.prog.info? 3).map (fun i => (i.zero, i.size, i.bytes)) = some (some (.int .i64 0), 1, 8) := by kernel_rfl
theorem hoTo_part (xss : List (List Int)) (i : Int) (s : Nat) : hoTo xss i (s + 1) = hoTo xss i s ++ asI (chTo xss s i xss.length) := hoTo_succ xss i s

set_option maxRecDepth 100000 in
set_option maxHeartbeats 16000000 in
theorem s_HandOvers (k : Int) (c1 : Value) (xss : List (List Int)) (i : Int) (w : World) (hk : I64 k) (hX : Lsts w.heap.size w c1 xss) (hm : xss.length ≤ 1048576) (hm2 : ∀ c, c < xss.length → (lst xss c).length ≤ 1048576) (_hi : I64 i) :
    Calls Try.prog 34 #[.int .i64 k, c1, .int .i64 i] w fun e w' => e = .returned (.tuple #[.int .i64 (hoR k xss i), .int .i64 (hoC k xss i)]) ∧ Below w.heap.size w w' := by
  obtain ⟨i0, hi, hz0, hz1, hz2⟩ := info_parts Try.infoN8
  have hfw : Try.prog.follows Departure.mixedOrders = true := by kernel_rfl
  obtain ⟨u, hU⟩ := hX
  obtain ⟨a, cap, rfl⟩ := hU.shape
  have HU := Lib.hid hU
  have Hm2 := Lib.hid hm2
  clear hU hm2
  go_enter Try.func34, Try.ntmps34
  go_wp2_with fail
  refine (l08Are_c k _ xss _ hk ⟨u, HU.out⟩ hm Hm2.out).mono ?_
  rintro e w1 ⟨rfl, hb⟩
  cases hc : chOk k xss
  · have hcc : hoC k xss i = 2 := by unfold hoC wtB; rw [hc]; rfl
    have Hc := Lib.hid hcc
    have Hr := Lib.hid (hoR_no (k := k) (xss := xss) (i := i) (by omega))
    clear hc hcc
    go_wp2
    go_ret2
    exact ⟨ret_i2w Hr.out.symm Hc.out.symm, hb⟩
  have hC := chOk_iff.1 hc
  have hk0 := hC.k0
  have hk8 := hC.k8
  have hm0 := hC.m0
  have hm4 := hC.m4
  have hn := hC.n
  obtain ⟨K, rfl⟩ : ∃ K : Nat, k = K := ⟨k.toNat, by omega⟩
  obtain ⟨N, hN⟩ : ∃ N, chN xss = N := ⟨_, rfl⟩
  rw [hN] at hn
  have HN := Lib.hid hN
  have Hch := Lib.hid hc
  have HC := Lib.hid hC
  clear hc hC hN
  go_wp2_with fail
  refine (l01In_d _ _ _ _ _ rfl).mono ?_
  rintro e w' ⟨rfl, rfl⟩
  cases h0 : inB i 0 ((K : Int) - 1)
  · have hcc : hoC K xss i = 2 := by unfold hoC wtB; rw [h0, Bool.and_false]; rfl
    have Hc := Lib.hid hcc
    have Hr := Lib.hid (hoR_no (k := K) (xss := xss) (i := i) (by omega))
    clear hcc h0
    go_wp2
    go_ret2
    exact ⟨ret_i2w Hr.out.symm Hc.out.symm, hb⟩
  have Hwt := Lib.hid (show wtB K xss i = true by unfold wtB; rw [Hch.out, h0]; rfl)
  clear h0
  go_wp2_with fail
  refine (l08Clashes_c K _ xss _ ⟨u, HU.out.later hb⟩ HC.out).mono ?_
  rintro e w2 ⟨v2, rfl, ho2, hb2⟩
  simp only [id]
  obtain ⟨a2, c2, rfl⟩ := ho2.shape
  rw [clPairs_length]
  have hB2 := hb.trans (hb2.mono hb.size)
  by_cases hcl : 0 < (clL K xss).length
  · have hcc : hoC K xss i = 5 := by unfold hoC; rw [Hwt.out, if_pos rfl, Int.toNat_natCast, if_pos hcl]
    have Hc := Lib.hid hcc
    have Hr := Lib.hid (hoR_no (k := K) (xss := xss) (i := i) (by omega))
    have hci : (0 : Int) < (((clL K xss).length : Nat) : Int) := by omega
    clear hcc hcl
    go_wp2
    go_ret2
    exact ⟨ret_i2w Hr.out.symm Hc.out.symm, hB2⟩
  have hcc : hoC K xss i = 0 := by unfold hoC; rw [Hwt.out, if_pos rfl, Int.toNat_natCast, if_neg hcl]
  have Hc := Lib.hid hcc
  have Hr := Lib.hid (show hoR K xss i = (sucN (hoL xss i) (hoL xss i).length : Nat) by rw [← pre_suc]; exact if_pos hcc)
  have hci : ¬ (0 : Int) < (((clL K xss).length : Nat) : Int) := by omega
  clear hcc hcl hb hb2 ho2
  go_wp2
  have hB3 : Below w.heap.size w (w2.alloc (.cells #[] 3)) := hB2.alloc hB2.size _
  have ho3 : OwnN w.heap.size (w2.alloc (.cells #[] 3)) (.slice (some ⟨w2.heap.size, 0, none⟩) 0 0) (hoTo xss i 0) := World.ownsRow_made w2 #[] 0 hB2.size (by unfold maxLen; omega) rfl
  go_loopw [8, 9] (fun v x wr => ∃ s : Nat, s ≤ N ∧ x = .int .i64 s ∧ OwnN w.heap.size wr v (hoTo xss i s) ∧ Below w.heap.size w wr) (fun _ x _ => N - (intOf x).toNat)
  case atStart => exact ⟨0, Nat.zero_le _, rfl, ho3, hB3⟩
  case round =>
    obtain ⟨s, hs, rfl, ho, hB⟩ := hrel
    clear ho3 hB3
    obtain ⟨b, off, a3, c3, rfl, hb, k1, _⟩ := (HU.out.later hB).read (show 0 < xss.length by omega)
    rw [Nat.add_zero] at k1
    rw [show (lst xss 0).length = N from HN.out] at k1
    have hlx : 0 < xss.length := by omega
    by_cases hlt : s < N
    · have hsi : (s : Int) < (N : Int) := by omega
      have hol := hoTo_len xss i s
      have hol2 : s * xss.length ≤ 120 * 4 := Nat.mul_le_mul (by omega) hm4
      have hl1 : (hoTo xss i s).length ≤ 480 := by omega
      have Hsu := Lib.hid (hoTo_part xss i s)
      obtain ⟨hs', hhs⟩ : ∃ hs', hoTo xss i s = hs' := ⟨_, rfl⟩
      rw [hhs] at ho hl1 Hsu
      clear hhs hol hol2
      go_wp2
      go_loopw [8, 10] (fun v x wr => ∃ c : Nat, c ≤ xss.length ∧ x = .int .i64 c ∧ OwnN w.heap.size wr v (hs' ++ asI (chTo xss s i c)) ∧ Below w.heap.size w wr) (fun _ x _ => xss.length - (intOf x).toNat)
      case atStart => exact ⟨0, Nat.zero_le _, rfl, by simpa [chTo_zero, asI] using ho, hB⟩
      case round =>
        obtain ⟨c, hc, rfl, ho2, hB2⟩ := hrel
        clear ho hB k1
        by_cases hlc : c < xss.length
        · obtain ⟨b1, off1, a4, c4, e1, hb1, k1, i1⟩ := (HU.out.later hB2).read hlc
          cases e1
          have hlr := HC.out.at_ hlc
          have hsr : s < (lst xss c).length := by rw [hlr, HN.out]; exact hlt
          obtain ⟨b2, off2, rfl, hb2, hc2⟩ := i1.at_ hsr
          have k2 := hc2 s hsr
          have hki : (c : Int) < (xss.length : Int) := by omega
          have hsi2 : (s : Int) < ((lst xss c).length : Int) := by omega
          have hcl := chTo_len xss s i c
          rw [← asI_length] at hcl
          have hsw := hB2.size
          clear hc2 i1 hlr
          by_cases he : nth (lst xss c) s = i
          · have hq : (nth (lst xss c) s == i) = true := by simp [he]
            have Hy := Lib.hid (show hs' ++ asI (chTo xss s i (c + 1)) = (hs' ++ asI (chTo xss s i c)) ++ [(c : Int)] by rw [chTo_yes he, asI_snoc, List.append_assoc])
            clear he
            obtain ⟨xs, hxs⟩ : ∃ xs, hs' ++ asI (chTo xss s i c) = xs := ⟨_, rfl⟩
            have hxl : xs.length ≤ 484 := by rw [← hxs, List.length_append]; omega
            rw [hxs] at ho2 Hy
            clear hxs hcl
            go_wp2_with (at_builtin; refine wpList_append_own _ rfl _ _ 77 rfl w.heap.size 3 i0 (.int .i64 0) 1 8 Try.underlying77 hi hz0 hz1 hz2 rfl (by decide) _ _ _ rfl (World.ownsRow.alloc ho2 _) ⟨wr.heap.size, 0, none⟩ 1 1 [.int .i64 (c : Int)] rfl rfl (Go.cell_one_new _ _ _) (by simp [Value.oneCell']) (by unfold maxLen; omega) (by omega) (by simp; omega) ?_)
            intro v' w5 hown' hgrow _
            have ho5 := ownN_snoc hown'
            rw [← Hy.out] at ho5
            have hB5 : Below w.heap.size w w5 := (hB2.alloc hsw _).grown hgrow (by simp; omega) (fun j e => by have := (ho2.blk j e).1; omega)
            clear hown' hgrow
            go_wp2
            go_roundw
            case rel => exact ⟨c + 1, by omega, by simp, ho5, hB5⟩
            case measure => simp [intOf]; omega
          · have hq : (nth (lst xss c) s == i) = false := by simpa using he
            have Hy := Lib.hid (chTo_no he)
            clear he
            go_wp2
            go_roundw
            case rel => exact ⟨c + 1, by omega, by simp, by rw [Hy.out]; exact ho2, hB2⟩
            case measure => simp [intOf]; omega
        · obtain rfl : c = xss.length := by omega
          rw [← Hsu.out] at ho2
          go_wp2
          go_roundw
          case rel => exact ⟨s + 1, by omega, by simp, ho2, hB2⟩
          case measure => simp [intOf]; omega
    · obtain rfl : s = N := by omega
      have hlen : (hoL xss i).length ≤ 480 := by
        have h1 := hoTo_len xss i (chN xss)
        have h2 : chN xss * xss.length ≤ 120 * 4 := Nat.mul_le_mul HC.out.n.2 HC.out.m4
        unfold hoL; omega
      have hLL : hoL xss i = hoTo xss i s := by unfold hoL; rw [HN.out]
      rw [← hLL] at ho
      have hI := ho.ints
      obtain ⟨ps, hps⟩ : ∃ ps, hoL xss i = ps := ⟨_, rfl⟩
      rw [hps] at hI hlen Hr
      obtain ⟨ap, cp, rfl⟩ := hI.shape
      have HI := Lib.hid hI
      clear hps ho hLL hI
      go_wp2
      go_loopw [11, 12] (fun q x wq => ∃ j : Nat, j ≤ ps.length ∧ x = .int .i64 j ∧ q = .int .i64 (sucN ps j : Nat) ∧ Below wr.heap.size wr wq) (fun _ x _ => ps.length - (intOf x).toNat)
      case atStart => exact ⟨0, Nat.zero_le _, rfl, rfl, Below.refl _ _⟩
      case round =>
        obtain ⟨j, hj, rfl, rfl, hBq⟩ := hrel
        by_cases hlj : j < ps.length
        · obtain ⟨b9, off9, rfl, hb9, hcl9⟩ := (HI.out.below hBq).at_ hlj
          have c1 := hcl9 j hlj
          obtain ⟨t, ht⟩ : ∃ t, (j + 1) % ps.length = t := ⟨_, rfl⟩
          have htl : t < ps.length := by rw [← ht]; exact Nat.mod_lt _ (by omega)
          have c2 := hcl9 t htl
          have hrm := rem_suc j ps.length
          rw [ht] at hrm
          have hji : (j : Int) < (ps.length : Int) := by omega
          have hti : (t : Int) < (ps.length : Int) := by omega
          have hpl := sucN_le ps j
          have Ht := Lib.hid ht
          have hz : ¬ (ps.length : Int) = 0 := by omega
          have hz2 : ¬ ps = [] := by rintro rfl; simp at hlj
          have HBq := Lib.hid hBq
          clear hcl9 ht hBq
          by_cases he : nth ps j = nth ps t
          · have hq : (nth ps j != nth ps t) = false := by simp [he]
            have Hy := Lib.hid (sucN_no (ps := ps) (j := j) (by rw [Ht.out]; exact he))
            clear he
            go_wp2_with fail
            go_quiet (fail)
            have hB9 := HBq.out.trans ((below_drewN (Below.refl _ _) nq).mono HBq.out.size)
            go_wp2
            go_roundw
            case rel => exact ⟨j + 1, by omega, by simp, by rw [Hy.out], hB9⟩
            case measure => simp [intOf]; omega
          · have hq : (nth ps j != nth ps t) = true := by simpa using he
            have Hy := Lib.hid (sucN_yes (ps := ps) (j := j) (by rw [Ht.out]; exact he))
            clear he
            go_wp2_with fail
            go_quiet (fail)
            have hB9 := HBq.out.trans ((below_drewN (Below.refl _ _) nq).mono HBq.out.size)
            go_wp2
            go_roundw
            case rel => exact ⟨j + 1, by omega, by simp, by rw [Hy.out]; simp, hB9⟩
            case measure => simp [intOf]; omega
        · obtain rfl : j = ps.length := by omega
          go_wp2
          go_ret2
          exact ⟨ret_i2w Hr.out.symm Hc.out.symm, hB.trans (hBq.mono hB.size)⟩

end Go.Proofs.Ytlgjnceedjbakaa
