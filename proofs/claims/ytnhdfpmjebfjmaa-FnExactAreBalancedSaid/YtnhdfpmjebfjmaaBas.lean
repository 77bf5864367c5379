/-
  AreBalanced of both.
  Conditions: lists of at most 1048576 elements.
-/
import Derived.Test.YtnhdfpmjebfjmaaBal
namespace Go.Proofs.Ytnhdfpmjebfjmaa
open Go.RowKit Go.Shelf
attribute [local go_sem] Oper.semAt_some

set_option maxRecDepth 100000 in
set_option maxHeartbeats 8000000 in
theorem i_AreBalanced (c0 : Value) (ts : List Int) (w : World) (hI : Ints w.heap.size w c0 ts) (_hN : I64s ts) (hm : ts.length ≤ 1048576) :
    Calls Try.prog 41 #[c0] w fun e w' => e = .returned (.tuple #[.bool (baR ts), .int .i64 (levC ts)]) ∧ Below w.heap.size w w' := by
  obtain ⟨a, cap, rfl⟩ := hI.shape
  by_cases hc : levC ts = 0
  · obtain ⟨ht, hs⟩ : turnsOk ts 8 = true ∧ sharedB ts = true := by
      rcases levC_cases ts with ⟨ht, hc'⟩ | ⟨ht, hs, hc'⟩ | ⟨ht, hs, hc'⟩
      · omega
      · omega
      · exact ⟨ht, hs⟩
    have hsh := shd ht hs
    have Hr := Lib.hid (show baR ts = balB ts by unfold baR; rw [if_pos hc])
    obtain ⟨M, hM⟩ : ∃ M : Nat, most ts = M := ⟨(most ts).toNat, by have := hsh.top; omega⟩
    have hM7 : M ≤ 7 := by have := hsh.top; omega
    have HM := Lib.hid hM
    have HK := Lib.hid (show lvK ts = M + 1 by unfold lvK; rw [hM]; omega)
    have hlen := hsh.len
    have hpos := hsh.pos
    have Ht := Lib.hid ht
    have Hc := Lib.hid hc
    clear ht hs hsh hM hc
    go_enter Try.func41, Try.ntmps41
    go_wp2_with fail
    refine (checkShared_c _ ts _ hI hm).mono ?_
    rintro e w1 ⟨he, hB1⟩
    rw [Hc.out] at he
    subst he
    go_wp2
    go_loopw [5] (fun i wr => ∃ (k : Nat), (k ≤ M + 1 ∧ i = .int .i64 k ∧ ∀ j : Nat, j < k → balI ts (j : Int) = true) ∧ Below w.heap.size w wr) (fun i _ => M + 2 - (intOf i).toNat)
    case atStart => exact ⟨0, ⟨Nat.zero_le _, rfl, fun j hj => by omega⟩, hB1⟩
    case round =>
      obtain ⟨k, ⟨hk, rfl, hall⟩, hB⟩ := hrel
      have Hall := Lib.hid hall
      clear hB1 hall
      have hsw := hB.size
      by_cases hkM : k ≤ M
      · have hki : (k : Int) ≤ (M : Int) := by omega
        obtain ⟨f, hf⟩ : ∃ f, balI ts (k : Int) = f := ⟨_, rfl⟩
        have Hf := Lib.hid hf
        clear hf
        go_wp2_with fail
        refine (max_c _ ts _ (hI.later hB) Ht.out).mono ?_
        rintro e w2 ⟨he, rfl⟩
        rw [HM.out] at he
        subst he
        go_wp2_with fail
        refine (isBalanced_c _ ts (k : Int) _ (hI.later hB) (by omega) hlen).mono ?_
        rintro e w3 ⟨he, hb3⟩
        rw [Hf.out] at he
        subst he
        have hB3 := hB.trans (hb3.mono hsw)
        clear hb3 hB
        cases f
        · have Hv := Lib.hid (show balB ts = false from balB_no (i := k) (by rw [HK.out]; omega) Hf.out)
          go_wp2
          go_ret2
          exact ⟨ret_bi (by rw [Hr.out, Hv.out]) Hc.out.symm, hB3⟩
        · go_wp2
          go_roundw
          case rel => exact ⟨k + 1, ⟨by omega, by simp, fun j hj => by by_cases e : j = k; (subst e; exact Hf.out); exact Hall.out j (by omega)⟩, hB3⟩
          case measure => simp [intOf]; omega
      · obtain rfl : k = M + 1 := by omega
        have Hv := Lib.hid (show balB ts = true from balB_yes (by rw [HK.out]; exact Hall.out))
        have hki : ¬ ((M + 1 : Nat) : Int) ≤ (M : Int) := by omega
        obtain ⟨x, hx⟩ : ∃ x : Int, ((M + 1 : Nat) : Int) = x := ⟨_, rfl⟩
        rw [hx] at hki ⊢
        go_wp2_with fail
        refine (max_c _ ts _ (hI.later hB) Ht.out).mono ?_
        rintro e w2 ⟨he, rfl⟩
        rw [HM.out] at he
        subst he
        go_wp2
        go_ret2
        exact ⟨ret_bi (by rw [Hr.out, Hv.out]) Hc.out.symm, hB⟩
  · have Hr := Lib.hid (show baR ts = false by unfold baR; rw [if_neg hc])
    obtain ⟨c, hcc⟩ : ∃ c, levC ts = c := ⟨_, rfl⟩
    rw [hcc] at hc
    have hq : (c != 0) = true := by simpa using hc
    have Hc := Lib.hid hcc
    clear hcc
    go_enter Try.func41, Try.ntmps41
    go_wp2_with fail
    refine (checkShared_c _ ts _ hI hm).mono ?_
    rintro e w1 ⟨he, hB1⟩
    rw [Hc.out] at he
    subst he
    go_wp2
    go_ret2
    exact ⟨ret_bi Hr.out.symm Hc.out.symm, hB1⟩

set_option maxRecDepth 100000 in
set_option maxHeartbeats 16000000 in
theorem s_AreBalanced (c0 : Value) (ts : List Int) (w : World) (hI : Ints w.heap.size w c0 ts) (_hN : I64s ts) (hm : ts.length ≤ 1048576) :
    Calls Try.prog 40 #[c0] w fun e w' => e = .returned (.tuple #[.bool (baR ts), .int .i64 (levC ts)]) ∧ Below w.heap.size w w' := by
  obtain ⟨a, cap, rfl⟩ := hI.shape
  by_cases hc : levC ts = 0
  · obtain ⟨ht, hs⟩ : turnsOk ts 8 = true ∧ sharedB ts = true := by
      rcases levC_cases ts with ⟨ht, hc'⟩ | ⟨ht, hs, hc'⟩ | ⟨ht, hs, hc'⟩
      · omega
      · omega
      · exact ⟨ht, hs⟩
    have hsh := shd ht hs
    have Hr := Lib.hid (show baR ts = balB ts by unfold baR; rw [if_pos hc])
    have Hvs := Lib.hid (show lvS ts = sharesL (lvK ts) ts by unfold lvS; rw [if_pos hc])
    obtain ⟨K, hK⟩ : ∃ K, lvK ts = K := ⟨_, rfl⟩
    have hK8 : K ≤ 8 := by have := hsh.top; rw [← hK]; unfold lvK; omega
    have HK := Lib.hid hK
    have hlen := hsh.len
    have hpos := hsh.pos
    have Hc := Lib.hid hc
    obtain ⟨L, hL⟩ : ∃ L, ts.length = L := ⟨_, rfl⟩
    clear ht hs hsh hK hc
    rw [hL] at hI hm hlen hpos ⊢
    have HL := Lib.hid hL
    clear hL
    have hLi : (0 : Int) < (L : Int) := by omega
    go_enter Try.func40, Try.ntmps40
    go_wp2_with fail
    refine (l07Given_c _ ts _ hI (by rw [HL.out]; exact hm)).mono ?_
    rintro e w1 ⟨vs, he, hos, hB1⟩
    rw [Hc.out] at he
    rw [Hvs.out, HK.out] at hos
    subst he
    obtain ⟨avs, cvs, rfl⟩ := hos.ints.shape
    rw [sharesL_length]
    clear hos
    obtain ⟨b, off, rfl, hb, hcl⟩ := (show Ints w1.heap.size w1 (.slice a ts.length cap) ts by rw [HL.out]; exact hI.later hB1).at_ (k := 0) (by rw [HL.out]; omega)
    have Hcl := Lib.hid hcl
    clear hcl
    go_wp2
    go_loop [26] (fun i => ∃ k : Nat, k ≤ K ∧ i = .int .i64 k ∧ ∀ j : Nat, j < k → balI ts (j : Int) = true) (fun i => K - (intOf i).toNat)
    case atStart => exact ⟨0, Nat.zero_le _, rfl, fun j hj => by omega⟩
    case round =>
      obtain ⟨i, hi, rfl, hall⟩ := hrel
      have Hall := Lib.hid hall
      clear hall
      by_cases hiK : i < K
      · have hii : (i : Int) < (K : Int) := by omega
        go_wp2
        go_loop [8] (fun l => ∃ len : Nat, (1 ≤ len ∧ len ≤ max L 1) ∧ l = .int .i64 len ∧ ∀ j : Nat, j < len → okW ts (i : Int) j = true) (fun l => L - (intOf l).toNat)
        case atStart => exact ⟨1, by omega, rfl, fun j hj => by
          obtain rfl : j = 0 := by omega
          unfold okW
          have h1 := upW_bd ts (i : Int) 0 ts.length
          have h2 := loW_bd ts (i : Int) 0 (s := ((0 : Nat) : Int)) (by omega) ts.length
          rw [decide_eq_true (by omega)]⟩
        case round =>
          obtain ⟨len, hlb, rfl, hok⟩ := hrel
          have Hok := Lib.hid hok
          clear hok
          by_cases hlL : len < L
          · have hli : (len : Int) < (L : Int) := by omega
            go_wp2
            go_loop [9, 10, 11] (fun lo up f => ∃ (n : Nat) (x y : Int), n ≤ L ∧ f = .int .i64 n ∧ lo = .int .i64 x ∧ up = .int .i64 y ∧ (x = loW ts (i : Int) len L n ∧ y = upW ts (i : Int) len n ∧ 0 ≤ x ∧ x ≤ L ∧ 0 ≤ y ∧ y ≤ len)) (fun _ _ f => L - (intOf f).toNat)
            case atStart => exact ⟨0, L, 0, Nat.zero_le _, rfl, rfl, rfl, rfl, rfl, by omega, by omega, by omega, by omega⟩
            case round =>
              obtain ⟨n, x, y, hn, rfl, rfl, rfl, hx, hy, hx0, hx1, hy0, hy1⟩ := hrel
              have Hx := Lib.hid hx
              have Hy := Lib.hid hy
              clear hx hy
              by_cases hnL : n < L
              · have hni : (n : Int) < (L : Int) := by omega
                go_wp2
                go_loop [12, 13] (fun c q => ∃ (j : Nat) (z : Int), j ≤ len ∧ q = .int .i64 j ∧ c = .int .i64 z ∧ (z = ((slotsTo (win ts n len) (i : Int) j).length : Nat) ∧ 0 ≤ z ∧ z ≤ j)) (fun _ q => len - (intOf q).toNat)
                case atStart => exact ⟨0, 0, Nat.zero_le _, rfl, rfl, by simp [slotsTo_zero], by omega, by omega⟩
                case round =>
                  obtain ⟨j, z, hj, rfl, rfl, hz, hz0, hz1⟩ := hrel
                  have Hz := Lib.hid hz
                  clear hz
                  by_cases hjl : j < len
                  · have hji : (j : Int) < (len : Int) := by omega
                    obtain ⟨p, hp⟩ : ∃ p : Nat, (n + j) % L = p := ⟨_, rfl⟩
                    have hpL : p < L := by rw [← hp]; exact Nat.mod_lt _ (by omega)
                    have hpi : (p : Int) < (L : Int) := by omega
                    have hrem : ((n : Int) + (j : Int)).tmod (L : Int) = (p : Int) := by rw [← hp]; exact (by rfl : (((n + j : Nat) : Int)).tmod (L : Int) = (((n + j) % L : Nat) : Int))
                    have hLz : ¬ (L : Int) = 0 := by omega
                    have hcx := Hcl.out p (by rw [HL.out]; exact hpL)
                    have hw := nth_win (ts := ts) (k := n) (len := len) (j := j) hjl
                    rw [HL.out, hp] at hw
                    have Hp := Lib.hid hp
                    clear hp
                    by_cases he : nth ts p = (i : Int)
                    · have hq : (nth ts p == (i : Int)) = true := by rw [beq_iff_eq]; exact he
                      have Hs := Lib.hid (show z + 1 = ((slotsTo (win ts n len) (i : Int) (j + 1)).length : Nat) by rw [slotsTo_yes (by rw [hw]; exact he), List.length_append, List.length_singleton, Hz.out]; omega)
                      clear he hw
                      go_wp2
                      exact ⟨⟨j + 1, z + 1, by omega, by simp, rfl, Hs.out, by omega, by omega⟩, by simp [intOf]; omega⟩
                    · have hq : (nth ts p == (i : Int)) = false := by rw [beq_eq_false_iff_ne]; exact he
                      have Hs := Lib.hid (show z = ((slotsTo (win ts n len) (i : Int) (j + 1)).length : Nat) by rw [slotsTo_no (by rw [hw]; exact he), Hz.out])
                      clear he hw
                      go_wp2
                      exact ⟨⟨j + 1, z, by omega, by simp, rfl, Hs.out, by omega, by omega⟩, by simp [intOf]; omega⟩
                  · obtain rfl : j = len := by omega
                    have hzw : z = wc ts (i : Int) j n := by rw [Hz.out]; unfold wc slotsL; rw [win_length]
                    have Hlo := Lib.hid (show loW ts (i : Int) j L (n + 1) = min x z by rw [hzw, Hx.out]; rfl)
                    have Hup := Lib.hid (show upW ts (i : Int) j (n + 1) = max y z by rw [hzw, Hy.out]; rfl)
                    clear hzw
                    by_cases e1 : z < x
                    · by_cases e2 : y < z
                      · go_wp2
                        exact ⟨⟨n + 1, z, z, by omega, by simp, by first | rfl | (congr 1; omega), by first | rfl | (congr 1; omega), by rw [Hlo.out]; omega, by rw [Hup.out]; omega, by omega, by omega, by omega, by omega⟩, by simp [intOf]; omega⟩
                      · go_wp2
                        exact ⟨⟨n + 1, z, y, by omega, by simp, by first | rfl | (congr 1; omega), by first | rfl | (congr 1; omega), by rw [Hlo.out]; omega, by rw [Hup.out]; omega, by omega, by omega, by omega, by omega⟩, by simp [intOf]; omega⟩
                    · by_cases e2 : y < z
                      · go_wp2
                        exact ⟨⟨n + 1, x, z, by omega, by simp, by first | rfl | (congr 1; omega), by first | rfl | (congr 1; omega), by rw [Hlo.out]; omega, by rw [Hup.out]; omega, by omega, by omega, by omega, by omega⟩, by simp [intOf]; omega⟩
                      · go_wp2
                        exact ⟨⟨n + 1, x, y, by omega, by simp, by first | rfl | (congr 1; omega), by first | rfl | (congr 1; omega), by rw [Hlo.out]; omega, by rw [Hup.out]; omega, by omega, by omega, by omega, by omega⟩, by simp [intOf]; omega⟩
              · obtain rfl : n = L := by omega
                have Hv := Lib.hid (show okW ts (i : Int) len = decide (y - x ≤ 1) by
                  unfold okW
                  rw [HL.out, ← Hy.out, loW_start ts (i : Int) len (s := (len : Int)) (t := (n : Int)) (by omega) (by omega) (k := n) (by omega), ← Hx.out])
                by_cases hgt : 1 < y - x
                · have Hb := Lib.hid (show balB ts = false from balB_no (i := i) (by rw [HK.out]; omega) (balI_no (len := len) (by rw [HL.out]; exact hlL) (by rw [Hv.out, decide_eq_false (by omega)])))
                  go_wp2
                  go_ret2
                  exact ⟨ret_bi (by rw [Hr.out, Hb.out]) Hc.out.symm, hB1⟩
                · have Hb := Lib.hid (show okW ts (i : Int) len = true by rw [Hv.out, decide_eq_true (by omega)])
                  go_wp2
                  exact ⟨⟨len + 1, by omega, by simp, fun j hj => by by_cases e : j = len; (subst e; exact Hb.out); exact Hok.out j (by omega)⟩, by simp [intOf]; omega⟩
          · have Hb := Lib.hid (show balI ts (i : Int) = true from balI_yes fun j hj => Hok.out j (by rw [HL.out] at hj; omega))
            have hlL2 : ¬ (len : Int) < (L : Int) := by omega
            go_wp2
            exact ⟨⟨i + 1, by omega, by simp, fun j hj => by by_cases e : j = i; (subst e; exact Hb.out); exact Hall.out j (by omega)⟩, by simp [intOf]; omega⟩
      · obtain rfl : i = K := by omega
        have Hb := Lib.hid (show balB ts = true from balB_yes (by rw [HK.out]; exact Hall.out))
        go_wp2
        go_ret2
        exact ⟨ret_bi (by rw [Hr.out, Hb.out]) Hc.out.symm, hB1⟩
  · have Hr := Lib.hid (show baR ts = false by unfold baR; rw [if_neg hc])
    obtain ⟨c, hcc⟩ : ∃ c, levC ts = c := ⟨_, rfl⟩
    rw [hcc] at hc
    have hq : (c != 0) = true := by simpa using hc
    have Hc := Lib.hid hcc
    clear hcc
    go_enter Try.func40, Try.ntmps40
    go_wp2_with fail
    refine (l07Given_c _ ts _ hI hm).mono ?_
    rintro e w1 ⟨vs, he, hos, hB1⟩
    rw [Hc.out] at he
    subst he
    clear hos
    go_wp2
    go_ret2
    exact ⟨ret_bi Hr.out.symm Hc.out.symm, hB1⟩

end Go.Proofs.Ytnhdfpmjebfjmaa
