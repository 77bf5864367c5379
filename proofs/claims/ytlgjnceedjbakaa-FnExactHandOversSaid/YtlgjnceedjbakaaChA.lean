/-
  AreChannels of both.
  Conditions: at most 1048576 lists, of at most 1048576 elements each.
-/
import Derived.Test.YtlgjnceedjbakaaChm
import Derived.Test.YtlgjnceedjbakaaChkI
namespace Go.Proofs.Ytlgjnceedjbakaa
open Go.RowKit Go.Shelf
attribute [local go_sem] Oper.semAt_some

/-- row c of a list of lists, as it is read in a world -/
theorem LstsU.read {n₀ : Nat} {W : World} {a : Option Addr} {cap : Nat} {xss : List (List Int)} {u : Nat → Value} (h : LstsU n₀ W (.slice a xss.length cap) xss u) {c : Nat} (hc : c < xss.length) :
    ∃ b off a3 c3, a = some ⟨b, off, none⟩ ∧ b < n₀ ∧ W.cell? ⟨b, off + c, none⟩ = some (.slice a3 (lst xss c).length c3) ∧ Ints n₀ W (.slice a3 (lst xss c).length c3) (lst xss c) := by
  obtain ⟨b, off, rfl, hb, hcl⟩ := h.at_ hc
  have hi := h.2 c hc
  obtain ⟨a3, c3, e3⟩ := hi.shape
  rw [e3] at hi
  exact ⟨b, off, a3, c3, rfl, hb, by rw [hcl c hc, e3], hi⟩

set_option maxRecDepth 100000 in
set_option maxHeartbeats 8000000 in
theorem i_AreChannels (k : Int) (c1 : Value) (xss : List (List Int)) (w : World) (_hk : I64 k) (hX : Lsts w.heap.size w c1 xss) (hm : xss.length ≤ 1048576) (hm2 : ∀ c, c < xss.length → (lst xss c).length ≤ 1048576) :
    Calls Try.prog 21 #[.int .i64 k, c1] w fun e w' => e = .returned (.bool (chOk k xss)) ∧ Below w.heap.size w w' := by
  obtain ⟨u, hU⟩ := hX
  obtain ⟨a, cap, rfl⟩ := hU.shape
  have hB0 : Below w.heap.size w w := Below.refl _ _
  by_cases hk1 : k < 1
  · have Hf := Lib.hid (chOk_k (k := k) (xss := xss) (inB_false.2 (by omega)))
    clear hU
    go_enter Try.func21, Try.ntmps21
    go_wp2
    go_ret
    exact ⟨ret_bool Hf.out.symm, hB0⟩
  by_cases hk8 : k > 8
  · have Hf := Lib.hid (chOk_k (k := k) (xss := xss) (inB_false.2 (by omega)))
    clear hU
    go_enter Try.func21, Try.ntmps21
    go_wp2
    go_ret
    exact ⟨ret_bool Hf.out.symm, hB0⟩
  by_cases hl1 : xss.length < 1
  · have Hf := Lib.hid (chOk_m (k := k) (xss := xss) (by omega))
    have hli : (xss.length : Int) < 1 := by omega
    clear hU
    go_enter Try.func21, Try.ntmps21
    go_wp2
    go_ret
    exact ⟨ret_bool Hf.out.symm, hB0⟩
  by_cases hl4 : 4 < xss.length
  · have Hf := Lib.hid (chOk_m (k := k) (xss := xss) (by omega))
    have hli : ¬ (xss.length : Int) < 1 := by omega
    have hlj : (xss.length : Int) > 4 := by omega
    clear hU
    go_enter Try.func21, Try.ntmps21
    go_wp2
    go_ret
    exact ⟨ret_bool Hf.out.symm, hB0⟩
  have hli : ¬ (xss.length : Int) < 1 := by omega
  have hlj : ¬ (xss.length : Int) > 4 := by omega
  have H1 := Lib.hid (inB_true.2 (show 1 ≤ k ∧ k ≤ 8 by omega))
  have HU := Lib.hid hU
  have Hm2 := Lib.hid hm2
  clear hU hm2
  go_enter Try.func21, Try.ntmps21
  go_wp2
  go_loopw [25] (fun i wr => ∃ c : Nat, c ≤ xss.length ∧ i = .int .i64 c ∧ (∀ d, d < c → turnsOk (lst xss d) k = true ∧ (lst xss d).length = (lst xss 0).length) ∧ Below w.heap.size w wr) (fun i _ => xss.length - (intOf i).toNat)
  case atStart => exact ⟨0, Nat.zero_le _, rfl, by simp, hB0⟩
  case round =>
    obtain ⟨c, hc, rfl, hall, hB⟩ := hrel
    have Hall := Lib.hid hall
    clear hall hB0
    by_cases hlt : c < xss.length
    · have hU1 := HU.out.later hB
      obtain ⟨b, off, a3, c3, rfl, hb, k1, i1⟩ := hU1.read hlt
      have hki : (c : Int) < (xss.length : Int) := by omega
      have hlc := Hm2.out c hlt
      cases ht : turnsOk (lst xss c) k
      · have Hf := Lib.hid (chOk_no hlt (.inl ht))
        have Ht := Lib.hid ht
        clear ht hU1
        go_wp2_with fail
        refine (areTurns_c _ _ k _ i1 (by omega)).mono ?_
        rintro e w5 ⟨he, hb5⟩
        rw [Ht.out] at he
        subst he
        have hB2 := hB.trans (hb5.mono hB.size)
        go_wp2
        go_ret
        exact ⟨ret_bool Hf.out.symm, hB2⟩
      · have Ht := Lib.hid ht
        clear ht
        go_wp2_with fail
        refine (areTurns_c _ _ k _ i1 (by omega)).mono ?_
        rintro e w5 ⟨he, hb5⟩
        rw [Ht.out] at he
        subst he
        have hB2 := hB.trans (hb5.mono hB.size)
        obtain ⟨b', off', a4, c4, e', hb', k2, _⟩ := (hU1.later hb5).read (show 0 < xss.length by omega)
        simp only [Option.some.injEq, Addr.mk.injEq, and_true] at e'
        obtain ⟨rfl, rfl⟩ := e'
        rw [Nat.add_zero] at k2
        clear hb' hU1 hb5 hB i1
        by_cases hn : (lst xss c).length = (lst xss 0).length
        · have Hs := Lib.hid (show ∀ d, d < c + 1 → turnsOk (lst xss d) k = true ∧ (lst xss d).length = (lst xss 0).length from fun d hd => by
            by_cases e : d = c
            · subst e; exact ⟨Ht.out, hn⟩
            · exact Hall.out d (by omega))
          have hq : (((lst xss c).length : Int) != ((lst xss 0).length : Int)) = false := by simp [hn]
          clear hn
          go_wp2
          go_roundw
          case rel => exact ⟨c + 1, by omega, by simp, Hs.out, hB2⟩
          case measure => simp [intOf]; omega
        · have Hf := Lib.hid (chOk_no (k := k) hlt (.inr hn))
          have hq : (((lst xss c).length : Int) != ((lst xss 0).length : Int)) = true := by simp; omega
          clear hn
          go_wp2
          go_ret
          exact ⟨ret_bool Hf.out.symm, hB2⟩
    · obtain rfl : c = xss.length := by omega
      have Hf := Lib.hid (chOk_yes H1.out (by omega) Hall.out)
      go_wp2
      go_ret
      exact ⟨ret_bool Hf.out.symm, hB⟩

set_option maxRecDepth 100000 in
set_option maxHeartbeats 8000000 in
theorem l08Are_c (k : Int) (c1 : Value) (xss : List (List Int)) (w : World) (_hk : I64 k) (hX : Lsts w.heap.size w c1 xss) (hm : xss.length ≤ 1048576) (hm2 : ∀ c, c < xss.length → (lst xss c).length ≤ 1048576) :
    Calls Try.prog 57 #[.int .i64 k, c1] w fun e w' => e = .returned (.bool (chOk k xss)) ∧ Below w.heap.size w w' := by
  obtain ⟨u, hU⟩ := hX
  obtain ⟨a, cap, rfl⟩ := hU.shape
  have hB0 : Below w.heap.size w w := Below.refl _ _
  cases hk1 : inB k 1 8
  · have Hf := Lib.hid (chOk_k (xss := xss) hk1)
    clear hU
    go_enter Try.func57, Try.ntmps57
    go_wp2_with fail
    refine (l01In_d false _ _ _ _ hk1).mono ?_
    rintro e w1 ⟨rfl, rfl⟩
    go_wp2
    go_ret
    exact ⟨ret_bool Hf.out.symm, hB0⟩
  by_cases hl1 : xss.length < 1
  · have Hf := Lib.hid (chOk_m (k := k) (xss := xss) (by omega))
    have hli : (xss.length : Int) < 1 := by omega
    clear hU
    go_enter Try.func57, Try.ntmps57
    go_wp2_with fail
    refine (l01In_d true _ _ _ _ hk1).mono ?_
    rintro e w1 ⟨rfl, rfl⟩
    go_wp2
    go_ret
    exact ⟨ret_bool Hf.out.symm, hB0⟩
  by_cases hl4 : 4 < xss.length
  · have Hf := Lib.hid (chOk_m (k := k) (xss := xss) (by omega))
    have hli : ¬ (xss.length : Int) < 1 := by omega
    have hlj : (xss.length : Int) > 4 := by omega
    clear hU
    go_enter Try.func57, Try.ntmps57
    go_wp2_with fail
    refine (l01In_d true _ _ _ _ hk1).mono ?_
    rintro e w1 ⟨rfl, rfl⟩
    go_wp2
    go_ret
    exact ⟨ret_bool Hf.out.symm, hB0⟩
  have hli : ¬ (xss.length : Int) < 1 := by omega
  have hlj : ¬ (xss.length : Int) > 4 := by omega
  have H1 := Lib.hid hk1
  have hkb := inB_true.1 hk1
  have hk0 : 0 ≤ k := by omega
  have hk8 : k ≤ 8 := hkb.2
  have HU := Lib.hid hU
  have Hm2 := Lib.hid hm2
  clear hU hm2 hkb
  go_enter Try.func57, Try.ntmps57
  go_wp2_with fail
  refine (l01In_d true _ _ _ _ hk1).mono ?_
  rintro e w1 ⟨rfl, rfl⟩
  clear hk1
  go_wp2
  go_loopw [5] (fun i wr => ∃ c : Nat, c ≤ xss.length ∧ i = .int .i64 c ∧ (∀ d, d < c → turnsOk (lst xss d) k = true ∧ (lst xss d).length = (lst xss 0).length) ∧ Below w.heap.size w wr) (fun i _ => xss.length - (intOf i).toNat)
  case atStart => exact ⟨0, Nat.zero_le _, rfl, by simp, hB0⟩
  case round =>
    obtain ⟨c, hc, rfl, hall, hB⟩ := hrel
    have Hall := Lib.hid hall
    clear hall hB0
    by_cases hlt : c < xss.length
    · have hU1 := HU.out.later hB
      obtain ⟨b, off, a3, c3, rfl, hb, k1, i1⟩ := hU1.read hlt
      have hki : (c : Int) < (xss.length : Int) := by omega
      have hlc := Hm2.out c hlt
      obtain ⟨b', off', a4, c4, e', hb', k2, _⟩ := hU1.read (show 0 < xss.length by omega)
      simp only [Option.some.injEq, Addr.mk.injEq, and_true] at e'
      obtain ⟨rfl, rfl⟩ := e'
      rw [Nat.add_zero] at k2
      clear hb' hU1
      have HB := Lib.hid hB
      clear hB
      have hfw : Try.prog.follows Departure.mixedOrders = true := by kernel_rfl
      have hl0 : 0 < xss.length := by omega
      replace k1 : wr.drew.cell? ⟨b, off + c, none⟩ = some (.slice a3 (lst xss c).length c3) := k1
      replace k2 : wr.drew.cell? ⟨b, off, none⟩ = some (.slice a4 (lst xss 0).length c4) := k2
      replace i1 := i1.later ((Below.refl _ _).drew)
      cases ht : turnsOk (lst xss c) k
      · have Hf := Lib.hid (chOk_no hlt (.inl ht))
        have Ht := Lib.hid ht
        clear ht
        go_wp2_with fail
        refine wp_region_held_drew (S := fun w' => w' = wr.drew) hfw rfl ?_
        intro hS0
        refine wpAnyH_take (i := 0) (v := ?vz1q0) rfl (by kernel_rfl) (by kernel_rfl) (by kernel_rfl) (fun _ _ _ h => h) (.inl ⟨by first | kernel_rfl | rfl, ?yz1q0⟩) rfl ?_
        case yz1q0 =>
          intro w' hS
          (subst hS)
          go_simp
          try with_reducible rfl
        refine wpAnyH_take (i := 1) (v := ?vz1q1) rfl (by kernel_rfl) (by kernel_rfl) (by kernel_rfl) (fun _ _ _ h => h) (.inl ⟨by first | kernel_rfl | rfl, ?yz1q1⟩) rfl ?_
        case yz1q1 =>
          intro w' hS
          (subst hS)
          go_simp
          try with_reducible rfl
        refine wpAnyH_take (i := 2) (v := ?vz1q2) rfl (by kernel_rfl) (by kernel_rfl) (by kernel_rfl) (fun _ _ _ h => h) (.inl ⟨by first | kernel_rfl | rfl, ?yz1q2⟩) rfl ?_
        case yz1q2 =>
          intro w' hS
          (subst hS)
          go_simp
          try with_reducible rfl
        refine wpAnyH_take (i := 3) (v := ?vz1q3) rfl (by kernel_rfl) (by kernel_rfl) (by kernel_rfl) (fun _ _ _ h => h) (.inl ⟨by first | kernel_rfl | rfl, ?yz1q3⟩) rfl ?_
        case yz1q3 =>
          intro w' hS
          (subst hS)
          go_simp
          try with_reducible rfl
        refine wpAnyH_take (i := 4) (v := ?vz1q4) rfl (by kernel_rfl) (by kernel_rfl) (by kernel_rfl) (fun _ _ _ h => h) (.inl ⟨by first | kernel_rfl | rfl, ?yz1q4⟩) rfl ?_
        case yz1q4 =>
          intro w' hS
          (subst hS)
          go_simp
          try with_reducible rfl
        try simp only [Act.put, List.getElem_toArray, List.getElem_cons_zero, List.getElem_cons_succ, List.setIfInBounds_toArray, List.set_cons_zero, List.set_cons_succ]
        refine wpAnyH_ready (rs := [5]) (by kernel_rfl) (by simp) ?_
        refine AllReadyH.cons rfl (fun K' hK' => ?_) AllReadyH.nil
        rw [if_pos (by first | kernel_rfl | rfl)]
        go_simp
        refine (l01Turns_c _ _ k _ i1 (by omega) (by omega) (by omega)).mono ?_
        rintro e w' ⟨he, rfl⟩
        rw [Ht.out] at he
        subst he
        refine hK'.out _ _ rfl fun hS1 => ?_
        refine wpAnyH_take (i := 6) (v := ?vz2q6) rfl (by kernel_rfl) (by kernel_rfl) (by kernel_rfl) (fun _ _ _ h => h) (.inl ⟨by first | kernel_rfl | rfl, ?yz2q6⟩) rfl ?_
        case yz2q6 =>
          intro w' hS
          (subst hS)
          go_simp
          try with_reducible rfl
        refine wpAnyH_take (i := 7) (v := ?vz2q7) rfl (by kernel_rfl) (by kernel_rfl) (by kernel_rfl) (fun _ _ _ h => h) (.inl ⟨by first | kernel_rfl | rfl, ?yz2q7⟩) rfl ?_
        case yz2q7 =>
          intro w' hS
          (subst hS)
          go_simp
          try with_reducible rfl
        try simp only [Act.put, List.getElem_toArray, List.getElem_cons_zero, List.getElem_cons_succ, List.setIfInBounds_toArray, List.set_cons_zero, List.set_cons_succ]
        refine wpAnyH_take (i := 8) (v := undef) rfl (by kernel_rfl) (by kernel_rfl) (by kernel_rfl) (fun _ _ _ h => h) (.inr ⟨by kernel_rfl, rfl⟩) rfl ?_
        refine wpAnyH_take (i := 9) (v := undef) rfl (by kernel_rfl) (by kernel_rfl) (by kernel_rfl) (fun _ _ _ h => h) (.inr ⟨by kernel_rfl, rfl⟩) rfl ?_
        refine wpAnyH_take (i := 10) (v := undef) rfl (by kernel_rfl) (by kernel_rfl) (by kernel_rfl) (fun _ _ _ h => h) (.inr ⟨by kernel_rfl, rfl⟩) rfl ?_
        refine wpAnyH_take (i := 11) (v := undef) rfl (by kernel_rfl) (by kernel_rfl) (by kernel_rfl) (fun _ _ _ h => h) (.inr ⟨by kernel_rfl, rfl⟩) rfl ?_
        refine wpAnyH_take (i := 12) (v := undef) rfl (by kernel_rfl) (by kernel_rfl) (by kernel_rfl) (fun _ _ _ h => h) (.inr ⟨by kernel_rfl, rfl⟩) rfl ?_
        refine wpAnyH_take (i := 13) (v := undef) rfl (by kernel_rfl) (by kernel_rfl) (by kernel_rfl) (fun _ _ _ h => h) (.inr ⟨by kernel_rfl, rfl⟩) rfl ?_
        refine wpAnyH_take (i := 14) (v := undef) rfl (by kernel_rfl) (by kernel_rfl) (by kernel_rfl) (fun _ _ _ h => h) (.inr ⟨by kernel_rfl, rfl⟩) rfl ?_
        refine wpAnyH_take (i := 15) (v := undef) rfl (by kernel_rfl) (by kernel_rfl) (by kernel_rfl) (fun _ _ _ h => h) (.inr ⟨by kernel_rfl, rfl⟩) rfl ?_
        refine wpAnyH_take (i := 16) (v := undef) rfl (by kernel_rfl) (by kernel_rfl) (by kernel_rfl) (fun _ _ _ h => h) (.inr ⟨by kernel_rfl, rfl⟩) rfl ?_
        refine wpAnyH_take (i := 17) (v := undef) rfl (by kernel_rfl) (by kernel_rfl) (by kernel_rfl) (fun _ _ _ h => h) (.inr ⟨by kernel_rfl, rfl⟩) rfl ?_
        try simp only [Act.put, List.getElem_toArray, List.getElem_cons_zero, List.getElem_cons_succ, List.setIfInBounds_toArray, List.set_cons_zero, List.set_cons_succ]
        refine wpAnyH_take (i := 18) (v := ?vz3q18) rfl (by kernel_rfl) (by kernel_rfl) (by kernel_rfl) (fun _ _ _ h => h) (.inl ⟨by first | kernel_rfl | rfl, ?yz3q18⟩) rfl ?_
        case yz3q18 =>
          intro w' hS
          (subst hS)
          go_simp
          try with_reducible rfl
        try simp only [Act.put, List.getElem_toArray, List.getElem_cons_zero, List.getElem_cons_succ, List.setIfInBounds_toArray, List.set_cons_zero, List.set_cons_succ]
        refine wpAnyH_done (by kernel_rfl) ?_ _
        go_wp2
        go_ret
        exact ⟨ret_bool Hf.out.symm, HB.out.drew⟩
      · have Ht := Lib.hid ht
        clear ht
        go_wp2_with fail
        refine wp_region_held_drew (S := fun w' => w' = wr.drew) hfw rfl ?_
        intro hS0
        refine wpAnyH_take (i := 0) (v := ?vz4q0) rfl (by kernel_rfl) (by kernel_rfl) (by kernel_rfl) (fun _ _ _ h => h) (.inl ⟨by first | kernel_rfl | rfl, ?yz4q0⟩) rfl ?_
        case yz4q0 =>
          intro w' hS
          (subst hS)
          go_simp
          try with_reducible rfl
        refine wpAnyH_take (i := 1) (v := ?vz4q1) rfl (by kernel_rfl) (by kernel_rfl) (by kernel_rfl) (fun _ _ _ h => h) (.inl ⟨by first | kernel_rfl | rfl, ?yz4q1⟩) rfl ?_
        case yz4q1 =>
          intro w' hS
          (subst hS)
          go_simp
          try with_reducible rfl
        refine wpAnyH_take (i := 2) (v := ?vz4q2) rfl (by kernel_rfl) (by kernel_rfl) (by kernel_rfl) (fun _ _ _ h => h) (.inl ⟨by first | kernel_rfl | rfl, ?yz4q2⟩) rfl ?_
        case yz4q2 =>
          intro w' hS
          (subst hS)
          go_simp
          try with_reducible rfl
        refine wpAnyH_take (i := 3) (v := ?vz4q3) rfl (by kernel_rfl) (by kernel_rfl) (by kernel_rfl) (fun _ _ _ h => h) (.inl ⟨by first | kernel_rfl | rfl, ?yz4q3⟩) rfl ?_
        case yz4q3 =>
          intro w' hS
          (subst hS)
          go_simp
          try with_reducible rfl
        refine wpAnyH_take (i := 4) (v := ?vz4q4) rfl (by kernel_rfl) (by kernel_rfl) (by kernel_rfl) (fun _ _ _ h => h) (.inl ⟨by first | kernel_rfl | rfl, ?yz4q4⟩) rfl ?_
        case yz4q4 =>
          intro w' hS
          (subst hS)
          go_simp
          try with_reducible rfl
        try simp only [Act.put, List.getElem_toArray, List.getElem_cons_zero, List.getElem_cons_succ, List.setIfInBounds_toArray, List.set_cons_zero, List.set_cons_succ]
        refine wpAnyH_ready (rs := [5]) (by kernel_rfl) (by simp) ?_
        refine AllReadyH.cons rfl (fun K' hK' => ?_) AllReadyH.nil
        rw [if_pos (by first | kernel_rfl | rfl)]
        go_simp
        refine (l01Turns_c _ _ k _ i1 (by omega) (by omega) (by omega)).mono ?_
        rintro e w' ⟨he, rfl⟩
        rw [Ht.out] at he
        subst he
        refine hK'.out _ _ rfl fun hS1 => ?_
        by_cases hn : (lst xss c).length = (lst xss 0).length
        · have Hs := Lib.hid (show ∀ d, d < c + 1 → turnsOk (lst xss d) k = true ∧ (lst xss d).length = (lst xss 0).length from fun d hd => by
            by_cases e : d = c
            · subst e; exact ⟨Ht.out, hn⟩
            · exact Hall.out d (by omega))
          have hq : (((lst xss c).length : Int) != ((lst xss 0).length : Int)) = false := by simp [hn]
          have Hq := Lib.hid hq
          clear hn hq
          refine wpAnyH_take (i := 6) (v := ?vz5q6) rfl (by kernel_rfl) (by kernel_rfl) (by kernel_rfl) (fun _ _ _ h => h) (.inl ⟨by first | kernel_rfl | rfl, ?yz5q6⟩) rfl ?_
          case yz5q6 =>
            intro w' hS
            (subst hS)
            go_simp
            try with_reducible rfl
          refine wpAnyH_take (i := 7) (v := ?vz5q7) rfl (by kernel_rfl) (by kernel_rfl) (by kernel_rfl) (fun _ _ _ h => h) (.inl ⟨by first | kernel_rfl | rfl, ?yz5q7⟩) rfl ?_
          case yz5q7 =>
            intro w' hS
            (subst hS)
            go_simp
            try with_reducible rfl
          refine wpAnyH_take (i := 8) (v := ?vz5q8) rfl (by kernel_rfl) (by kernel_rfl) (by kernel_rfl) (fun _ _ _ h => h) (.inl ⟨by first | kernel_rfl | rfl, ?yz5q8⟩) rfl ?_
          case yz5q8 =>
            intro w' hS
            (subst hS)
            go_simp
            try with_reducible rfl
          refine wpAnyH_take (i := 9) (v := ?vz5q9) rfl (by kernel_rfl) (by kernel_rfl) (by kernel_rfl) (fun _ _ _ h => h) (.inl ⟨by first | kernel_rfl | rfl, ?yz5q9⟩) rfl ?_
          case yz5q9 =>
            intro w' hS
            (subst hS)
            go_simp
            try with_reducible rfl
          refine wpAnyH_take (i := 10) (v := ?vz5q10) rfl (by kernel_rfl) (by kernel_rfl) (by kernel_rfl) (fun _ _ _ h => h) (.inl ⟨by first | kernel_rfl | rfl, ?yz5q10⟩) rfl ?_
          case yz5q10 =>
            intro w' hS
            (subst hS)
            go_simp
            try with_reducible rfl
          refine wpAnyH_take (i := 11) (v := ?vz5q11) rfl (by kernel_rfl) (by kernel_rfl) (by kernel_rfl) (fun _ _ _ h => h) (.inl ⟨by first | kernel_rfl | rfl, ?yz5q11⟩) rfl ?_
          case yz5q11 =>
            intro w' hS
            (subst hS)
            go_simp
            try with_reducible rfl
          refine wpAnyH_take (i := 12) (v := ?vz5q12) rfl (by kernel_rfl) (by kernel_rfl) (by kernel_rfl) (fun _ _ _ h => h) (.inl ⟨by first | kernel_rfl | rfl, ?yz5q12⟩) rfl ?_
          case yz5q12 =>
            intro w' hS
            (subst hS)
            go_simp
            try with_reducible rfl
          refine wpAnyH_take (i := 13) (v := ?vz5q13) rfl (by kernel_rfl) (by kernel_rfl) (by kernel_rfl) (fun _ _ _ h => h) (.inl ⟨by first | kernel_rfl | rfl, ?yz5q13⟩) rfl ?_
          case yz5q13 =>
            intro w' hS
            (subst hS)
            go_simp
            try with_reducible rfl
          refine wpAnyH_take (i := 14) (v := ?vz5q14) rfl (by kernel_rfl) (by kernel_rfl) (by kernel_rfl) (fun _ _ _ h => h) (.inl ⟨by first | kernel_rfl | rfl, ?yz5q14⟩) rfl ?_
          case yz5q14 =>
            intro w' hS
            (subst hS)
            go_simp
            try with_reducible rfl
          refine wpAnyH_take (i := 15) (v := ?vz5q15) rfl (by kernel_rfl) (by kernel_rfl) (by kernel_rfl) (fun _ _ _ h => h) (.inl ⟨by first | kernel_rfl | rfl, ?yz5q15⟩) rfl ?_
          case yz5q15 =>
            intro w' hS
            (subst hS)
            go_simp
            try with_reducible rfl
          refine wpAnyH_take (i := 16) (v := ?vz5q16) rfl (by kernel_rfl) (by kernel_rfl) (by kernel_rfl) (fun _ _ _ h => h) (.inl ⟨by first | kernel_rfl | rfl, ?yz5q16⟩) rfl ?_
          case yz5q16 =>
            intro w' hS
            (subst hS)
            go_simp
            try with_reducible rfl
          try simp only [Act.put, List.getElem_toArray, List.getElem_cons_zero, List.getElem_cons_succ, List.setIfInBounds_toArray, List.set_cons_zero, List.set_cons_succ]
          refine wpAnyH_take (i := 17) (v := (.bool false)) rfl (by kernel_rfl) (by kernel_rfl) (by kernel_rfl) (fun _ _ _ h => h) (.inl ⟨by first | kernel_rfl | rfl, ?yz6q17⟩) rfl ?_
          case yz6q17 =>
            intro w' hS
            (subst hS; have hq := Hq.out)
            go_simp
            first | done | (simp; done) | (simp; omega) | omega | (simp [*]; done)
          refine wpAnyH_take (i := 18) (v := ?vz7q18) rfl (by kernel_rfl) (by kernel_rfl) (by kernel_rfl) (fun _ _ _ h => h) (.inl ⟨by first | kernel_rfl | rfl, ?yz7q18⟩) rfl ?_
          case yz7q18 =>
            intro w' hS
            (subst hS)
            go_simp
            try with_reducible rfl
          try simp only [Act.put, List.getElem_toArray, List.getElem_cons_zero, List.getElem_cons_succ, List.setIfInBounds_toArray, List.set_cons_zero, List.set_cons_succ]
          refine wpAnyH_done (by kernel_rfl) ?_ _
          have hB2 := HB.out.drew
          go_wp2
          go_roundw
          case rel => exact ⟨c + 1, by omega, by simp, Hs.out, hB2⟩
          case measure => simp [intOf]; omega
        · have Hf := Lib.hid (chOk_no (k := k) hlt (.inr hn))
          have hq : (((lst xss c).length : Int) != ((lst xss 0).length : Int)) = true := by simp; omega
          have Hq := Lib.hid hq
          clear hn hq
          refine wpAnyH_take (i := 6) (v := ?vz8q6) rfl (by kernel_rfl) (by kernel_rfl) (by kernel_rfl) (fun _ _ _ h => h) (.inl ⟨by first | kernel_rfl | rfl, ?yz8q6⟩) rfl ?_
          case yz8q6 =>
            intro w' hS
            (subst hS)
            go_simp
            try with_reducible rfl
          refine wpAnyH_take (i := 7) (v := ?vz8q7) rfl (by kernel_rfl) (by kernel_rfl) (by kernel_rfl) (fun _ _ _ h => h) (.inl ⟨by first | kernel_rfl | rfl, ?yz8q7⟩) rfl ?_
          case yz8q7 =>
            intro w' hS
            (subst hS)
            go_simp
            try with_reducible rfl
          refine wpAnyH_take (i := 8) (v := ?vz8q8) rfl (by kernel_rfl) (by kernel_rfl) (by kernel_rfl) (fun _ _ _ h => h) (.inl ⟨by first | kernel_rfl | rfl, ?yz8q8⟩) rfl ?_
          case yz8q8 =>
            intro w' hS
            (subst hS)
            go_simp
            try with_reducible rfl
          refine wpAnyH_take (i := 9) (v := ?vz8q9) rfl (by kernel_rfl) (by kernel_rfl) (by kernel_rfl) (fun _ _ _ h => h) (.inl ⟨by first | kernel_rfl | rfl, ?yz8q9⟩) rfl ?_
          case yz8q9 =>
            intro w' hS
            (subst hS)
            go_simp
            try with_reducible rfl
          refine wpAnyH_take (i := 10) (v := ?vz8q10) rfl (by kernel_rfl) (by kernel_rfl) (by kernel_rfl) (fun _ _ _ h => h) (.inl ⟨by first | kernel_rfl | rfl, ?yz8q10⟩) rfl ?_
          case yz8q10 =>
            intro w' hS
            (subst hS)
            go_simp
            try with_reducible rfl
          refine wpAnyH_take (i := 11) (v := ?vz8q11) rfl (by kernel_rfl) (by kernel_rfl) (by kernel_rfl) (fun _ _ _ h => h) (.inl ⟨by first | kernel_rfl | rfl, ?yz8q11⟩) rfl ?_
          case yz8q11 =>
            intro w' hS
            (subst hS)
            go_simp
            try with_reducible rfl
          refine wpAnyH_take (i := 12) (v := ?vz8q12) rfl (by kernel_rfl) (by kernel_rfl) (by kernel_rfl) (fun _ _ _ h => h) (.inl ⟨by first | kernel_rfl | rfl, ?yz8q12⟩) rfl ?_
          case yz8q12 =>
            intro w' hS
            (subst hS)
            go_simp
            try with_reducible rfl
          refine wpAnyH_take (i := 13) (v := ?vz8q13) rfl (by kernel_rfl) (by kernel_rfl) (by kernel_rfl) (fun _ _ _ h => h) (.inl ⟨by first | kernel_rfl | rfl, ?yz8q13⟩) rfl ?_
          case yz8q13 =>
            intro w' hS
            (subst hS)
            go_simp
            try with_reducible rfl
          refine wpAnyH_take (i := 14) (v := ?vz8q14) rfl (by kernel_rfl) (by kernel_rfl) (by kernel_rfl) (fun _ _ _ h => h) (.inl ⟨by first | kernel_rfl | rfl, ?yz8q14⟩) rfl ?_
          case yz8q14 =>
            intro w' hS
            (subst hS)
            go_simp
            try with_reducible rfl
          refine wpAnyH_take (i := 15) (v := ?vz8q15) rfl (by kernel_rfl) (by kernel_rfl) (by kernel_rfl) (fun _ _ _ h => h) (.inl ⟨by first | kernel_rfl | rfl, ?yz8q15⟩) rfl ?_
          case yz8q15 =>
            intro w' hS
            (subst hS)
            go_simp
            try with_reducible rfl
          refine wpAnyH_take (i := 16) (v := ?vz8q16) rfl (by kernel_rfl) (by kernel_rfl) (by kernel_rfl) (fun _ _ _ h => h) (.inl ⟨by first | kernel_rfl | rfl, ?yz8q16⟩) rfl ?_
          case yz8q16 =>
            intro w' hS
            (subst hS)
            go_simp
            try with_reducible rfl
          try simp only [Act.put, List.getElem_toArray, List.getElem_cons_zero, List.getElem_cons_succ, List.setIfInBounds_toArray, List.set_cons_zero, List.set_cons_succ]
          refine wpAnyH_take (i := 17) (v := (.bool true)) rfl (by kernel_rfl) (by kernel_rfl) (by kernel_rfl) (fun _ _ _ h => h) (.inl ⟨by first | kernel_rfl | rfl, ?yz9q17⟩) rfl ?_
          case yz9q17 =>
            intro w' hS
            (subst hS; have hq := Hq.out)
            go_simp
            first | done | (simp; done) | (simp; omega) | omega | (simp [*]; done)
          refine wpAnyH_take (i := 18) (v := ?vz10q18) rfl (by kernel_rfl) (by kernel_rfl) (by kernel_rfl) (fun _ _ _ h => h) (.inl ⟨by first | kernel_rfl | rfl, ?yz10q18⟩) rfl ?_
          case yz10q18 =>
            intro w' hS
            (subst hS)
            go_simp
            try with_reducible rfl
          try simp only [Act.put, List.getElem_toArray, List.getElem_cons_zero, List.getElem_cons_succ, List.setIfInBounds_toArray, List.set_cons_zero, List.set_cons_succ]
          refine wpAnyH_done (by kernel_rfl) ?_ _
          go_wp2
          go_ret
          exact ⟨ret_bool Hf.out.symm, HB.out.drew⟩
    · obtain rfl : c = xss.length := by omega
      have Hf := Lib.hid (chOk_yes H1.out (by omega) Hall.out)
      go_wp2
      go_ret
      exact ⟨ret_bool Hf.out.symm, hB⟩

set_option maxRecDepth 100000 in
set_option maxHeartbeats 1000000 in
theorem s_AreChannels (k : Int) (c1 : Value) (xss : List (List Int)) (w : World) (hk : I64 k) (hX : Lsts w.heap.size w c1 xss) (hm : xss.length ≤ 1048576) (hm2 : ∀ c, c < xss.length → (lst xss c).length ≤ 1048576) :
    Calls Try.prog 19 #[.int .i64 k, c1] w fun e w' => e = .returned (.bool (chOk k xss)) ∧ Below w.heap.size w w' := by
  obtain ⟨a, cap, rfl⟩ := hX.shape
  go_enter Try.func19, Try.ntmps19
  go_wp2_with fail
  refine (l08Are_c k _ xss _ hk hX hm hm2).mono ?_
  rintro e w1 ⟨rfl, hb⟩
  go_wp2
  go_ret
  exact ⟨rfl, hb⟩

end Go.Proofs.Ytlgjnceedjbakaa
