/-
  Slots in classes, the least open slot: FirstUncovered, DoCover of both.
  Conditions: lists of at most 1048576 elements.
-/
import Derived.Test.YtckkhgpciglbmaaClF
import Derived.WalkMore
namespace Go.Proofs.Ytckkhgpciglbmaa
open Go.RowKit Go.Shelf
attribute [local go_sem] Oper.semAt_some

theorem hasB_nat {cs : List (Int × Int)} {k g n : Nat} (hg : gp cs k = g) : hasB cs k n = decide (((n % g : Nat) : Int) = rst cs k) := by
  unfold hasB
  rw [hg]
  rfl

set_option maxRecDepth 100000 in
set_option maxHeartbeats 8000000 in
theorem l05In_c (sv : Value) (cs : List (Int × Int)) (n : Nat) (w : World) (hI : Cls w.heap.size w sv cs) (hcl : clsOk cs = true) (_hn : n ≤ 5342931457063200) :
    Calls Try.prog 105 #[sv, .int .i64 n] w fun e w' => e = .returned (.int .i64 (inC cs n)) ∧ Below w.heap.size w w' := by
  obtain ⟨a, cap, rfl⟩ := hI.shape
  have hl := clsOk_len hcl
  have Hcl := Lib.hid hcl
  clear hcl
  go_enter Try.func105, Try.ntmps105
  go_wp2
  go_loopw [5] (fun i wr => ∃ k : Nat, k ≤ cs.length ∧ i = .int .i64 k ∧ (∀ j, j < k → hasB cs j n = false) ∧ Below w.heap.size w wr) (fun i _ => cs.length - (intOf i).toNat)
  case atStart => exact ⟨0, Nat.zero_le _, rfl, by omega, Below.refl _ _⟩
  case round =>
    obtain ⟨k, hk, rfl, hall, hB⟩ := hrel
    have Hall := Lib.hid hall
    clear hall
    by_cases hlt : k < cs.length
    · obtain ⟨b, off, rfl, hbb, hcc⟩ := (hI.below hB).at_ hlt
      obtain ⟨e1, e2⟩ := hcc k hlt
      have hg := clsOk_at Hcl.out hlt
      obtain ⟨g, hgq⟩ : ∃ g : Nat, gp cs k = g := ⟨(gp cs k).toNat, by omega⟩
      have hh := hasB_nat (n := n) hgq
      have hlt' : (k : Int) < (cs.length : Int) := by omega
      rw [hgq] at e2 hg
      have hz : ((g : Nat) : Int) ≠ 0 := by omega
      have hmo : ((n : Nat) : Int).tmod ((g : Nat) : Int) = ((n % g : Nat) : Int) := rfl
      have hme : ((n : Nat) : Int) % ((g : Nat) : Int) = ((n % g : Nat) : Int) := by simp
      have hml := Nat.mod_lt n (show 0 < g by omega)
      obtain ⟨r, hr⟩ : ∃ r, n % g = r := ⟨_, rfl⟩
      rw [hr] at hmo hme hml hh
      clear hcc hgq hr
      cases he : hasB cs k n
      · have hq : (((r : Nat) : Int) == rst cs k) = false := by rw [he] at hh; exact hh.symm
        have He := Lib.hid he
        clear hh he
        go_wp2
        go_quiet (fail)
        go_wp2
        go_roundw
        case rel => exact ⟨k + 1, by omega, by simp, fun j hj => by by_cases e : j = k; exact e ▸ He.out; exact Hall.out j (by omega), below_drewN hB _⟩
        case measure => simp [intOf]; omega
      · have hq : (((r : Nat) : Int) == rst cs k) = true := by rw [he] at hh; exact hh.symm
        have He := Lib.hid he
        clear hh he
        go_wp2
        go_quiet (fail)
        go_wp2
        go_ret
        exact ⟨ret_int (inC_hit hlt Hall.out He.out).symm, below_drewN hB _⟩
    · obtain rfl : k = cs.length := by omega
      go_wp2
      go_ret
      exact ⟨ret_int (inC_none Hall.out).symm, hB⟩

set_option maxRecDepth 100000 in
set_option maxHeartbeats 8000000 in
theorem l05Open_c (sv : Value) (cs : List (Int × Int)) (w : World) (hI : Cls w.heap.size w sv cs) (hcl : clsOk cs = true) :
    Calls Try.prog 98 #[sv] w fun e w' => e = .returned (.int .i64 (openTo cs (spanN cs))) ∧ Below w.heap.size w w' := by
  obtain ⟨a, cap, rfl⟩ := hI.shape
  obtain ⟨hs1, hs2⟩ := spanN_bd hcl
  obtain ⟨N, hN⟩ : ∃ N, spanN cs = N := ⟨_, rfl⟩
  have HN := Lib.hid hN
  rw [hN] at hs1 hs2 ⊢
  have Hcl := Lib.hid hcl
  clear hcl hN
  go_enter Try.func98, Try.ntmps98
  go_wp2
  go_loopw [3] (fun i wr => ∃ n : Nat, n ≤ N ∧ i = .int .i64 n ∧ (∀ j, j < n → 0 ≤ inC cs j) ∧ Below w.heap.size w wr) (fun i _ => N - (intOf i).toNat)
  case atStart => exact ⟨0, Nat.zero_le _, rfl, by omega, Below.refl _ _⟩
  case round =>
    obtain ⟨n, hk, rfl, hall, hB⟩ := hrel
    have Hall := Lib.hid hall
    clear hall
    go_wp2_with fail
    refine (l05Span_c _ cs _ (hI.later hB) Hcl.out).mono ?_
    rintro e w1 ⟨he, hb1⟩
    rw [HN.out] at he
    subst he
    have hB1 := hB.trans (hb1.mono hB.size)
    clear hb1
    by_cases hlt : n < N
    · go_wp2_with fail
      refine (l05In_c _ cs n _ (hI.later hB1) Hcl.out (by omega)).mono ?_
      rintro e w2 ⟨rfl, hb2⟩
      have hB2 := hB1.trans (hb2.mono hB1.size)
      clear hb2
      by_cases hin : inC cs n < 0
      · have Hin := Lib.hid hin
        go_wp2
        go_ret
        exact ⟨ret_int (openTo_hit hlt (fun j hj => Int.not_lt.2 (Hall.out j hj)) Hin.out).symm, hB2⟩
      · have Hin := Lib.hid (Int.not_lt.1 hin)
        have hin2 : 0 ≤ inC cs n := by omega
        go_wp2
        go_roundw
        case rel => exact ⟨n + 1, by omega, by simp, fun j hj => by by_cases e : j = n; exact e ▸ Hin.out; exact Hall.out j (by omega), hB2⟩
        case measure => simp [intOf]; omega
    · obtain rfl : n = N := by omega
      go_wp2
      go_ret
      exact ⟨ret_int (openTo_none fun j hj => Int.not_lt.2 (Hall.out j hj)).symm, hB1⟩

/-! ### codes -/
def coC (cs : List (Int × Int)) : Int := if clsOk cs then (if 100000 < spanN cs then 3 else 0) else 1
def opN (cs : List (Int × Int)) : Int := openTo cs (spanN cs)
def fuC (cs : List (Int × Int)) : Int := if coC cs = 0 then (if opN cs < 0 then 4 else 0) else coC cs
def fuV (cs : List (Int × Int)) : Int := if fuC cs = 0 then opN cs else 0
def dcV (cs : List (Int × Int)) : Bool := decide (coC cs = 0 ∧ opN cs < 0)
theorem coC_zero {cs : List (Int × Int)} (h : coC cs = 0) : clsOk cs = true ∧ spanN cs ≤ 100000 := by
  unfold coC at h
  cases hc : clsOk cs
  · rw [hc] at h; simp at h
  · rw [hc] at h
    refine ⟨rfl, ?_⟩
    by_cases hs : 100000 < spanN cs
    · rw [if_pos rfl, if_pos hs] at h; simp at h
    · omega

set_option maxHeartbeats 2000000 in
theorem l05Code_c (sv : Value) (cs : List (Int × Int)) (w : World) (hI : Cls w.heap.size w sv cs) (hm : cs.length ≤ 1048576) :
    Calls Try.prog 97 #[sv] w fun e w' => e = .returned (.int .i64 (coC cs)) ∧ Below w.heap.size w w' := by
  obtain ⟨a, cap, rfl⟩ := hI.shape
  cases h : clsOk cs
  · have Hc := Lib.hid (show coC cs = 1 by unfold coC; rw [h]; rfl)
    have H := Lib.hid h
    clear h
    go_enter Try.func97, Try.ntmps97
    go_wp2_with fail
    refine (l05Are_c _ cs _ hI hm).mono ?_
    rintro e w1 ⟨he, hb⟩
    rw [H.out] at he
    subst he
    go_wp2
    go_ret
    exact ⟨ret_int Hc.out.symm, hb⟩
  · have H := Lib.hid h
    obtain ⟨hs1, hs2⟩ := spanN_bd h
    by_cases hs : 100000 < spanN cs
    · have Hc := Lib.hid (show coC cs = 3 by unfold coC; rw [h, if_pos rfl, if_pos hs])
      clear h
      go_enter Try.func97, Try.ntmps97
      go_wp2_with fail
      refine (l05Are_c _ cs _ hI hm).mono ?_
      rintro e w1 ⟨he, hb⟩
      rw [H.out] at he
      subst he
      go_wp2_with fail
      refine (l05Span_c _ cs _ (hI.later hb) H.out).mono ?_
      rintro e w2 ⟨rfl, hb2⟩
      go_wp2
      go_ret
      exact ⟨ret_int Hc.out.symm, hb.trans (hb2.mono hb.size)⟩
    · have Hc := Lib.hid (show coC cs = 0 by unfold coC; rw [h, if_pos rfl, if_neg hs])
      clear h
      go_enter Try.func97, Try.ntmps97
      go_wp2_with fail
      refine (l05Are_c _ cs _ hI hm).mono ?_
      rintro e w1 ⟨he, hb⟩
      rw [H.out] at he
      subst he
      go_wp2_with fail
      refine (l05Span_c _ cs _ (hI.later hb) H.out).mono ?_
      rintro e w2 ⟨rfl, hb2⟩
      go_wp2
      go_ret
      exact ⟨ret_int Hc.out.symm, hb.trans (hb2.mono hb.size)⟩

set_option maxHeartbeats 2000000 in
theorem s_FirstUncovered (c0 : Value) (cs : List (Int × Int)) (w : World) (hI : Cls w.heap.size w c0 cs) (_hN : C64 cs) (hm : cs.length ≤ 1048576) :
    Calls Try.prog 54 #[c0] w fun e w' => e = .returned (.tuple #[.int .i64 (fuV cs), .int .i64 (fuC cs)]) ∧ Below w.heap.size w w' := by
  obtain ⟨a, cap, rfl⟩ := hI.shape
  by_cases h : coC cs = 0
  · obtain ⟨h1, h2⟩ := coC_zero h
    have H1 := Lib.hid h1
    have H := Lib.hid h
    by_cases ho : opN cs < 0
    · have Hc := Lib.hid (show fuC cs = 4 by unfold fuC; rw [if_pos h, if_pos ho])
      have Hv := Lib.hid (show fuV cs = 0 by unfold fuV; rw [Hc.out]; rfl)
      have ho2 : openTo cs (spanN cs) < 0 := ho
      clear h h1 ho
      go_enter Try.func54, Try.ntmps54
      go_wp2_with fail
      refine (l05Code_c _ cs _ hI hm).mono ?_
      rintro e w1 ⟨he, hb⟩
      rw [H.out] at he
      subst he
      go_wp2_with fail
      refine (l05Open_c _ cs _ (hI.later hb) H1.out).mono ?_
      rintro e w2 ⟨rfl, hb2⟩
      go_wp2
      go_ret2
      exact ⟨by rw [Hv.out, Hc.out]; rfl, hb.trans (hb2.mono hb.size)⟩
    · have Hc := Lib.hid (show fuC cs = 0 by unfold fuC; rw [if_pos h, if_neg ho])
      have Hv := Lib.hid (show fuV cs = openTo cs (spanN cs) by unfold fuV opN; rw [Hc.out]; rfl)
      have ho2 : 0 ≤ openTo cs (spanN cs) := by unfold opN at ho; omega
      clear h h1 ho
      go_enter Try.func54, Try.ntmps54
      go_wp2_with fail
      refine (l05Code_c _ cs _ hI hm).mono ?_
      rintro e w1 ⟨he, hb⟩
      rw [H.out] at he
      subst he
      go_wp2_with fail
      refine (l05Open_c _ cs _ (hI.later hb) H1.out).mono ?_
      rintro e w2 ⟨rfl, hb2⟩
      go_wp2
      go_ret2
      exact ⟨by rw [Hv.out, Hc.out]; rfl, hb.trans (hb2.mono hb.size)⟩
  · have Hc := Lib.hid (show fuC cs = coC cs by unfold fuC; rw [if_neg h])
    have Hv := Lib.hid (show fuV cs = 0 by unfold fuV; rw [Hc.out, if_neg h])
    have hq : (coC cs != 0) = true := by simpa using h
    clear h
    go_enter Try.func54, Try.ntmps54
    go_wp2_with fail
    refine (l05Code_c _ cs _ hI hm).mono ?_
    rintro e w1 ⟨rfl, hb⟩
    go_wp2
    go_ret2
    exact ⟨by rw [Hv.out, Hc.out]; rfl, hb⟩

set_option maxHeartbeats 2000000 in
theorem s_DoCover (c0 : Value) (cs : List (Int × Int)) (w : World) (hI : Cls w.heap.size w c0 cs) (_hN : C64 cs) (hm : cs.length ≤ 1048576) :
    Calls Try.prog 52 #[c0] w fun e w' => e = .returned (.tuple #[.bool (dcV cs), .int .i64 (coC cs)]) ∧ Below w.heap.size w w' := by
  obtain ⟨a, cap, rfl⟩ := hI.shape
  by_cases h : coC cs = 0
  · obtain ⟨h1, h2⟩ := coC_zero h
    have H1 := Lib.hid h1
    have H := Lib.hid h
    have Hv := Lib.hid (show dcV cs = decide (openTo cs (spanN cs) < 0) by unfold dcV opN; simp [h])
    clear h h1
    go_enter Try.func52, Try.ntmps52
    go_wp2_with fail
    refine (l05Code_c _ cs _ hI hm).mono ?_
    rintro e w1 ⟨he, hb⟩
    rw [H.out] at he
    subst he
    go_wp2_with fail
    refine (l05Open_c _ cs _ (hI.later hb) H1.out).mono ?_
    rintro e w2 ⟨rfl, hb2⟩
    go_wp2
    go_ret2
    exact ⟨by rw [Hv.out, H.out]; rfl, hb.trans (hb2.mono hb.size)⟩
  · have Hv := Lib.hid (show dcV cs = false by unfold dcV; simp [h])
    have hq : (coC cs != 0) = true := by simpa using h
    clear h
    go_enter Try.func52, Try.ntmps52
    go_wp2_with fail
    refine (l05Code_c _ cs _ hI hm).mono ?_
    rintro e w1 ⟨rfl, hb⟩
    go_wp2
    go_ret2
    exact ⟨by rw [Hv.out]; rfl, hb⟩

/-! ### the program -/
set_option maxRecDepth 100000 in
set_option maxHeartbeats 8000000 in
theorem has_c (d : Bool) (x : Int) (g n : Nat) (w : World) (h0 : 0 < g) (hd : decide (((n % g : Nat) : Int) = x) = d) :
    Calls Try.prog 100 #[.agg #[.int .i64 x, .int .i64 g], .int .i64 n] w fun e w' => e = .returned (.bool d) ∧ Below w.heap.size w w' := by
  have hz : ((g : Nat) : Int) ≠ 0 := by omega
  have hmo : ((n : Nat) : Int).tmod ((g : Nat) : Int) = ((n % g : Nat) : Int) := rfl
  have hme : ((n : Nat) : Int) % ((g : Nat) : Int) = ((n % g : Nat) : Int) := by simp
  obtain ⟨r, hr⟩ : ∃ r, n % g = r := ⟨_, rfl⟩
  rw [hr] at hmo hme hd
  have Hd := Lib.hid hd
  clear hr hd
  have hfw : Try.prog.follows Departure.mixedOrders = true := by kernel_rfl
  have hS : Box2 (w.alloc (.cells #[.int .i64 x, .int .i64 g] 87)).drew w.heap.size 87 (.int .i64 x) (.int .i64 g) ∧ Below w.heap.size w (w.alloc (.cells #[.int .i64 x, .int .i64 g] 87)).drew := ⟨Box2.new _ _ _ _, ((Below.refl _ _).alloc (Nat.le_refl _) _).drew⟩
  go_enter Try.func100, Try.ntmps100
  go_wp2_with fail
  refine wp_region_held_drew (S := fun w' => Box2 w' w.heap.size 87 (.int .i64 x) (.int .i64 g) ∧ Below w.heap.size w w') hfw hS ?_
  intro hS0
  refine wpAnyH_take (i := 0) (v := ?vh1q0) rfl (by kernel_rfl) (by kernel_rfl) (by kernel_rfl) (fun _ _ _ h => h) (.inl ⟨by first | kernel_rfl | rfl, ?yh1q0⟩) hS0 ?_
  case yh1q0 =>
    intro w' hS
    (have a0 := hS.1.c0; have a1 := hS.1.c1; clear hS)
    go_simp
    try with_reducible rfl
  refine wpAnyH_take (i := 1) (v := ?vh1q1) rfl (by kernel_rfl) (by kernel_rfl) (by kernel_rfl) (fun _ _ _ h => h) (.inl ⟨by first | kernel_rfl | rfl, ?yh1q1⟩) hS0 ?_
  case yh1q1 =>
    intro w' hS
    (have a0 := hS.1.c0; have a1 := hS.1.c1; clear hS)
    go_simp
    try with_reducible rfl
  refine wpAnyH_take (i := 4) (v := ?vh1q4) rfl (by kernel_rfl) (by kernel_rfl) (by kernel_rfl) (fun _ _ _ h => h) (.inl ⟨by first | kernel_rfl | rfl, ?yh1q4⟩) hS0 ?_
  case yh1q4 =>
    intro w' hS
    (have a0 := hS.1.c0; have a1 := hS.1.c1; clear hS)
    go_simp
    try with_reducible rfl
  refine wpAnyH_ready (rs := [2]) (by kernel_rfl) (by simp) ?_
  refine AllReadyH.cons rfl (fun K' hK' => ?_) AllReadyH.nil
  rw [if_pos (by first | kernel_rfl | rfl)]
  go_simp
  refine (gap_c x g _).mono ?_
  rintro e w1 ⟨rfl, hb1⟩
  refine hK'.out _ _ ⟨hS0.1.later hb1, hS0.2.trans (hb1.mono hS0.2.size)⟩ fun hS1 => ?_
  refine wpAnyH_take (i := 3) (v := (.int .i64 r)) rfl (by kernel_rfl) (by kernel_rfl) (by kernel_rfl) (fun _ _ _ h => h) (.inl ⟨by first | kernel_rfl | rfl, ?yh2q3⟩) hS1 ?_
  case yh2q3 =>
    intro w' hS
    (have hz3 : g ≠ 0 := (by omega); clear hS)
    go_simp
    first | done | (simp; done) | (simp; omega) | omega | (simp [*]; done)
  refine wpAnyH_ready (rs := [5]) (by kernel_rfl) (by simp) ?_
  refine AllReadyH.cons rfl (fun K' hK' => ?_) AllReadyH.nil
  rw [if_pos (by first | kernel_rfl | rfl)]
  go_simp
  refine (rest_c x g _).mono ?_
  rintro e w2 ⟨rfl, hb2⟩
  refine hK'.out _ _ ⟨hS1.1.later hb2, hS1.2.trans (hb2.mono hS1.2.size)⟩ fun hS2 => ?_
  refine wpAnyH_take (i := 6) (v := (.bool d)) rfl (by kernel_rfl) (by kernel_rfl) (by kernel_rfl) (fun _ _ _ h => h) (.inl ⟨by first | kernel_rfl | rfl, ?yh3q6⟩) hS2 ?_
  case yh3q6 =>
    intro w' hS
    (clear hS; rw [← Hd.out, ← beq_dec])
    go_simp
    first | done | (simp; done) | (simp; omega) | omega | (simp [*]; done)
  refine wpAnyH_take (i := 7) (v := ?vh4q7) rfl (by kernel_rfl) (by kernel_rfl) (by kernel_rfl) (fun _ _ _ h => h) (.inl ⟨by first | kernel_rfl | rfl, ?yh4q7⟩) hS2 ?_
  case yh4q7 =>
    intro w' hS
    (clear hS)
    go_simp
    try with_reducible rfl
  refine wpAnyH_done (by kernel_rfl) ?_ _
  go_wp2
  go_ret
  exact ⟨rfl, hS2.2⟩

set_option maxRecDepth 100000 in
set_option maxHeartbeats 8000000 in
theorem i_FirstUncovered (c0 : Value) (cs : List (Int × Int)) (w : World) (hI : Cls w.heap.size w c0 cs) (hN : C64 cs) (hm : cs.length ≤ 1048576) :
    Calls Try.prog 55 #[c0] w fun e w' => e = .returned (.tuple #[.int .i64 (fuV cs), .int .i64 (fuC cs)]) ∧ Below w.heap.size w w' := by
  obtain ⟨a, cap, rfl⟩ := hI.shape
  cases h1 : clsOk cs
  · have h : coC cs = 1 := by unfold coC; rw [h1]; rfl
    have Hc := Lib.hid (show fuC cs = 1 by unfold fuC; rw [h]; rfl)
    have Hv := Lib.hid (show fuV cs = 0 by unfold fuV; rw [Hc.out]; rfl)
    have H := Lib.hid h1
    clear h1 h
    go_enter Try.func55, Try.ntmps55
    go_wp2_with fail
    refine wp_scope_straight ?_
    go_wp2_with fail
    refine (i_AreClasses _ cs _ hI hN hm).mono ?_
    rintro e w1 ⟨he, hb⟩
    rw [H.out] at he
    subst he
    go_wp2
    rw [Exit.noGoto_ret]
    go_ret2
    exact ⟨by rw [Hv.out, Hc.out]; rfl, hb⟩
  obtain ⟨hs1, hs2⟩ := spanN_bd h1
  by_cases hs : 100000 < spanN cs
  · have h : coC cs = 3 := by unfold coC; rw [h1, if_pos rfl, if_pos hs]
    have Hc := Lib.hid (show fuC cs = 3 by unfold fuC; rw [h]; rfl)
    have Hv := Lib.hid (show fuV cs = 0 by unfold fuV; rw [Hc.out]; rfl)
    have H := Lib.hid h1
    clear h1 h
    go_enter Try.func55, Try.ntmps55
    go_wp2_with fail
    refine wp_scope_straight ?_
    go_wp2_with fail
    refine (i_AreClasses _ cs _ hI hN hm).mono ?_
    rintro e w1 ⟨he, hb⟩
    rw [H.out] at he
    subst he
    go_wp2_with fail
    refine (spanOf_c _ cs _ (hI.later hb) hN H.out).mono ?_
    rintro e w2 ⟨rfl, hb2⟩
    go_wp2
    rw [Exit.noGoto_ret]
    go_ret2
    exact ⟨by rw [Hv.out, Hc.out]; rfl, hb.trans (hb2.mono hb.size)⟩
  have h : coC cs = 0 := by unfold coC; rw [h1, if_pos rfl, if_neg hs]
  have Hco := Lib.hid h
  have H := Lib.hid h1
  obtain ⟨N, hN2⟩ : ∃ N, spanN cs = N := ⟨_, rfl⟩
  have HN := Lib.hid hN2
  rw [hN2] at hs1 hs2 hs
  clear h1 h hN2
  go_enter Try.func55, Try.ntmps55
  go_wp2_with fail
  refine wp_scope_straight ?_
  go_wp2_with fail
  refine (i_AreClasses _ cs _ hI hN hm).mono ?_
  rintro e w1 ⟨he, hb⟩
  rw [H.out] at he
  subst he
  go_wp2_with fail
  refine (spanOf_c _ cs _ (hI.later hb) hN H.out).mono ?_
  rintro e w2 ⟨he, hb2⟩
  rw [HN.out] at he
  subst he
  have hB2 := hb.trans (hb2.mono hb.size)
  clear hb hb2
  go_wp2
  refine wp_label ?_
  go_wp2
  go_loopw [16] (fun i wr => ∃ n : Nat, n ≤ N ∧ i = .int .i64 n ∧ (∀ j, j < n → 0 ≤ inC cs j) ∧ Below w.heap.size w wr) (fun i _ => N - (intOf i).toNat)
  case atStart => exact ⟨0, Nat.zero_le _, rfl, by omega, hB2⟩
  case round =>
    obtain ⟨n, hk, rfl, hall, hB⟩ := hrel
    have Hall := Lib.hid hall
    clear hall hB2
    by_cases hlt : n < N
    · go_wp2
      go_loopw [21] (fun i wr => ∃ k : Nat, k ≤ cs.length ∧ i = .int .i64 k ∧ (∀ j, j < k → hasB cs j n = false) ∧ Below w.heap.size w wr) (fun i _ => cs.length - (intOf i).toNat)
      case atStart => exact ⟨0, Nat.zero_le _, rfl, by omega, hB⟩
      case round =>
        obtain ⟨k, hk2, rfl, hin, hB1⟩ := hrel
        have Hin := Lib.hid hin
        clear hin hB
        by_cases hltk : k < cs.length
        · obtain ⟨b, off, rfl, hbb, hcc⟩ := (hI.below hB1).at_ hltk
          obtain ⟨e1, e2⟩ := hcc k hltk
          have hg := clsOk_at H.out hltk
          obtain ⟨g, hgq⟩ : ∃ g : Nat, gp cs k = g := ⟨(gp cs k).toNat, by omega⟩
          have hh := hasB_nat (n := n) hgq
          rw [hgq] at e2 hg
          have hs := hB1.size
          have hBa : Below w.heap.size w (wr.alloc (.cells #[.int .i64 (rst cs k), .int .i64 g] 87)) := hB1.alloc hs _
          clear hcc hgq
          cases he : hasB cs k n
          · have He := Lib.hid he
            have Hh := Lib.hid (hh.symm.trans he)
            clear hh he
            go_wp2_with fail
            refine (has_c false (rst cs k) g n _ (by omega) Hh.out).mono ?_
            rintro e w3 ⟨rfl, hb3⟩
            have hB3 := hBa.trans (hb3.mono (by simp; omega))
            clear hb3 hBa
            go_wp2
            go_roundw
            case rel => exact ⟨k + 1, by omega, by simp, fun j hj => by by_cases e : j = k; exact e ▸ He.out; exact Hin.out j (by omega), hB3⟩
            case measure => simp [intOf]; omega
          · have Hpos := Lib.hid (show 0 ≤ inC cs n by rw [inC_hit hltk Hin.out he]; omega)
            have Hh := Lib.hid (hh.symm.trans he)
            clear hh he
            go_wp2_with fail
            refine (has_c true (rst cs k) g n _ (by omega) Hh.out).mono ?_
            rintro e w3 ⟨rfl, hb3⟩
            have hB3 := hBa.trans (hb3.mono (by simp; omega))
            clear hb3 hBa
            go_wp2
            go_roundw
            case rel => exact ⟨n + 1, by omega, by simp, fun j hj => by by_cases e : j = n; exact e ▸ Hpos.out; exact Hall.out j (by omega), hB3⟩
            case measure => simp [intOf]; omega
        · obtain rfl : k = cs.length := by omega
          have hin2 : inC cs n = -1 := inC_none Hin.out
          have ho : opN cs = n := by unfold opN; rw [HN.out]; exact openTo_hit hlt (fun j hj => Int.not_lt.2 (Hall.out j hj)) (by omega)
          have Hc := Lib.hid (show fuC cs = 0 by unfold fuC; rw [if_pos Hco.out, if_neg (by omega)])
          have Hv := Lib.hid (show fuV cs = n by unfold fuV; rw [Hc.out, ho]; rfl)
          clear hin2 ho
          go_wp2
          rw [Exit.noGoto_ret]
          go_ret2
          exact ⟨by rw [Hv.out, Hc.out]; rfl, hB1⟩
    · obtain rfl : n = N := by omega
      have ho : opN cs = -1 := by unfold opN; rw [HN.out]; exact openTo_none fun j hj => Int.not_lt.2 (Hall.out j hj)
      have Hc := Lib.hid (show fuC cs = 4 by unfold fuC; rw [if_pos Hco.out, if_pos (by omega)])
      have Hv := Lib.hid (show fuV cs = 0 by unfold fuV; rw [Hc.out]; rfl)
      clear ho
      go_wp2
      rw [Exit.noGoto_ret]
      go_ret2
      exact ⟨by rw [Hv.out, Hc.out]; rfl, hB⟩

set_option maxHeartbeats 2000000 in
theorem i_DoCover (c0 : Value) (cs : List (Int × Int)) (w : World) (hI : Cls w.heap.size w c0 cs) (hN : C64 cs) (hm : cs.length ≤ 1048576) :
    Calls Try.prog 53 #[c0] w fun e w' => e = .returned (.tuple #[.bool (dcV cs), .int .i64 (coC cs)]) ∧ Below w.heap.size w w' := by
  obtain ⟨a, cap, rfl⟩ := hI.shape
  by_cases h : coC cs = 0 ∧ opN cs < 0
  · have Hf := Lib.hid (show fuC cs = 4 by unfold fuC; rw [if_pos h.1, if_pos h.2])
    have Hv := Lib.hid (show dcV cs = true from decide_eq_true h)
    have Hc := Lib.hid h.1
    clear h
    go_enter Try.func53, Try.ntmps53
    go_wp2_with fail
    refine (i_FirstUncovered _ cs _ hI hN hm).mono ?_
    rintro e w1 ⟨he, hb⟩
    rw [Hf.out] at he
    subst he
    go_wp2
    go_ret2
    exact ⟨by rw [Hv.out, Hc.out]; rfl, hb⟩
  · have hf : fuC cs = coC cs ∧ coC cs ≠ 4 := by
      unfold fuC
      by_cases h0 : coC cs = 0
      · rw [if_pos h0, if_neg (fun h2 => h ⟨h0, h2⟩)]; omega
      · rw [if_neg h0]
        refine ⟨rfl, ?_⟩
        unfold coC; split <;> (try split) <;> omega
    have Hf := Lib.hid hf.1
    have Hv := Lib.hid (show dcV cs = false from decide_eq_false h)
    have hq : (coC cs == 4) = false := by rw [beq_eq_false_iff_ne]; exact hf.2
    clear h hf
    go_enter Try.func53, Try.ntmps53
    go_wp2_with fail
    refine (i_FirstUncovered _ cs _ hI hN hm).mono ?_
    rintro e w1 ⟨he, hb⟩
    rw [Hf.out] at he
    subst he
    go_wp2
    go_ret2
    exact ⟨by rw [Hv.out]; rfl, hb⟩

end Go.Proofs.Ytckkhgpciglbmaa
