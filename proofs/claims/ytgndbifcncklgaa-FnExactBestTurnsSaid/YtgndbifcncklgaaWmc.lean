/-
  MeanByWeights of both.
  Conditions: lists of at most 1048576 elements.
-/
import Derived.Test.YtgndbifcncklgaaWmb
import Derived.Test.YtgndbifcncklgaaWar
namespace Go.Proofs.Ytgndbifcncklgaa
open Go.RowKit Go.Shelf
attribute [local go_sem] Oper.semAt_some

def mbC (ts ws : List Int) : Int := if turnsOk ts 8 && wOk ws 0 8 then (if hasAll ts (twL ws) then 0 else 4) else 2
def mbN (ts ws : List Int) : Int := if mbC ts ws = 0 then (lowN (suB (wS ts) (wQ ws) ws.length) (ts.length * wtTo (wQ ws) ws.length) : Nat) else 0
def mbD (ts ws : List Int) : Int := if mbC ts ws = 0 then (lowD (suB (wS ts) (wQ ws) ws.length) (ts.length * wtTo (wQ ws) ws.length) : Nat) else 0
theorem mbC_no {ts ws : List Int} (h : wOk ws 0 8 = false) : mbC ts ws = 2 := by unfold mbC; rw [h, Bool.and_false]; rfl
theorem mbC_tw {ts ws : List Int} (h : wOk ws 0 8 = true) : mbC ts ws = comC ts (twL ws) := by
  unfold mbC comC; rw [h, Bool.and_true, comB_tw (wgt (by omega) h).len.2]

set_option maxRecDepth 100000 in
set_option maxHeartbeats 4000000 in
theorem i_MeanByWeights (c0 : Value) (ts : List Int) (c1 : Value) (ws : List Int) (w : World) (hI : Ints w.heap.size w c0 ts) (_hN : I64s ts) (hm : ts.length ≤ 1048576) (hT : Ints w.heap.size w c1 ws) (_hN1 : I64s ws) (hm1 : ws.length ≤ 1048576) :
    Calls Try.prog 33 #[c0, c1] w fun e w' => e = .returned (.tuple #[.int .i64 (mbN ts ws), .int .i64 (mbD ts ws), .int .i64 (mbC ts ws)]) ∧ Below w.heap.size w w' := by
  obtain ⟨a, cap, rfl⟩ := hI.shape
  obtain ⟨a2, cap2, rfl⟩ := hT.shape
  cases hw : wOk ws 0 8
  · have Hc := Lib.hid (mbC_no (ts := ts) hw)
    have H0 := Lib.hid (show mbN ts ws = 0 by unfold mbN; rw [Hc.out]; rfl)
    have H1 := Lib.hid (show mbD ts ws = 0 by unfold mbD; rw [Hc.out]; rfl)
    have Hw := Lib.hid hw
    clear hw
    go_enter Try.func33, Try.ntmps33
    go_wp2_with fail
    refine (areWeights_c _ ws _ hT hm1).mono ?_
    rintro e w1 ⟨he, hb⟩
    rw [Hw.out] at he
    subst he
    go_wp2
    go_ret3
    exact ⟨ret_i3d H0.out.symm H1.out.symm Hc.out.symm, hb⟩
  · have hW := wgt (by omega) hw
    have hwl := hW.len
    have Hcq := Lib.hid (mbC_tw (ts := ts) hw)
    have Hw := Lib.hid hw
    have HW := Lib.hid hW
    clear hw hW
    by_cases hc : comC ts (twL ws) = 0
    · have hn := comC_len hc
      have H0 := Lib.hid (show mbN ts ws = (lowN (suB (wS ts) (wQ ws) ws.length) (ts.length * wtTo (wQ ws) ws.length) : Nat) by unfold mbN; rw [if_pos (by rw [Hcq.out]; exact hc)])
      have H1 := Lib.hid (show mbD ts ws = (lowD (suB (wS ts) (wQ ws) ws.length) (ts.length * wtTo (wQ ws) ws.length) : Nat) by unfold mbD; rw [if_pos (by rw [Hcq.out]; exact hc)])
      have Hc := Lib.hid hc
      clear hc
      go_enter Try.func33, Try.ntmps33
      go_wp2_with fail
      refine (areWeights_c _ ws _ hT hm1).mono ?_
      rintro e w1 ⟨he, hb⟩
      rw [Hw.out] at he
      subst he
      go_wp2_with fail
      refine (tasksWaitedFor_c _ ws _ (hT.later hb) hwl.2 HW.out.el).mono ?_
      rintro e w2 ⟨v, rfl, ho, hb2⟩
      have hB2 := hb.trans (hb2.mono hb.size)
      obtain ⟨a3, cap3, rfl⟩ := ho.ints.shape
      simp only [id]
      go_wp2_with fail
      refine (checkWaiting_c _ _ ts (twL ws) _ (hI.later hB2) ho.ints hm (by have := twTo_len ws ws.length; unfold twL; omega)).mono ?_
      rintro e w3 ⟨he, hb3⟩
      rw [Hc.out] at he
      subst he
      have hB3 := hB2.trans (hb3.mono hB2.size)
      clear hb hb2 hb3 hB2 ho
      go_wp2_with fail
      refine (meanByWeights_c _ _ ts ws _ (hI.later hB3) (hT.later hB3) hn HW.out).mono ?_
      rintro e w4 ⟨rfl, hb4⟩
      have hB4 := hB3.trans (hb4.mono hB3.size)
      obtain ⟨p, hp⟩ : ∃ p, lowN (suB (wS ts) (wQ ws) ws.length) (ts.length * wtTo (wQ ws) ws.length) = p := ⟨_, rfl⟩
      obtain ⟨q, hq⟩ : ∃ q, lowD (suB (wS ts) (wQ ws) ws.length) (ts.length * wtTo (wQ ws) ws.length) = q := ⟨_, rfl⟩
      have Hp := Lib.hid hp
      have Hq := Lib.hid hq
      rw [hp, hq]
      clear hp hq hb4 hB3
      go_wp2_with fail
      obtain ⟨W5, hW5⟩ : ∃ W5, w4.alloc (.cells #[.int .i64 (p : Int), .int .i64 (q : Int)] 76) = W5 := ⟨_, rfl⟩
      have b3 : Box2 W5 w4.heap.size 76 (.int .i64 (p : Int)) (.int .i64 (q : Int)) := by rw [← hW5]; exact Box2.new _ _ _ _
      have hB5 : Below w.heap.size w W5 := by rw [← hW5]; exact hB4.alloc hB4.size _
      have d0 := b3.c0
      have d1 := b3.c1
      rw [hW5]
      clear hW5 hB4
      go_region
      go_wp2
      go_ret3
      exact ⟨ret_i3d (by rw [H0.out, Hp.out]) (by rw [H1.out, Hq.out]) (by rw [Hcq.out, Hc.out]), hB5.drew⟩
    · have hcz : (comC ts (twL ws) == 0) = false := by simp [hc]
      have H0 := Lib.hid (show mbN ts ws = 0 by unfold mbN; rw [if_neg (by rw [Hcq.out]; exact hc)])
      have H1 := Lib.hid (show mbD ts ws = 0 by unfold mbD; rw [if_neg (by rw [Hcq.out]; exact hc)])
      obtain ⟨q, hq⟩ : ∃ q, comC ts (twL ws) = q := ⟨_, rfl⟩
      have Hq := Lib.hid hq
      rw [hq] at hcz hc
      clear hq
      go_enter Try.func33, Try.ntmps33
      go_wp2_with fail
      refine (areWeights_c _ ws _ hT hm1).mono ?_
      rintro e w1 ⟨he, hb⟩
      rw [Hw.out] at he
      subst he
      go_wp2_with fail
      refine (tasksWaitedFor_c _ ws _ (hT.later hb) hwl.2 HW.out.el).mono ?_
      rintro e w2 ⟨v, rfl, ho, hb2⟩
      have hB2 := hb.trans (hb2.mono hb.size)
      obtain ⟨a3, cap3, rfl⟩ := ho.ints.shape
      simp only [id]
      go_wp2_with fail
      refine (checkWaiting_c _ _ ts (twL ws) _ (hI.later hB2) ho.ints hm (by have := twTo_len ws ws.length; unfold twL; omega)).mono ?_
      rintro e w3 ⟨he, hb3⟩
      rw [Hq.out] at he
      subst he
      have hB3 := hB2.trans (hb3.mono hB2.size)
      clear hb hb2 hb3 hB2 ho
      go_wp2
      go_ret3
      exact ⟨ret_i3d H0.out.symm H1.out.symm (by rw [Hcq.out, Hq.out]), hB3⟩

set_option maxRecDepth 100000 in
set_option maxHeartbeats 4000000 in
theorem l10Weights_c (sv : Value) (ws : List Int) (low : Int) (most : Int) (w : World) (hI : Ints w.heap.size w sv ws) (hl : ws.length ≤ 1048576) (h0 : 0 ≤ low) (h1 : low ≤ 1) :
    Calls Try.prog 71 #[sv, .int .i64 low, .int .i64 most] w fun e w' => e = .returned (.bool (wOk ws low most)) ∧ w = w' := by
  obtain ⟨a, cap, rfl⟩ := hI.shape
  go_enter Try.func71, Try.ntmps71
  go_wp2
  go_loop [7, 8] (fun s i => ∃ (k : Nat) (q : Int), k ≤ ws.length ∧ i = .int .i64 k ∧ s = .int .i64 q ∧ (q = sumN (nth ws) k ∧ 0 ≤ q ∧ q ≤ k * 100) ∧ (∀ j, j < k → inB (nth ws j) low 100 = true)) (fun _ i => ws.length - (intOf i).toNat)
  case atStart => exact ⟨0, 0, Nat.zero_le _, rfl, rfl, ⟨rfl, by omega, by omega⟩, by simp⟩
  case round =>
    obtain ⟨k, q, hk, rfl, rfl, ⟨hq, hq0, hq1⟩, hall⟩ := hrel
    have Hq := Lib.hid hq
    have Hall := Lib.hid hall
    clear hq hall
    by_cases hlt : k < ws.length
    · obtain ⟨b, off, rfl, hb, hc⟩ := hI.at_ hlt
      have hcx := hc k hlt
      clear hc
      cases he : inB (nth ws k) low 100
      · have He := Lib.hid he
        clear he
        go_wp2_with (go_at_call 76; refine (l01In_d false _ _ _ _ He.out).mono ?_; rintro e w' ⟨rfl, rfl⟩)
        go_ret
        exact ⟨ret_bool (by unfold wOk; rw [all_false_of (p := fun z => inB z low 100) hlt He.out]; rfl), rfl⟩
      · have He := Lib.hid he
        have hbn := inB_true.1 he
        clear he
        go_wp2_with (go_at_call 76; refine (l01In_d true _ _ _ _ He.out).mono ?_; rintro e w' ⟨rfl, rfl⟩)
        go_round
        case rel => exact ⟨k + 1, q + nth ws k, by omega, by simp, rfl, ⟨by rw [Hq.out]; rfl, by omega, by simp; omega⟩, fun j hj => by by_cases e : j = k; exact e ▸ He.out; exact Hall.out j (by omega)⟩
        case measure => simp [intOf]; omega
    · obtain rfl : k = ws.length := by omega
      have Hal := Lib.hid (all_true_of (p := fun z => inB z low 100) Hall.out)
      by_cases hq2 : 0 < q
      · by_cases hm : (ws.length : Int) ≤ most
        · have Hv := Lib.hid (show wOk ws low most = true by unfold wOk; rw [Hal.out, ← Hq.out, decide_eq_true hq2, decide_eq_true hm]; rfl)
          go_wp2
          go_ret
          exact ⟨ret_bool Hv.out.symm, rfl⟩
        · have Hv := Lib.hid (show wOk ws low most = false by unfold wOk; rw [Hal.out, decide_eq_false hm]; simp)
          go_wp2
          go_ret
          exact ⟨ret_bool Hv.out.symm, rfl⟩
      · have Hv := Lib.hid (show wOk ws low most = false by unfold wOk; rw [Hal.out, ← Hq.out, decide_eq_false hq2]; rfl)
        go_wp2
        go_ret
        exact ⟨ret_bool Hv.out.symm, rfl⟩

set_option maxRecDepth 100000 in
set_option maxHeartbeats 4000000 in
theorem l10Mean_c (sv tv : Value) (ts ws : List Int) (w : World) (hI : Ints w.heap.size w sv ts) (hT : Ints w.heap.size w tv ws) (hn : 1 ≤ ts.length ∧ ts.length ≤ 120) (hW : Wgt ws 0) (hh : hasAll ts (twL ws) = true) :
    Calls Try.prog 72 #[sv, tv] w fun e w' => e = .returned (.int .i64 (suB (wS ts) (wQ ws) ws.length : Nat)) ∧ Below w.heap.size w w' := by
  obtain ⟨a, cap, rfl⟩ := hI.shape
  obtain ⟨a2, cap2, rfl⟩ := hT.shape
  have hB := wBd hn hW
  have hwl := hW.len
  have HB := Lib.hid hB
  have HW := Lib.hid hW
  have Hh := Lib.hid (has_tw.1 hh)
  clear hB hW hh
  go_enter Try.func72, Try.ntmps72
  go_wp2
  go_loopw [5, 6] (fun s i wr => ∃ k : Nat, k ≤ ws.length ∧ i = .int .i64 k ∧ s = .int .i64 (suB (wS ts) (wQ ws) k : Nat) ∧ Below w.heap.size w wr) (fun _ i _ => ws.length - (intOf i).toNat)
  case atStart => exact ⟨0, Nat.zero_le _, rfl, rfl, Below.refl _ _⟩
  case round =>
    obtain ⟨k, hk, rfl, rfl, hB⟩ := hrel
    have hx := HB.out.x k hk
    by_cases hlt : k < ws.length
    · obtain ⟨b, off, rfl, hb, hc⟩ := (hT.below hB).at_ hlt
      have hcx := hc k hlt
      have hq := HB.out.q k hlt
      have hs := HB.out.s k
      have hx1 := HB.out.x (k + 1) hlt
      have Hs := Lib.hid (show suB (wS ts) (wQ ws) (k + 1) = suB (wS ts) (wQ ws) k + wQ ws k * wS ts k from rfl)
      rw [Hs.out] at hx1
      rw [← hq.2] at hcx
      have Hq2 := Lib.hid hq.2
      obtain ⟨q, hqq⟩ : ∃ q, wQ ws k = q := ⟨_, rfl⟩
      rw [hqq] at hcx hx1
      have hqb : q ≤ 100 := by omega
      have Hqq := Lib.hid hqq
      obtain ⟨x, hxx⟩ : ∃ x, suB (wS ts) (wQ ws) k = x := ⟨_, rfl⟩
      rw [hxx] at hx hx1 ⊢
      have Hxx := Lib.hid hxx
      clear hc hq hqq hxx
      by_cases hz : q = 0
      · subst hz
        have hqi : ¬ (0 : Int) < ((0 : Nat) : Int) := by simp
        go_wp2
        go_roundw
        case rel => exact ⟨k + 1, by omega, by simp, by rw [Hs.out, Hqq.out, Hxx.out, Nat.zero_mul]; rfl, hB⟩
        case measure => simp [intOf]; omega
      · have hqi : (0 : Int) < (q : Int) := by omega
        have Hck := Lib.hid (Hh.out k hlt (by rw [← Hq2.out, Hqq.out]; omega))
        obtain ⟨y, hyy⟩ : ∃ y, wS ts k = y := ⟨_, rfl⟩
        rw [hyy] at hs hx1
        have Hyy := Lib.hid hyy
        have Hy2 := Lib.hid (show suW ts [(k : Int), (k : Int)] ts.length = y by rw [suW_same]; exact hyy)
        obtain ⟨m, hm⟩ : ∃ m, q * y = m := ⟨_, rfl⟩
        have Hm := Lib.hid hm
        have m1 : (q : Int) * (y : Int) = (m : Int) := by rw [← hm]; simp
        rw [hm] at hx1
        clear hyy hm hz
        have hfw : Try.prog.follows Departure.mixedOrders = true := by kernel_rfl
        have m2 : (x : Int) + (m : Int) = ((x + m : Nat) : Int) := by simp
        obtain ⟨z, hz2⟩ : ∃ z, x + m = z := ⟨_, rfl⟩
        have Hz2 := Lib.hid hz2
        rw [hz2] at m2 hx1
        have hmz : m ≤ z := by omega
        have hki : (k : Int) < (ws.length : Int) := by omega
        clear hz2
        go_wp2_with fail
        refine wp_region_held_drew (S := fun w' => w'.cell? ⟨b, off + k, none⟩ = some (.int .i64 (q : Int)) ∧ Below w.heap.size w w') hfw ⟨hcx, hB.drew⟩ ?_
        intro hS0
        refine wpAnyH_take (i := 0) (v := ?vr10) rfl (by kernel_rfl) (by kernel_rfl) (by kernel_rfl) (fun _ _ _ h => h) (.inl ⟨by first | kernel_rfl | rfl, ?yr10⟩) hS0 ?_
        case yr10 =>
          intro w' hS
          (clear hS)
          go_simp
          try with_reducible rfl
        refine wpAnyH_take (i := 1) (v := ?vr11) rfl (by kernel_rfl) (by kernel_rfl) (by kernel_rfl) (fun _ _ _ h => h) (.inl ⟨by first | kernel_rfl | rfl, ?yr11⟩) hS0 ?_
        case yr11 =>
          intro w' hS
          (clear hS)
          go_simp
          try with_reducible rfl
        refine wpAnyH_take (i := 2) (v := ?vr12) rfl (by kernel_rfl) (by kernel_rfl) (by kernel_rfl) (fun _ _ _ h => h) (.inl ⟨by first | kernel_rfl | rfl, ?yr12⟩) hS0 ?_
        case yr12 =>
          intro w' hS
          (clear hS)
          go_simp
          try with_reducible rfl
        refine wpAnyH_take (i := 5) (v := ?vr15) rfl (by kernel_rfl) (by kernel_rfl) (by kernel_rfl) (fun _ _ _ h => h) (.inl ⟨by first | kernel_rfl | rfl, ?yr15⟩) hS0 ?_
        case yr15 =>
          intro w' hS
          (clear hS)
          go_simp
          try with_reducible rfl
        refine wpAnyH_take (i := 6) (v := ?vr16) rfl (by kernel_rfl) (by kernel_rfl) (by kernel_rfl) (fun _ _ _ h => h) (.inl ⟨by first | kernel_rfl | rfl, ?yr16⟩) hS0 ?_
        case yr16 =>
          intro w' hS
          (clear hS)
          go_simp
          try with_reducible rfl
        refine wpAnyH_take (i := 7) (v := ?vr17) rfl (by kernel_rfl) (by kernel_rfl) (by kernel_rfl) (fun _ _ _ h => h) (.inl ⟨by first | kernel_rfl | rfl, ?yr17⟩) hS0 ?_
        case yr17 =>
          intro w' hS
          (clear hS)
          go_simp
          try with_reducible rfl
        try simp only [Act.put, List.getElem_toArray, List.getElem_cons_zero, List.getElem_cons_succ, List.setIfInBounds_toArray, List.set_cons_zero, List.set_cons_succ]
        refine wpAnyH_take (i := 3) (v := ?vr23) rfl (by kernel_rfl) (by kernel_rfl) (by kernel_rfl) (fun _ _ _ h => h) (.inl ⟨by first | kernel_rfl | rfl, ?yr23⟩) hS0 ?_
        case yr23 =>
          intro w' hS
          (clear hS)
          go_simp
          try with_reducible rfl
        try simp only [Act.put, List.getElem_toArray, List.getElem_cons_zero, List.getElem_cons_succ, List.setIfInBounds_toArray, List.set_cons_zero, List.set_cons_succ]
        refine wpAnyH_take (i := 4) (v := ?vr34) rfl (by kernel_rfl) (by kernel_rfl) (by kernel_rfl) (fun _ _ _ h => h) (.inl ⟨by first | kernel_rfl | rfl, ?yr34⟩) hS0 ?_
        case yr34 =>
          intro w' hS
          (have k1 := hS.1; clear hS)
          go_simp
          try with_reducible rfl
        try simp only [Act.put, List.getElem_toArray, List.getElem_cons_zero, List.getElem_cons_succ, List.setIfInBounds_toArray, List.set_cons_zero, List.set_cons_succ]
        refine wpAnyH_ready (rs := [8]) (by kernel_rfl) (by simp) ?_
        refine AllReadyH.cons rfl (fun K' hK' => ?_) AllReadyH.nil
        rw [if_pos (by first | kernel_rfl | rfl)]
        go_simp
        refine (l10Sum_c _ ts (k : Int) (k : Int) _ (hI.later hS0.2) (by omega) hn.2 Hck.out Hck.out).mono ?_
        rintro e w' ⟨he, hw9⟩
        rw [Hy2.out] at he
        subst he
        rw [← hw9]
        clear hw9
        refine hK'.out _ _ hS0 fun _ => ?_
        clear hK'
        refine wpAnyH_take (i := 9) (v := (.int .i64 (m : Int))) rfl (by kernel_rfl) (by kernel_rfl) (by kernel_rfl) (fun _ _ _ h => h) (.inl ⟨by first | kernel_rfl | rfl, ?yr49⟩) hS0 ?_
        case yr49 =>
          intro w' hS
          (clear hS)
          go_simp
          (rw [IntKind.wrap_i64]; omega)
          first | done | (simp; done) | (simp; omega) | omega | (simp [*]; done)
        refine wpAnyH_take (i := 10) (v := (.int .i64 (z : Int))) rfl (by kernel_rfl) (by kernel_rfl) (by kernel_rfl) (fun _ _ _ h => h) (.inl ⟨by first | kernel_rfl | rfl, ?yr510⟩) hS0 ?_
        case yr510 =>
          intro w' hS
          (clear hS)
          go_simp
          (rw [IntKind.wrap_i64]; omega)
          first | done | (simp; done) | (simp; omega) | omega | (simp [*]; done)
        refine wpAnyH_take (i := 11) (v := ?vr611) rfl (by kernel_rfl) (by kernel_rfl) (by kernel_rfl) (fun _ _ _ h => h) (.inl ⟨by first | kernel_rfl | rfl, ?yr611⟩) hS0 ?_
        case yr611 =>
          intro w' hS
          (clear hS)
          go_simp
          try with_reducible rfl
        try simp only [Act.put, List.getElem_toArray, List.getElem_cons_zero, List.getElem_cons_succ, List.setIfInBounds_toArray, List.set_cons_zero, List.set_cons_succ]
        refine wpAnyH_done (by kernel_rfl) ?_ _
        clear m1 m2
        go_wp2
        go_roundw
        case rel => exact ⟨k + 1, by omega, by simp, by rw [Hs.out, Hqq.out, Hxx.out, Hyy.out, Hm.out, Hz2.out], hS0.2⟩
        case measure => simp [intOf]; omega
    · obtain rfl : k = ws.length := by omega
      go_wp2
      go_ret
      exact ⟨rfl, hB⟩

theorem ints_nil (n₀ : Nat) (W : World) : Ints n₀ W (.slice none 0 0) [] := ⟨none, 0, rfl, .inl rfl⟩
theorem comB_nil (ts : List Int) : comB ts [] = turnsOk ts 8 := by unfold comB; simp

set_option maxRecDepth 100000 in
set_option maxHeartbeats 8000000 in
theorem s_MeanByWeights (c0 : Value) (ts : List Int) (c1 : Value) (ws : List Int) (w : World) (hI : Ints w.heap.size w c0 ts) (_hN : I64s ts) (hm : ts.length ≤ 1048576) (hT : Ints w.heap.size w c1 ws) (_hN1 : I64s ws) (hm1 : ws.length ≤ 1048576) :
    Calls Try.prog 32 #[c0, c1] w fun e w' => e = .returned (.tuple #[.int .i64 (mbN ts ws), .int .i64 (mbD ts ws), .int .i64 (mbC ts ws)]) ∧ Below w.heap.size w w' := by
  obtain ⟨a, cap, rfl⟩ := hI.shape
  obtain ⟨a2, cap2, rfl⟩ := hT.shape
  cases ht : turnsOk ts 8
  · have Hc := Lib.hid (show mbC ts ws = 2 by unfold mbC; rw [ht]; rfl)
    have H0 := Lib.hid (show mbN ts ws = 0 by unfold mbN; rw [Hc.out]; rfl)
    have H1 := Lib.hid (show mbD ts ws = 0 by unfold mbD; rw [Hc.out]; rfl)
    have Ht := Lib.hid ((comB_nil ts).trans ht)
    clear ht
    go_enter Try.func32, Try.ntmps32
    go_wp2_with fail
    refine (l10Turns_c _ _ ts [] _ hI (ints_nil _ _) hm (by simp)).mono ?_
    rintro e w' ⟨he, rfl⟩
    rw [Ht.out] at he
    subst he
    go_wp2
    go_ret3
    exact ⟨ret_i3d H0.out.symm H1.out.symm Hc.out.symm, Below.refl _ _⟩
  · cases hw : wOk ws 0 8
    · have Hc := Lib.hid (mbC_no (ts := ts) hw)
      have H0 := Lib.hid (show mbN ts ws = 0 by unfold mbN; rw [Hc.out]; rfl)
      have H1 := Lib.hid (show mbD ts ws = 0 by unfold mbD; rw [Hc.out]; rfl)
      have Ht := Lib.hid ((comB_nil ts).trans ht)
      have Hw := Lib.hid hw
      clear ht hw
      go_enter Try.func32, Try.ntmps32
      go_wp2_with fail
      refine (l10Turns_c _ _ ts [] _ hI (ints_nil _ _) hm (by simp)).mono ?_
      rintro e w' ⟨he, rfl⟩
      rw [Ht.out] at he
      subst he
      go_wp2_with fail
      refine (l10Weights_c _ ws 0 8 _ hT hm1 (by omega) (by omega)).mono ?_
      rintro e w' ⟨he, rfl⟩
      rw [Hw.out] at he
      subst he
      go_wp2
      go_ret3
      exact ⟨ret_i3d H0.out.symm H1.out.symm Hc.out.symm, Below.refl _ _⟩
    · have hn := turnsOk_len ht
      have hW := wgt (by omega) hw
      have hB := wBd hn hW
      have hwl := hW.len
      have Hcq := Lib.hid (show mbC ts ws = if hasAll ts (twL ws) then 0 else 4 by unfold mbC; rw [ht, hw]; rfl)
      have Ht := Lib.hid ((comB_nil ts).trans ht)
      have Hw := Lib.hid hw
      have HW := Lib.hid hW
      have HB := Lib.hid hB
      clear ht hw hW hB
      go_enter Try.func32, Try.ntmps32
      go_wp2_with fail
      refine (l10Turns_c _ _ ts [] _ hI (ints_nil _ _) hm (by simp)).mono ?_
      rintro e w' ⟨he, rfl⟩
      rw [Ht.out] at he
      subst he
      go_wp2_with fail
      refine (l10Weights_c _ ws 0 8 _ hT hm1 (by omega) (by omega)).mono ?_
      rintro e w' ⟨he, rfl⟩
      rw [Hw.out] at he
      subst he
      go_wp2
      go_loop [7, 8] (fun s i => ∃ k : Nat, k ≤ ws.length ∧ i = .int .i64 k ∧ s = .int .i64 (wtTo (wQ ws) k : Nat) ∧ ∀ j : Nat, j < k → nth ws j ≠ 0 → ts.contains (j : Int) = true) (fun _ i => ws.length - (intOf i).toNat)
      case atStart => exact ⟨0, Nat.zero_le _, rfl, rfl, by simp⟩
      case round =>
        obtain ⟨k, hk, rfl, rfl, hall⟩ := hrel
        have Hall := Lib.hid hall
        clear hall
        have htt := HB.out.t k hk
        by_cases hlt : k < ws.length
        · obtain ⟨b, off, rfl, hb, hc⟩ := hT.at_ hlt
          have hcx := hc k hlt
          have hq := HB.out.q k hlt
          have ht1 := HB.out.t (k + 1) hlt
          have Hs := Lib.hid (show wtTo (wQ ws) (k + 1) = wtTo (wQ ws) k + wQ ws k from rfl)
          rw [Hs.out] at ht1
          rw [← hq.2] at hcx
          have Hq2 := Lib.hid hq.2
          obtain ⟨q, hqq⟩ : ∃ q, wQ ws k = q := ⟨_, rfl⟩
          rw [hqq] at hcx ht1
          have hqb : q ≤ 100 := by omega
          have Hqq := Lib.hid hqq
          obtain ⟨x, hxx⟩ : ∃ x, wtTo (wQ ws) k = x := ⟨_, rfl⟩
          rw [hxx] at htt ht1 ⊢
          have Hxx := Lib.hid hxx
          clear hc hq hqq hxx
          by_cases hz : q = 0
          · subst hz
            have hqi : ¬ (0 : Int) < ((0 : Nat) : Int) := by simp
            go_wp2
            go_round
            case rel => exact ⟨k + 1, by omega, by simp, by rw [Hs.out, Hqq.out, Hxx.out]; simp, fun j hj hnz => by by_cases e : j = k; (subst e; exact absurd (by rw [← Hq2.out, Hqq.out]; rfl) hnz); exact Hall.out j (by omega) hnz⟩
            case measure => simp [intOf]; omega
          · have hqi : (0 : Int) < (q : Int) := by omega
            have Hnz := Lib.hid (show nth ws k ≠ 0 by rw [← Hq2.out, Hqq.out]; omega)
            have hneg := ix_zero (ts := ts) (i := (k : Int))
            have hbd := ixI_bd (shiftL ts 0) (k : Int)
            rw [shiftL_length (Nat.zero_le _)] at hbd
            cases hck : ts.contains (k : Int)
            · have hlz : ixI (shiftL ts 0) (k : Int) < 0 := by rw [hck] at hneg; simpa using hneg
              have Hno := Lib.hid (show hasAll ts (twL ws) = false by
                cases hh : hasAll ts (twL ws)
                · rfl
                · rw [has_tw.1 hh k hlt Hnz.out] at hck; cases hck)
              have Hc := Lib.hid (show mbC ts ws = 4 by rw [Hcq.out, Hno.out]; rfl)
              have H0 := Lib.hid (show mbN ts ws = 0 by unfold mbN; rw [Hc.out]; rfl)
              have H1 := Lib.hid (show mbD ts ws = 0 by unfold mbD; rw [Hc.out]; rfl)
              clear hck hneg
              obtain ⟨z, hzz⟩ : ∃ z, ixI (shiftL ts 0) (k : Int) = z := ⟨_, rfl⟩
              have Hzz := Lib.hid hzz
              rw [hzz] at hlz hbd
              clear hzz
              go_wp2_with fail
              refine (l10Wait_c _ ts (k : Int) 0 _ hI (by omega) hm (by omega)).mono ?_
              rintro e w' ⟨he, rfl⟩
              rw [Hzz.out] at he
              subst he
              go_wp2
              go_ret3
              exact ⟨ret_i3d H0.out.symm H1.out.symm Hc.out.symm, Below.refl _ _⟩
            · have hlz : ¬ ixI (shiftL ts 0) (k : Int) < 0 := by rw [hck] at hneg; simpa using hneg
              have Hck := Lib.hid hck
              clear hck hneg
              obtain ⟨z, hzz⟩ : ∃ z, ixI (shiftL ts 0) (k : Int) = z := ⟨_, rfl⟩
              have Hzz := Lib.hid hzz
              rw [hzz] at hlz hbd
              clear hzz
              go_wp2_with fail
              refine (l10Wait_c _ ts (k : Int) 0 _ hI (by omega) hm (by omega)).mono ?_
              rintro e w' ⟨he, rfl⟩
              rw [Hzz.out] at he
              subst he
              go_wp2
              go_round
              case rel => exact ⟨k + 1, by omega, by simp, by rw [Hs.out, Hqq.out, Hxx.out]; simp, fun j hj hnz => by by_cases e : j = k; (subst e; exact Hck.out); exact Hall.out j (by omega) hnz⟩
              case measure => simp [intOf]; omega
        · obtain rfl : k = ws.length := by omega
          have Hyes := Lib.hid (has_tw.2 Hall.out)
          have Hc := Lib.hid (show mbC ts ws = 0 by rw [Hcq.out, Hyes.out]; rfl)
          have H0 := Lib.hid (show mbN ts ws = (lowN (suB (wS ts) (wQ ws) ws.length) (ts.length * wtTo (wQ ws) ws.length) : Nat) by unfold mbN; rw [Hc.out]; rfl)
          have H1 := Lib.hid (show mbD ts ws = (lowD (suB (wS ts) (wQ ws) ws.length) (ts.length * wtTo (wQ ws) ws.length) : Nat) by unfold mbD; rw [Hc.out]; rfl)
          have hx := HB.out.x ws.length (Nat.le_refl _)
          have htp := HB.out.tpos
          go_wp2_with fail
          refine (l10Mean_c _ _ ts ws _ hI hT hn HW.out Hyes.out).mono ?_
          rintro e w8 ⟨rfl, hb8⟩
          obtain ⟨x, hxx⟩ : ∃ x, suB (wS ts) (wQ ws) ws.length = x := ⟨_, rfl⟩
          obtain ⟨t, htq⟩ : ∃ t, wtTo (wQ ws) ws.length = t := ⟨_, rfl⟩
          have Hxx := Lib.hid hxx
          have Htq := Lib.hid htq
          rw [hxx] at hx ⊢
          rw [htq] at htt htp ⊢
          obtain ⟨m, hmm⟩ : ∃ m, ts.length * t = m := ⟨_, rfl⟩
          have Hm := Lib.hid hmm
          have m1 : (t : Int) * (ts.length : Int) = (m : Int) := by rw [← hmm, Nat.mul_comm]; simp
          have hmp : 0 < m := by rw [← hmm]; exact Nat.mul_pos (by omega) htp
          have hmb : m ≤ 96000 := by rw [← hmm]; exact Nat.mul_le_mul hn.2 htt
          clear hxx htq hmm
          go_wp2_with fail
          refine (l01Lowest_c x m _ (by omega) (by omega) hmp).mono ?_
          rintro e w9 ⟨rfl, hb9⟩
          clear m1
          go_wp2
          go_ret3
          exact ⟨ret_i3d (by rw [H0.out, Hxx.out, Htq.out, Hm.out]) (by rw [H1.out, Hxx.out, Htq.out, Hm.out]) Hc.out.symm, hb8.trans (hb9.mono hb8.size)⟩

end Go.Proofs.Ytgndbifcncklgaa
