/-
  Natural classes, the program's side: is a class inside another one; the classes of a list that are.
-/
import Derived.Test.YtbhpflhopajbfaaClH
import Derived.Test.YtbhpflhopajbfaaNum
namespace Go.Proofs.Ytbhpflhopajbfaa
open Go.RowKit Go.Shelf
attribute [local go_sem] Oper.semAt_some

/-- are all slots of a class (x, a) in the class (y, b)? -/
def insB (y b : Nat) (c : Int × Int) : Bool := decide (c.2.toNat % b = 0) && decide (c.1.toNat % b = y)

set_option maxRecDepth 100000 in
set_option maxHeartbeats 8000000 in
theorem isInside_c (x a y b : Nat) (w : World) (hb : 0 < b) (_hx : x ≤ 1000) (_ha : a ≤ 1000) (hb2 : b ≤ 1000) :
    Calls Try.prog 180 #[.agg #[.int .i64 x, .int .i64 a], .agg #[.int .i64 y, .int .i64 b]] w fun e w' => e = .returned (.bool (insB y b ((x : Int), (a : Int)))) ∧ Below w.heap.size w w' := by
  have hz : ((b : Nat) : Int) ≠ 0 := by omega
  have hmo : ((a : Nat) : Int).tmod ((b : Nat) : Int) = ((a % b : Nat) : Int) := rfl
  have hme : ((a : Nat) : Int) % ((b : Nat) : Int) = ((a % b : Nat) : Int) := by simp
  have hi : insB y b ((x : Int), (a : Int)) = (decide (a % b = 0) && decide (x % b = y)) := by unfold insB; simp
  have hd : decide (((x % b : Nat) : Int) = (y : Int)) = decide (x % b = y) := by
    by_cases e : x % b = y
    · rw [decide_eq_true e, decide_eq_true (by omega)]
    · rw [decide_eq_false e, decide_eq_false (by omega)]
  obtain ⟨d, hd2⟩ : ∃ d, decide (x % b = y) = d := ⟨_, rfl⟩
  rw [hd2] at hd hi
  obtain ⟨r, hr⟩ : ∃ r, a % b = r := ⟨_, rfl⟩
  rw [hr] at hmo hme hi
  have Hd := Lib.hid hd
  have Hi := Lib.hid hi
  clear hr hd hd2 hi
  have hfw : Try.prog.follows Departure.mixedOrders = true := by kernel_rfl
  have hS : Box2 ((w.alloc (.cells #[.int .i64 x, .int .i64 a] 106)).alloc (.cells #[.int .i64 y, .int .i64 b] 106)).drew w.heap.size 106 (.int .i64 x) (.int .i64 a) ∧
      Box2 ((w.alloc (.cells #[.int .i64 x, .int .i64 a] 106)).alloc (.cells #[.int .i64 y, .int .i64 b] 106)).drew (w.heap.size + 1) 106 (.int .i64 y) (.int .i64 b) ∧
      Below w.heap.size w ((w.alloc (.cells #[.int .i64 x, .int .i64 a] 106)).alloc (.cells #[.int .i64 y, .int .i64 b] 106)).drew :=
    ⟨(Box2.new w _ _ _).alloc _, box2_at (by simp), (((Below.refl _ _).alloc (Nat.le_refl _) _).alloc (by simp) _).drew⟩
  by_cases hr0 : r = 0
  · have hq : ((r : Int) == 0) = true := by rw [hr0]; rfl
    have Hv := Lib.hid (show insB y b ((x : Int), (a : Int)) = d by rw [Hi.out, decide_eq_true hr0]; rfl)
    clear hr0
    go_enter Try.func180, Try.ntmps180
    go_wp2_with fail
    refine wp_region_held_drew (S := fun w' => Box2 w' w.heap.size 106 (.int .i64 x) (.int .i64 a) ∧ Box2 w' (w.heap.size + 1) 106 (.int .i64 y) (.int .i64 b) ∧ Below w.heap.size w w') hfw hS ?_
    intro hS0
    refine wpAnyH_take (i := 0) (v := ?vi1q0) rfl (by kernel_rfl) (by kernel_rfl) (by kernel_rfl) (fun _ _ _ h => h) (.inl ⟨by first | kernel_rfl | rfl, ?yi1q0⟩) hS0 ?_
    case yi1q0 =>
      intro w' hS
      (have a0 := hS.1.c0; have a1 := hS.1.c1; have a2 := hS.2.1.c0; have a3 := hS.2.1.c1; clear hS)
      go_simp
      try with_reducible rfl
    refine wpAnyH_take (i := 2) (v := ?vi1q2) rfl (by kernel_rfl) (by kernel_rfl) (by kernel_rfl) (fun _ _ _ h => h) (.inl ⟨by first | kernel_rfl | rfl, ?yi1q2⟩) hS0 ?_
    case yi1q2 =>
      intro w' hS
      (have a0 := hS.1.c0; have a1 := hS.1.c1; have a2 := hS.2.1.c0; have a3 := hS.2.1.c1; clear hS)
      go_simp
      try with_reducible rfl
    refine wpAnyH_ready (rs := [1]) (by kernel_rfl) (by simp) ?_
    refine AllReadyH.cons rfl (fun K' hK' => ?_) AllReadyH.nil
    rw [if_pos (by first | kernel_rfl | rfl)]
    go_simp
    refine (gap_c x a _).mono ?_
    rintro e w1 ⟨rfl, hb1⟩
    refine hK'.out _ _ ⟨hS0.1.later hb1, hS0.2.1.later hb1, hS0.2.2.trans (hb1.mono hS0.2.2.size)⟩ fun hS1 => ?_
    clear hS0 hb1 hS
    refine wpAnyH_ready (rs := [3]) (by kernel_rfl) (by simp) ?_
    refine AllReadyH.cons rfl (fun K' hK' => ?_) AllReadyH.nil
    rw [if_pos (by first | kernel_rfl | rfl)]
    go_simp
    refine (gap_c y b _).mono ?_
    rintro e w2 ⟨rfl, hb2⟩
    refine hK'.out _ _ ⟨hS1.1.later hb2, hS1.2.1.later hb2, hS1.2.2.trans (hb2.mono hS1.2.2.size)⟩ fun hS2 => ?_
    clear hS1 hb2
    refine wpAnyH_take (i := 4) (v := (.int .i64 r)) rfl (by kernel_rfl) (by kernel_rfl) (by kernel_rfl) (fun _ _ _ h => h) (.inl ⟨by first | kernel_rfl | rfl, ?yi2q4⟩) hS2 ?_
    case yi2q4 =>
      intro w' hS
      (have hz3 : b ≠ 0 := (by omega); clear hS)
      go_simp
      first | done | (simp; done) | (simp; omega) | omega | (simp [*]; done)
    refine wpAnyH_take (i := 5) (v := (.bool true)) rfl (by kernel_rfl) (by kernel_rfl) (by kernel_rfl) (fun _ _ _ h => h) (.inl ⟨by first | kernel_rfl | rfl, ?yi3q5⟩) hS2 ?_
    case yi3q5 =>
      intro w' hS
      (clear hS; have hq2 := hq)
      go_simp
      first | done | (simp; done) | (simp; omega) | omega | (simp [*]; done)
    refine wpAnyH_take (i := 6) (v := ?vi4q6) rfl (by kernel_rfl) (by kernel_rfl) (by kernel_rfl) (fun _ _ _ h => h) (.inl ⟨by first | kernel_rfl | rfl, ?yi4q6⟩) hS2 ?_
    case yi4q6 =>
      intro w' hS
      (have a0 := hS.1.c0; have a1 := hS.1.c1; have a2 := hS.2.1.c0; have a3 := hS.2.1.c1; clear hS)
      go_simp
      try with_reducible rfl
    refine wpAnyH_take (i := 7) (v := ?vi4q7) rfl (by kernel_rfl) (by kernel_rfl) (by kernel_rfl) (fun _ _ _ h => h) (.inl ⟨by first | kernel_rfl | rfl, ?yi4q7⟩) hS2 ?_
    case yi4q7 =>
      intro w' hS
      (have a0 := hS.1.c0; have a1 := hS.1.c1; have a2 := hS.2.1.c0; have a3 := hS.2.1.c1; clear hS)
      go_simp
      try with_reducible rfl
    refine wpAnyH_take (i := 8) (v := ?vi4q8) rfl (by kernel_rfl) (by kernel_rfl) (by kernel_rfl) (fun _ _ _ h => h) (.inl ⟨by first | kernel_rfl | rfl, ?yi4q8⟩) hS2 ?_
    case yi4q8 =>
      intro w' hS
      (have a0 := hS.1.c0; have a1 := hS.1.c1; have a2 := hS.2.1.c0; have a3 := hS.2.1.c1; clear hS)
      go_simp
      try with_reducible rfl
    refine wpAnyH_ready (rs := [9]) (by kernel_rfl) (by simp) ?_
    refine AllReadyH.cons rfl (fun K' hK' => ?_) AllReadyH.nil
    rw [if_pos (by first | kernel_rfl | rfl)]
    go_simp
    refine (rest_c x a _).mono ?_
    rintro e w3 ⟨rfl, hb3⟩
    refine hK'.out _ _ ⟨hS2.1.later hb3, hS2.2.1.later hb3, hS2.2.2.trans (hb3.mono hS2.2.2.size)⟩ fun hS3 => ?_
    clear hS2 hb3
    refine wpAnyH_ready (rs := [10]) (by kernel_rfl) (by simp) ?_
    refine AllReadyH.cons rfl (fun K' hK' => ?_) AllReadyH.nil
    rw [if_pos (by first | kernel_rfl | rfl)]
    go_simp
    refine (has_c d y b x _ hb Hd.out).mono ?_
    rintro e w4 ⟨rfl, hb4⟩
    refine hK'.out _ _ ⟨hS3.1.later hb4, hS3.2.1.later hb4, hS3.2.2.trans (hb4.mono hS3.2.2.size)⟩ fun hS4 => ?_
    clear hS3 hb4
    refine wpAnyH_take (i := 11) (v := ?vi5q11) rfl (by kernel_rfl) (by kernel_rfl) (by kernel_rfl) (fun _ _ _ h => h) (.inl ⟨by first | kernel_rfl | rfl, ?yi5q11⟩) hS4 ?_
    case yi5q11 =>
      intro w' hS
      (clear hS)
      go_simp
      try with_reducible rfl
    refine wpAnyH_take (i := 12) (v := ?vi5q12) rfl (by kernel_rfl) (by kernel_rfl) (by kernel_rfl) (fun _ _ _ h => h) (.inl ⟨by first | kernel_rfl | rfl, ?yi5q12⟩) hS4 ?_
    case yi5q12 =>
      intro w' hS
      (clear hS)
      go_simp
      try with_reducible rfl
    refine wpAnyH_done (by kernel_rfl) ?_ _
    go_wp2
    go_ret
    exact ⟨by rw [Hv.out]; rfl, hS4.2.2⟩
  · have hq : ((r : Int) == 0) = false := by rw [beq_eq_false_iff_ne]; omega
    have Hv := Lib.hid (show insB y b ((x : Int), (a : Int)) = false by rw [Hi.out, decide_eq_false hr0]; rfl)
    clear hr0
    go_enter Try.func180, Try.ntmps180
    go_wp2_with fail
    refine wp_region_held_drew (S := fun w' => Box2 w' w.heap.size 106 (.int .i64 x) (.int .i64 a) ∧ Box2 w' (w.heap.size + 1) 106 (.int .i64 y) (.int .i64 b) ∧ Below w.heap.size w w') hfw hS ?_
    intro hS0
    refine wpAnyH_take (i := 0) (v := ?vk1q0) rfl (by kernel_rfl) (by kernel_rfl) (by kernel_rfl) (fun _ _ _ h => h) (.inl ⟨by first | kernel_rfl | rfl, ?yk1q0⟩) hS0 ?_
    case yk1q0 =>
      intro w' hS
      (have a0 := hS.1.c0; have a1 := hS.1.c1; have a2 := hS.2.1.c0; have a3 := hS.2.1.c1; clear hS)
      go_simp
      try with_reducible rfl
    refine wpAnyH_take (i := 2) (v := ?vk1q2) rfl (by kernel_rfl) (by kernel_rfl) (by kernel_rfl) (fun _ _ _ h => h) (.inl ⟨by first | kernel_rfl | rfl, ?yk1q2⟩) hS0 ?_
    case yk1q2 =>
      intro w' hS
      (have a0 := hS.1.c0; have a1 := hS.1.c1; have a2 := hS.2.1.c0; have a3 := hS.2.1.c1; clear hS)
      go_simp
      try with_reducible rfl
    refine wpAnyH_ready (rs := [1]) (by kernel_rfl) (by simp) ?_
    refine AllReadyH.cons rfl (fun K' hK' => ?_) AllReadyH.nil
    rw [if_pos (by first | kernel_rfl | rfl)]
    go_simp
    refine (gap_c x a _).mono ?_
    rintro e w1 ⟨rfl, hb1⟩
    refine hK'.out _ _ ⟨hS0.1.later hb1, hS0.2.1.later hb1, hS0.2.2.trans (hb1.mono hS0.2.2.size)⟩ fun hS1 => ?_
    clear hS0 hb1 hS
    refine wpAnyH_ready (rs := [3]) (by kernel_rfl) (by simp) ?_
    refine AllReadyH.cons rfl (fun K' hK' => ?_) AllReadyH.nil
    rw [if_pos (by first | kernel_rfl | rfl)]
    go_simp
    refine (gap_c y b _).mono ?_
    rintro e w2 ⟨rfl, hb2⟩
    refine hK'.out _ _ ⟨hS1.1.later hb2, hS1.2.1.later hb2, hS1.2.2.trans (hb2.mono hS1.2.2.size)⟩ fun hS2 => ?_
    clear hS1 hb2
    refine wpAnyH_take (i := 4) (v := (.int .i64 r)) rfl (by kernel_rfl) (by kernel_rfl) (by kernel_rfl) (fun _ _ _ h => h) (.inl ⟨by first | kernel_rfl | rfl, ?yk2q4⟩) hS2 ?_
    case yk2q4 =>
      intro w' hS
      (have hz3 : b ≠ 0 := (by omega); clear hS)
      go_simp
      first | done | (simp; done) | (simp; omega) | omega | (simp [*]; done)
    refine wpAnyH_take (i := 5) (v := (.bool false)) rfl (by kernel_rfl) (by kernel_rfl) (by kernel_rfl) (fun _ _ _ h => h) (.inl ⟨by first | kernel_rfl | rfl, ?yk3q5⟩) hS2 ?_
    case yk3q5 =>
      intro w' hS
      (clear hS; have hq2 := hq)
      go_simp
      first | done | (simp; done) | (simp; omega) | omega | (simp [*]; done)
    refine wpAnyH_take (i := 6) (v := ?vk4q6) rfl (by kernel_rfl) (by kernel_rfl) (by kernel_rfl) (fun _ _ _ h => h) (.inl ⟨by first | kernel_rfl | rfl, ?yk4q6⟩) hS2 ?_
    case yk4q6 =>
      intro w' hS
      (clear hS)
      go_simp
      try with_reducible rfl
    refine wpAnyH_take (i := 7) (v := undef) rfl (by kernel_rfl) (by kernel_rfl) (by kernel_rfl) (fun _ _ _ h => h) (.inr ⟨by kernel_rfl, rfl⟩) hS2 ?_
    refine wpAnyH_take (i := 8) (v := undef) rfl (by kernel_rfl) (by kernel_rfl) (by kernel_rfl) (fun _ _ _ h => h) (.inr ⟨by kernel_rfl, rfl⟩) hS2 ?_
    refine wpAnyH_take (i := 9) (v := undef) rfl (by kernel_rfl) (by kernel_rfl) (by kernel_rfl) (fun _ _ _ h => h) (.inr ⟨by kernel_rfl, rfl⟩) hS2 ?_
    refine wpAnyH_take (i := 10) (v := undef) rfl (by kernel_rfl) (by kernel_rfl) (by kernel_rfl) (fun _ _ _ h => h) (.inr ⟨by kernel_rfl, rfl⟩) hS2 ?_
    try simp only [Act.put, List.getElem_toArray, List.getElem_cons_zero, List.getElem_cons_succ, List.setIfInBounds_toArray, List.set_cons_zero, List.set_cons_succ]
    refine wpAnyH_take (i := 11) (v := ?vk5q11) rfl (by kernel_rfl) (by kernel_rfl) (by kernel_rfl) (fun _ _ _ h => h) (.inl ⟨by first | kernel_rfl | rfl, ?yk5q11⟩) hS2 ?_
    case yk5q11 =>
      intro w' hS
      (clear hS)
      go_simp
      try with_reducible rfl
    refine wpAnyH_take (i := 12) (v := ?vk5q12) rfl (by kernel_rfl) (by kernel_rfl) (by kernel_rfl) (fun _ _ _ h => h) (.inl ⟨by first | kernel_rfl | rfl, ?yk5q12⟩) hS2 ?_
    case yk5q12 =>
      intro w' hS
      (clear hS)
      go_simp
      try with_reducible rfl
    refine wpAnyH_done (by kernel_rfl) ?_ _
    go_wp2
    go_ret
    exact ⟨by rw [Hv.out]; rfl, hS2.2.2⟩

theorem isInside_d (d : Bool) (x a : Int) (y b : Nat) (w : World) (hb : 0 < b) (hx : 0 ≤ x ∧ x ≤ 1000) (ha : 0 ≤ a ∧ a ≤ 1000) (hb2 : b ≤ 1000) (hd : insB y b (x, a) = d) :
    Calls Try.prog 180 #[.agg #[.int .i64 x, .int .i64 a], .agg #[.int .i64 y, .int .i64 b]] w fun e w' => e = .returned (.bool d) ∧ Below w.heap.size w w' := by
  have h := isInside_c x.toNat a.toNat y b w hb (by omega) (by omega) hb2
  rw [show ((x.toNat : Nat) : Int) = x by omega, show ((a.toNat : Nat) : Int) = a by omega, hd] at h
  exact h
/-- the classes among the first k that are inside (y, b) -/
def insF (y b : Nat) (cs : List (Int × Int)) (k : Nat) : List (Int × Int) := (cs.take k).filter (insB y b)
theorem insF_succ {y b : Nat} {cs : List (Int × Int)} {k : Nat} (hk : k < cs.length) : insF y b cs (k + 1) = if insB y b (rst cs k, gp cs k) = true then insF y b cs k ++ [(rst cs k, gp cs k)] else insF y b cs k := by
  have e : (rst cs k, gp cs k) = cs[k] := by unfold rst gp; simp [List.getElem?_eq_getElem hk]
  unfold insF
  rw [List.take_succ_eq_append_getElem hk, List.filter_append, ← e]
  cases h : insB y b (rst cs k, gp cs k)
  · rw [if_neg (by simp)]; simp [h]
  · rw [if_pos rfl]; simp [h]
theorem insF_len (y b : Nat) (cs : List (Int × Int)) (k : Nat) : (insF y b cs k).length ≤ k := Nat.le_trans (List.length_filter_le _ _) (List.length_take_le _ _)

set_option maxRecDepth 100000 in
set_option maxHeartbeats 8000000 in
theorem classesInside_c (sv : Value) (cs : List (Int × Int)) (y b : Nat) (w : World) (hI : Cls w.heap.size w sv cs) (hcl : Clss cs) (hl : cs.length ≤ 8) (hb : 0 < b) (hb2 : b ≤ 1000) :
    Calls Try.prog 148 #[sv, .agg #[.int .i64 y, .int .i64 b]] w (GivesC w (cs.filter (insB y b)) id) := by
  obtain ⟨a, cap, rfl⟩ := hI.shape
  obtain ⟨i0, hi, hz0, hz1, hz2⟩ := info_parts2 Try.infoC
  have B0 := Box2.new w 106 (.int .i64 y) (.int .i64 b)
  have hB0 : Below w.heap.size w (w.alloc (.cells #[.int .i64 y, .int .i64 b] 106)) := (Below.refl _ _).alloc (Nat.le_refl _) _
  have ho0 : OwnC (w.heap.size + 1) (w.alloc (.cells #[.int .i64 y, .int .i64 b] 106)) (.slice none 0 0) (insF y b cs 0).length (flat (insF y b cs 0)) := ownC_nil _ _
  have Hcl := Lib.hid hcl
  clear hcl
  go_enter Try.func148, Try.ntmps148
  go_wp2
  go_loopw [5, 10] (fun v i wr => ∃ k : Nat, k ≤ cs.length ∧ i = .int .i64 k ∧ OwnC (w.heap.size + 1) wr v (insF y b cs k).length (flat (insF y b cs k)) ∧ Box2 wr w.heap.size 106 (.int .i64 y) (.int .i64 b) ∧ Below w.heap.size w wr) (fun _ i _ => cs.length - (intOf i).toNat)
  case atStart => exact ⟨0, Nat.zero_le _, rfl, ho0, B0, hB0⟩
  case round =>
    obtain ⟨k, hk, rfl, ho, B1, hB⟩ := hrel
    clear B0 hB0 ho0
    by_cases hlt : k < cs.length
    · have hlti : (k : Int) < (cs.length : Int) := by omega
      obtain ⟨b', off', rfl, hb', hc'⟩ := (hI.below hB).at_ hlt
      obtain ⟨x0, x1⟩ := hc' k hlt
      have hsu := insF_succ (y := y) (b := b) hlt
      have hle := insF_len y b cs k
      have hcm := Hcl.out k hlt
      obtain ⟨ls, hls⟩ : ∃ ls, insF y b cs k = ls := ⟨_, rfl⟩
      rw [hls] at ho hsu hle
      have hsz := hB.size
      have B7 := Box2.new wr 106 (.int .i64 (rst cs k)) (.int .i64 (gp cs k))
      have B8 := B1.alloc (.cells #[.int .i64 (rst cs k), .int .i64 (gp cs k)] 106)
      have hBa := hB.alloc hsz (.cells #[.int .i64 (rst cs k), .int .i64 (gp cs k)] 106)
      have hba : Below wr.heap.size wr (wr.alloc (.cells #[.int .i64 (rst cs k), .int .i64 (gp cs k)] 106)) := (Below.refl _ _).alloc (Nat.le_refl _) _
      have hoa := ho.below hba
      have k0 := B7.c0
      have k1 := B7.c1
      have k2 := B8.c0
      have k3 := B8.c1
      have Hls := Lib.hid hls
      clear hc' hls
      cases he : insB y b (rst cs k, gp cs k)
      · rw [he, if_neg (by simp)] at hsu
        have Hs := Lib.hid hsu
        have Hq := Lib.hid (And.intro hcm he)
        clear hsu he hcm
        go_wp2_with fail
        refine (isInside_d false _ _ y b _ hb (by have := Hq.out.1; omega) (by have := Hq.out.1; omega) hb2 Hq.out.2).mono ?_
        rintro e w3 ⟨rfl, hb3⟩
        have ho3 := hoa.below hb3
        have B3 := B8.later hb3
        have hB3 := hBa.trans (hb3.mono (by simp; omega))
        clear k0 k1 k2 k3 hb3 hoa B8 B7 hba hBa
        go_wp2
        go_roundw
        case rel => exact ⟨k + 1, by omega, by simp, by rw [Hs.out]; exact ho3, B3, hB3⟩
        case measure => simp [intOf]; omega
      · rw [he, if_pos rfl] at hsu
        have Hs := Lib.hid hsu
        have Hq := Lib.hid (And.intro hcm he)
        clear hsu he hcm
        go_wp2_with fail
        refine (isInside_d true _ _ y b _ hb (by have := Hq.out.1; omega) (by have := Hq.out.1; omega) hb2 Hq.out.2).mono ?_
        rintro e w3 ⟨rfl, hb3⟩
        have ho3 := hoa.below hb3
        have B3 := B8.later hb3
        have B4 := B7.later hb3
        have hB3 := hBa.trans (hb3.mono (by simp; omega))
        clear k0 k1 k2 k3 hb3 hoa B8 B7 hba hBa
        have k0 := B4.c0
        have k1 := B4.c1
        have hoA : World.ownsRow (w3.alloc (.cells #[.int .i64 (rst cs k), .int .i64 (gp cs k)] 106)) (w.heap.size + 1) 106 2 _ ls.length ((flat ls).map (.int .i64)) := ho3.below ((Below.refl _ _).alloc (Nat.le_refl _) _)
        have hs3 := hB3.size
        have hlt3 := B3.lt
        go_wp2_with (at_builtin; refine wpList_append_own _ rfl _ _ 54 rfl (w.heap.size + 1) 106 i0 (.agg #[.int .i64 0, .int .i64 0]) 2 16 Try.underlying54 hi hz0 hz1 hz2 rfl (by decide) _ _ _ rfl hoA ⟨w3.heap.size, 0, none⟩ 1 1 [.int .i64 (rst cs k), .int .i64 (gp cs k)] rfl rfl (cell_two_new _ _ _ _) (by simp [Value.oneCell']) (by unfold maxLen; omega) (by omega) (by simp; omega) ?_)
        intro v' w4 hown' hgrow _
        have ho4 := ownC_snoc hown'
        have hB4 : Below w.heap.size w w4 := (hB3.alloc hs3 _).grown hgrow (by simp; omega) (fun j e => by have := (ho3.blk j e).1; omega)
        have B5 := (B3.alloc (.cells #[.int .i64 (rst cs k), .int .i64 (gp cs k)] 106)).kept hgrow (fun e => by have := (ho3.blk _ e.symm).1; omega)
        clear hown' hgrow hoA ho3 k0 k1
        go_wp2
        go_roundw
        case rel => exact ⟨k + 1, by omega, by simp, by rw [Hs.out]; exact ho4, B5, hB4⟩
        case measure => simp [intOf]; omega
    · obtain rfl : k = cs.length := by omega
      go_wp2
      go_ret
      exact ⟨_, rfl, by have e : insF y b cs cs.length = cs.filter (insB y b) := by unfold insF; rw [List.take_length]
                        rw [← e]; exact ho.base (by omega), hB⟩

end Go.Proofs.Ytbhpflhopajbfaa
