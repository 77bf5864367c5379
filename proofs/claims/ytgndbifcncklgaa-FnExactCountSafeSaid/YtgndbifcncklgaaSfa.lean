/-
  The model's l09Size, l09Number, l09State, l09Move.
  Conditions: tasks, as many as places; at most 20000 states for the numbers.
-/
import Derived.Test.YtgndbifcncklgaaSfm
import Derived.Test.YtgndbifcncklgaaGnI
import Derived.Test.YtgndbifcncklgaaNumS
namespace Go.Proofs.Ytgndbifcncklgaa
open Go.RowKit Go.Shelf
attribute [local go_sem] Oper.semAt_some

theorem sizeW_step {zs : List Int} (ht : tasksOk zs = true) {p : Nat} (hp : p ≤ 8) {k : Nat} (hk : k < zs.length) : IntKind.i64.wrap ((p : Int) * cntP zs k * nth zs k) = (p : Int) * cntP zs (k + 1) ∧ 0 ≤ (p : Int) * cntP zs k ∧ (p : Int) * cntP zs k ≤ 52428800000000 := by
  have h1 := cntP_top ht (k := k) (by omega)
  have h2 := cntP_top ht (k := k + 1) (by omega)
  have h3 : (p : Int) * cntP zs (k + 1) ≤ 8 * 6553600000000 := Int.mul_le_mul (by omega) h2.2 (by omega) (by omega)
  have h4 : 0 ≤ (p : Int) * cntP zs (k + 1) := Int.mul_nonneg (by omega) (by omega)
  have h5 : (p : Int) * cntP zs k ≤ 8 * 6553600000000 := Int.mul_le_mul (by omega) h1.2 (by omega) (by omega)
  have h6 : 0 ≤ (p : Int) * cntP zs k := Int.mul_nonneg (by omega) (by omega)
  have h7 : (p : Int) * cntP zs k * nth zs k = (p : Int) * cntP zs (k + 1) := by rw [Int.mul_assoc]; rfl
  refine ⟨?_, h6, by omega⟩
  rw [h7, IntKind.wrap_i64]
  omega

set_option maxRecDepth 100000 in
set_option maxHeartbeats 8000000 in
theorem l09Size_c (p : Nat) (r : Int) (c0 : Value) (zs : List Int) (w : World) (hp : p ≤ 8) (hI : Ints w.heap.size w c0 zs) (ht : tasksOk zs = true) :
    Calls Try.prog 92 #[.agg #[.int .i64 (p : Int), .int .i64 r], .agg #[c0]] w fun e w' => e = .returned (.int .i64 ((p : Int) * cntL zs)) ∧ Below w.heap.size w w' := by
  obtain ⟨a, cap, rfl⟩ := hI.shape
  have hl := tasksOk_len ht
  have hw : ∀ k, k < zs.length → _ := fun k hk => sizeW_step ht hp hk
  have Hw := Lib.hid hw
  clear hw ht
  have b0 := Box2.new w 30 (.int .i64 (p : Int)) (.int .i64 r)
  have hB0 : Below w.heap.size w (w.alloc (.cells #[.int .i64 (p : Int), .int .i64 r] 30)) := (Below.refl _ w).alloc (Nat.le_refl _) _
  obtain ⟨W1, hW1⟩ : ∃ W1, (w.alloc (.cells #[.int .i64 (p : Int), .int .i64 r] 30)).alloc (.cells #[.slice a zs.length cap] 32) = W1 := ⟨_, rfl⟩
  have bG : Box2 W1 w.heap.size 30 (.int .i64 (p : Int)) (.int .i64 r) := by rw [← hW1]; exact b0.alloc _
  have bT : Boxed W1 (w.heap.size + 1) 32 (.slice a zs.length cap) := by rw [← hW1]; exact boxed_at (by simp)
  have hB1 : Below w.heap.size w W1 := by rw [← hW1]; exact hB0.alloc (by simp) _
  clear b0 hB0
  have c0 := bG.c0
  have cT := bT.cell
  go_enter Try.func92, Try.ntmps92
  go_wp2
  clear c0 cT hW1
  go_loopw [5, 12] (fun o i wr => ∃ k : Nat, k ≤ zs.length ∧ i = .int .i64 k ∧ o = .int .i64 ((p : Int) * cntP zs k) ∧ Boxed wr (w.heap.size + 1) 32 (.slice a zs.length cap) ∧ Below w.heap.size w wr) (fun _ i _ => zs.length - (intOf i).toNat)
  case atStart => exact ⟨0, Nat.zero_le _, rfl, by simp [cntP], bT, hB1⟩
  case round =>
    obtain ⟨k, hk, rfl, rfl, hbT, hB⟩ := hrel
    have cT := hbT.cell
    by_cases hlt : k < zs.length
    · obtain ⟨b, off, rfl, hb, hc⟩ := (hI.below hB).at_ hlt
      have hcx := hc k hlt
      obtain ⟨he, h1, h2⟩ := Hw.out k hlt
      have He := Lib.hid he
      obtain ⟨x, hx⟩ : ∃ x, (p : Int) * cntP zs k = x := ⟨_, rfl⟩
      obtain ⟨y, hy⟩ : ∃ y, (p : Int) * cntP zs (k + 1) = y := ⟨_, rfl⟩
      rw [hx, hy] at he
      rw [hx] at h1 h2
      rw [hx]
      have Hy := Lib.hid hy
      have hki : (k : Int) < (zs.length : Int) := by omega
      clear hc hx hy He
      go_wp2
      go_roundw
      case rel => exact ⟨k + 1, by omega, by simp, by rw [Hy.out], hbT, hB⟩
      case measure => simp [intOf]; omega
    · obtain rfl : k = zs.length := by omega
      obtain ⟨x, hx⟩ : ∃ x, (p : Int) * cntP zs zs.length = x := ⟨_, rfl⟩
      have Hx := Lib.hid (show (p : Int) * cntL zs = x from hx)
      rw [hx]
      clear hx
      go_wp2
      go_ret
      exact ⟨ret_int (by rw [Hx.out]), hB⟩

set_option maxRecDepth 100000 in
set_option maxHeartbeats 8000000 in
theorem l09Number_c (c0 : Value) (zs : List Int) (c1 : Value) (st : List Int) (j : Nat) (w : World) (hI : Ints w.heap.size w c0 zs) (ht : tasksOk zs = true) (hT : Ints w.heap.size w c1 st) (hs : IsSt zs st) (hj : j < zs.length) :
    Calls Try.prog 103 #[.agg #[c0], c1, .int .i64 (j : Int)] w fun e w' => e = .returned (.int .i64 (numW zs (st, j))) ∧ Below w.heap.size w w' := by
  obtain ⟨a, cap, rfl⟩ := hI.shape
  obtain ⟨a2, cap2, rfl⟩ := hT.shape
  have hB0 : Below w.heap.size w (w.alloc (.cells #[.slice a zs.length cap] 32)) := (Below.refl _ w).alloc (Nat.le_refl _) _
  have hl8 := tasksOk_len ht
  have hls1 : st.length ≤ zs.length := by rw [hs.1]; omega
  have hls2 : zs.length ≤ st.length := by rw [hs.1]; omega
  have hbd := fun (k : Nat) (hk : k < zs.length) => numP_step ht hs hk
  have Hbd := Lib.hid hbd
  have hnl : numL zs st = numP zs st st.length := rfl
  have hnb := numL_bd hs
  have hct := (cntP_top ht (Nat.le_refl zs.length)).2
  have Hnw := Lib.hid (show numW zs (st, j) = numP zs st st.length * zs.length + j from rfl)
  have hcl : cntL zs ≤ 6553600000000 := hct
  rw [hnl] at hnb
  clear hbd hnl hct
  go_enter Try.func103, Try.ntmps103
  go_wp2
  go_loopw [7, 11] (fun o i wr => ∃ k : Nat, k ≤ st.length ∧ i = .int .i64 k ∧ o = .int .i64 (numP zs st k) ∧ Boxed wr w.heap.size 32 (.slice a zs.length cap) ∧ Below w.heap.size w wr) (fun _ i _ => st.length - (intOf i).toNat)
  case atStart => exact ⟨0, Nat.zero_le _, rfl, rfl, Boxed.new _ _ _, hB0⟩
  case round =>
    obtain ⟨k, hk, rfl, rfl, hb0, hB⟩ := hrel
    have kb := hb0.cell
    by_cases hlt : k < st.length
    · obtain ⟨b, off, rfl, hb, hc⟩ := (hI.below hB).at_ (k := k) (by omega)
      obtain ⟨b2, off2, rfl, hb2, hc2⟩ := (hT.below hB).at_ hlt
      have hcx := hc k (by omega)
      have hcy := hc2 k hlt
      obtain ⟨h1, h2, h3⟩ := Hbd.out k (by omega)
      have H3 := Lib.hid h3
      have hk0 : (k : Int) < (zs.length : Int) := by omega
      obtain ⟨x, hx⟩ : ∃ x, numP zs st k * nth zs k = x := ⟨_, rfl⟩
      have Hx := Lib.hid hx
      have hw0 : IntKind.i64.wrap (numP zs st k * nth zs k) = x := by rw [hx, IntKind.wrap_i64]; rw [hx] at h1; omega
      rw [hx] at h1
      have hw1 : IntKind.i64.wrap (x + nth st k) = x + nth st k := by rw [IntKind.wrap_i64]; omega
      have hw2 : IntKind.i64.wrap (x + nth st k - 1) = x + nth st k - 1 := by rw [IntKind.wrap_i64]; omega
      clear hc hc2 h3 hx hnb hcl
      go_wp2_with fail
      go_quiet (fail)
      go_wp2
      go_roundw
      case rel => exact ⟨k + 1, by omega, by simp, by rw [H3.out, Hx.out], hb0, below_drewN hB _⟩
      case measure => simp [intOf]; omega
    · obtain rfl : k = st.length := by omega
      obtain ⟨x, hx⟩ : ∃ x, numP zs st st.length = x := ⟨_, rfl⟩
      rw [hx] at hnb Hnw
      have hn8 : x * zs.length ≤ 6553600000000 * 8 := Int.mul_le_mul (by omega) (by omega) (by omega) (by omega)
      have hn0 : 0 ≤ x * (zs.length : Int) := Int.mul_nonneg (by omega) (by omega)
      obtain ⟨y, hy⟩ : ∃ y, x * (zs.length : Int) = y := ⟨_, rfl⟩
      rw [hy] at hn8 hn0 Hnw
      have hw0 : IntKind.i64.wrap (x * (zs.length : Int)) = y := by rw [hy, IntKind.wrap_i64]; omega
      have hw1 : IntKind.i64.wrap (y + j) = y + j := by rw [IntKind.wrap_i64]; omega
      rw [hx]
      clear hx hy
      go_wp2_with fail
      refine (l01K_c _ _ _ _).mono ?_
      rintro e w2 ⟨rfl, rfl⟩
      go_wp2
      go_ret
      exact ⟨ret_int Hnw.out.symm, hB.alloc hB.size _⟩

set_option maxRecDepth 100000 in
set_option maxHeartbeats 8000000 in
theorem l09State_c (c0 : Value) (zs : List Int) (q : Nat) (w : World) (hI : Ints w.heap.size w c0 zs) (ht : tasksOk zs = true) (hq : q < cntW zs) :
    Calls Try.prog 93 #[.agg #[c0], .int .i64 (q : Int)] w (GivesI w (ofW zs q).1 fun v => .tuple #[v, .int .i64 (((ofW zs q).2 : Nat) : Int)]) := by
  obtain ⟨a, cap, rfl⟩ := hI.shape
  have hl8 := tasksOk_len ht
  obtain ⟨i0, hi, hz0, hz1, hz2⟩ := info_parts Try.infoI2
  have hfw : Try.prog.follows Departure.mixedOrders = true := by kernel_rfl
  have b0 := Boxed.new w 32 (.slice a zs.length cap)
  have hB0 : Below w.heap.size w (w.alloc (.cells #[.slice a zs.length cap] 32)) := (Below.refl _ w).alloc (Nat.le_refl _) _
  obtain ⟨W0, hW0⟩ : ∃ W0, w.alloc (.cells #[.slice a zs.length cap] 32) = W0 := ⟨_, rfl⟩
  rw [hW0] at b0 hB0
  have hpos : 0 < zs.length := by omega
  have hqd := q_div hpos hq
  have hp := pos_of ht
  have hcn := cntL_cntN hp
  have hrem : (q : Int).tmod (zs.length : Int) = ((q % zs.length : Nat) : Int) := by rw [Int.tmod_eq_emod_of_nonneg (by omega)]; simp
  have hquo : (q : Int).tdiv (zs.length : Int) = ((q / zs.length : Nat) : Int) := by rw [Int.tdiv_eq_ediv_of_nonneg (by omega)]; simp
  obtain ⟨n', hn'⟩ : ∃ n', q / zs.length = n' := ⟨_, rfl⟩
  obtain ⟨at', hat'⟩ : ∃ at', q % zs.length = at' := ⟨_, rfl⟩
  have HW := Lib.hid (show ofW zs q = (ofL zs (n' : Int), at') by unfold ofW; rw [hn', hat'])
  rw [hn'] at hquo hqd
  rw [hat'] at hrem
  obtain ⟨n, hn⟩ : ∃ n : Int, (n' : Int) = n := ⟨_, rfl⟩
  have hn0 : 0 ≤ n := by omega
  have hn1 : n < cntL zs := by omega
  rw [hn] at hquo HW
  have hne : ¬ ((zs.length : Int) = 0) := by omega
  have hlw : IntKind.i64.wrap ((zs.length : Int) - 1) = (zs.length : Int) - 1 := by rw [IntKind.wrap_i64]; omega
  have hq9 : (q : Int) ≤ 52428800000000 := by
    have h1 := cntP_top ht (Nat.le_refl zs.length)
    have h2 : cntN zs * zs.length ≤ 6553600000000 * 8 := Nat.mul_le_mul (by unfold cntL at hcn; omega) hl8.2
    unfold cntW at hq
    rw [Nat.mul_comm] at hq
    omega
  have hmk1 : i0.bytes * zs.length ≤ 281474976710656 := by rw [hz2]; omega
  have hmk2 : zs.length ≤ maxLen := by unfold maxLen; omega
  have hznil : ¬ zs = [] := fun e => by rw [e] at hpos; simp at hpos
  have hnw : IntKind.i64.wrap n = n := by
    have h1 := (cntP_top ht (Nat.le_refl zs.length)).2
    have h2 : cntL zs ≤ 6553600000000 := h1
    rw [IntKind.wrap_i64]; omega
  clear hn hqd hcn hn' hat' hq
  go_enter Try.func93, Try.ntmps93
  go_wp2_with fail
  clear hW0
  refine wp_region_held_drew (S := fun w' => Boxed w' w.heap.size 32 (.slice a zs.length cap) ∧ Below w.heap.size w w') hfw ⟨b0, hB0.drew⟩ ?_
  intro hS0
  refine wpAnyH_take (i := 0) (v := ?vr10) rfl (by kernel_rfl) (by kernel_rfl) (by kernel_rfl) (fun _ _ _ h => h) (.inl ⟨by first | kernel_rfl | rfl, ?yr10⟩) hS0 ?_
  case yr10 =>
    intro w' hS
    (have k1 := hS.1.cell; clear hS)
    go_simp
    try with_reducible rfl
  refine wpAnyH_take (i := 1) (v := ?vr11) rfl (by kernel_rfl) (by kernel_rfl) (by kernel_rfl) (fun _ _ _ h => h) (.inl ⟨by first | kernel_rfl | rfl, ?yr11⟩) hS0 ?_
  case yr11 =>
    intro w' hS
    (have k1 := hS.1.cell; clear hS)
    go_simp
    try with_reducible rfl
  refine wpAnyH_take (i := 4) (v := ?vr14) rfl (by kernel_rfl) (by kernel_rfl) (by kernel_rfl) (fun _ _ _ h => h) (.inl ⟨by first | kernel_rfl | rfl, ?yr14⟩) hS0 ?_
  case yr14 =>
    intro w' hS
    (have k1 := hS.1.cell; clear hS)
    go_simp
    try with_reducible rfl
  refine wpAnyH_take (i := 5) (v := ?vr15) rfl (by kernel_rfl) (by kernel_rfl) (by kernel_rfl) (fun _ _ _ h => h) (.inl ⟨by first | kernel_rfl | rfl, ?yr15⟩) hS0 ?_
  case yr15 =>
    intro w' hS
    (have k1 := hS.1.cell; clear hS)
    go_simp
    try with_reducible rfl
  refine wpAnyH_take (i := 8) (v := ?vr18) rfl (by kernel_rfl) (by kernel_rfl) (by kernel_rfl) (fun _ _ _ h => h) (.inl ⟨by first | kernel_rfl | rfl, ?yr18⟩) hS0 ?_
  case yr18 =>
    intro w' hS
    (have k1 := hS.1.cell; clear hS)
    go_simp
    try with_reducible rfl
  try simp only [Act.put, List.getElem_toArray, List.getElem_cons_zero, List.getElem_cons_succ, List.setIfInBounds_toArray, List.set_cons_zero, List.set_cons_succ]
  refine wpAnyH_ready (rs := [2]) (by kernel_rfl) (by simp) ?_
  refine AllReadyH.cons rfl (fun K' hK' => ?_) AllReadyH.nil
  rw [if_pos (by first | kernel_rfl | rfl)]
  go_simp
  refine (l01K_c _ _ _ _).mono ?_
  rintro e w2 ⟨rfl, rfl⟩
  have hSa : Boxed (W0.drew.alloc (.cells #[.slice a zs.length cap] 32)) w.heap.size 32 (.slice a zs.length cap) ∧ Below w.heap.size w (W0.drew.alloc (.cells #[.slice a zs.length cap] 32)) := ⟨hS0.1.alloc _, hS0.2.alloc hS0.2.size _⟩
  refine hK'.out _ _ hSa fun hS1 => ?_
  clear hK' hS1 hS0
  obtain ⟨Wa, hWa⟩ : ∃ Wa, W0.drew.alloc (.cells #[.slice a zs.length cap] 32) = Wa := ⟨_, rfl⟩
  rw [hWa] at hSa ⊢
  clear hWa
  refine wpAnyH_take (i := 3) (v := (.int .i64 ((at' : Nat) : Int))) rfl (by kernel_rfl) (by kernel_rfl) (by kernel_rfl) (fun _ _ _ h => h) (.inl ⟨by first | kernel_rfl | rfl, ?yr23⟩) hSa ?_
  case yr23 =>
    intro w' hS
    (clear hS)
    go_simp
    first | done | (simp; done) | (simp; omega) | omega | (simp [*]; done)
  refine wpAnyH_ready (rs := [6]) (by kernel_rfl) (by simp) ?_
  refine AllReadyH.cons rfl (fun K' hK' => ?_) AllReadyH.nil
  rw [if_pos (by first | kernel_rfl | rfl)]
  go_simp
  refine (l01K_c _ _ _ _).mono ?_
  rintro e w2 ⟨rfl, rfl⟩
  have hSb : Boxed (Wa.alloc (.cells #[.slice a zs.length cap] 32)) w.heap.size 32 (.slice a zs.length cap) ∧ Below w.heap.size w (Wa.alloc (.cells #[.slice a zs.length cap] 32)) := ⟨hSa.1.alloc _, hSa.2.alloc hSa.2.size _⟩
  refine hK'.out _ _ hSb fun hS1 => ?_
  clear hK' hS1 hSa
  obtain ⟨Wb, hWb⟩ : ∃ Wb, Wa.alloc (.cells #[.slice a zs.length cap] 32) = Wb := ⟨_, rfl⟩
  rw [hWb] at hSb ⊢
  clear hWb
  refine wpAnyH_take (i := 7) (v := (.int .i64 n)) rfl (by kernel_rfl) (by kernel_rfl) (by kernel_rfl) (fun _ _ _ h => h) (.inl ⟨by first | kernel_rfl | rfl, ?yr37⟩) hSb ?_
  case yr37 =>
    intro w' hS
    (clear hS)
    go_simp
    first | done | (simp; done) | (simp; omega) | omega | (simp [*]; done)
  refine wpAnyH_ready (rs := [9]) (by kernel_rfl) (by simp) ?_
  refine AllReadyH.cons rfl (fun K' hK' => ?_) AllReadyH.nil
  rw [if_pos (by first | kernel_rfl | rfl)]
  go_simp
  refine (l01K_c _ _ _ _).mono ?_
  rintro e w2 ⟨rfl, rfl⟩
  have hSc : Boxed (Wb.alloc (.cells #[.slice a zs.length cap] 32)) w.heap.size 32 (.slice a zs.length cap) ∧ Below w.heap.size w (Wb.alloc (.cells #[.slice a zs.length cap] 32)) := ⟨hSb.1.alloc _, hSb.2.alloc hSb.2.size _⟩
  refine hK'.out _ _ hSc fun hS1 => ?_
  clear hK' hS1 hSb
  obtain ⟨Wc, hWc⟩ : ∃ Wc, Wb.alloc (.cells #[.slice a zs.length cap] 32) = Wc := ⟨_, rfl⟩
  rw [hWc] at hSc ⊢
  clear hWc
  refine wpAnyH_take (i := 11) (v := ?vr411) rfl (by kernel_rfl) (by kernel_rfl) (by kernel_rfl) (fun _ _ _ h => h) (.inl ⟨by first | kernel_rfl | rfl, ?yr411⟩) hSc ?_
  case yr411 =>
    intro w' hS
    (clear hS)
    go_simp
    try with_reducible rfl
  refine wpAnyH_take (i := 12) (v := ?vr412) rfl (by kernel_rfl) (by kernel_rfl) (by kernel_rfl) (fun _ _ _ h => h) (.inl ⟨by first | kernel_rfl | rfl, ?yr412⟩) hSc ?_
  case yr412 =>
    intro w' hS
    (clear hS)
    go_simp
    try with_reducible rfl
  try simp only [Act.put, List.getElem_toArray, List.getElem_cons_zero, List.getElem_cons_succ, List.setIfInBounds_toArray, List.set_cons_zero, List.set_cons_succ]
  refine wpAnyH_ready (rs := [10]) (by kernel_rfl) (by simp) ?_
  refine AllReadyH.cons rfl (fun K' hK' => ?_) AllReadyH.nil
  rw [if_pos (by first | kernel_rfl | rfl)]
  obtain ⟨W3, hrun, hoC0, hgr⟩ := run_make_full (P := Try.prog) Wc (w.heap.size + 1) 24 2 i0 (.int .i64 0) 1 Try.underlying24 hi hz0 hz1 .i64 .i64 zs.length hmk1 hmk2 hSc.1.lt
  obtain ⟨g, hg⟩ : ∃ g, Wc.heap.size = g := ⟨_, rfl⟩
  rw [hg] at hrun hoC0
  go_simp
  have ho1 := ownI_made (by rw [Nat.mul_one] at hoC0; exact hoC0)
  have hgl : w.heap.size < g := by rw [← hg]; exact hSc.1.lt
  have hSd : Boxed W3 w.heap.size 32 (.slice a zs.length cap) ∧ Below w.heap.size w W3 := ⟨hSc.1.kept hgr (by simp), hSc.2.grown hgr hSc.2.size (fun j e => by cases e)⟩
  refine hK'.out _ _ hSd fun hS1 => ?_
  clear hK' hS1 hSc hrun hoC0 hgr hg
  refine wpAnyH_take (i := 13) (v := ?vr513) rfl (by kernel_rfl) (by kernel_rfl) (by kernel_rfl) (fun _ _ _ h => h) (.inl ⟨by first | kernel_rfl | rfl, ?yr513⟩) hSd ?_
  case yr513 =>
    intro w' hS
    (clear hS)
    go_simp
    try with_reducible rfl
  try simp only [Act.put, List.getElem_toArray, List.getElem_cons_zero, List.getElem_cons_succ, List.setIfInBounds_toArray, List.set_cons_zero, List.set_cons_succ]
  refine wpAnyH_done (by kernel_rfl) ?_ _
  obtain ⟨b1, hB1⟩ := hSd
  rw [← ofK_zero zs n] at ho1
  have hr := fun (k : Nat) (hk : k ≤ zs.length) => restN_bd hp hn0 hn1 hk
  have hcb := fun (k : Nat) (hk : k ≤ zs.length) => (cntP_top ht hk).2
  have hgs := fun (k : Nat) (hk : k < zs.length) => tasksOk_nth ht hk
  have cT := b1.cell
  clear b0 hB0 hrem hquo hne
  go_wp2_with fail
  refine (l01K_c _ _ _ _).mono ?_
  rintro e w2 ⟨rfl, rfl⟩
  have hbA := (Below.refl W3.heap.size W3).alloc (Nat.le_refl _) (.cells #[.slice a zs.length cap] 32)
  have b2 := b1.alloc (.cells #[.slice a zs.length cap] 32)
  have hB2 := hB1.alloc hB1.size (.cells #[.slice a zs.length cap] 32)
  have ho2 := ho1.below hbA
  obtain ⟨W4, hW4⟩ : ∃ W4, W3.alloc (.cells #[.slice a zs.length cap] 32) = W4 := ⟨_, rfl⟩
  rw [hW4] at b2 hB2 ho2 ⊢
  clear hW4 hbA ho1 b1 hB1 cT
  go_wp2
  go_loopw [7, 9] (fun m i wr => ∃ k : Nat, k ≤ zs.length ∧ i = .int .i64 ((zs.length : Int) - 1 - k) ∧ m = .int .i64 (restN zs n k) ∧ OwnI (w.heap.size + 1) wr (.slice (some ⟨g, 0, none⟩) zs.length zs.length) (ofK zs n k) ∧ Boxed wr w.heap.size 32 (.slice a zs.length cap) ∧ Below w.heap.size w wr)
    (fun _ i _ => (intOf i + 1).toNat)
  case atStart => exact ⟨0, Nat.zero_le _, by simp, rfl, ho2, b2, hB2⟩
  case round =>
    obtain ⟨k, hk, rfl, rfl, ho, hb0, hB⟩ := hrel
    have kb := hb0.cell
    by_cases hlt : k < zs.length
    · obtain ⟨j, hj⟩ : ∃ j : Nat, zs.length - (k + 1) = j := ⟨_, rfl⟩
      have hjl : j < zs.length := by omega
      have hje : (zs.length : Int) - 1 - k = (j : Int) := by omega
      obtain ⟨b, off, rfl, hb, hc⟩ := (hI.below hB).at_ (k := j) hjl
      have hcx := hc j hjl
      have hg := hgs j hjl
      obtain ⟨r1, r2⟩ := hr k (by omega)
      have r3 := hcb (zs.length - k) (by omega)
      have hm1 : (restN zs n k).tmod (nth zs j) = restN zs n k % nth zs j := Int.tmod_eq_emod_of_nonneg r1
      have hm2 : (restN zs n k).tdiv (nth zs j) = restN zs n k / nth zs j := Int.tdiv_eq_ediv_of_nonneg r1
      have hv : nth (ofL zs n) j = restN zs n k % nth zs j + 1 := by rw [nth_ofL hjl, show zs.length - (j + 1) = k by omega]
      have hr2 : restN zs n (k + 1) = restN zs n k / nth zs j := by show restN zs n k / nth zs (zs.length - (k + 1)) = _; rw [hj]
      have hmb1 := Int.emod_nonneg (restN zs n k) (b := nth zs j) (by omega)
      have hmb2 := Int.emod_lt_of_pos (restN zs n k) (b := nth zs j) (by omega)
      have hst := ho.stored j (nth (ofL zs n) j)
      have hsu := ofK_succ n hlt
      rw [hj] at hsu
      rw [← hsu] at hst
      have hfz := ho.frozen j
      have hcj := ho.cellAt (j := j) (by rw [ofK_length]; exact hjl)
      rw [hv] at hst
      have Hs := Lib.hid hst
      have Hr2 := Lib.hid hr2
      rw [hje]
      clear hc hst hv hr2 hsu hr hcb hgs hj
      have Hje := Lib.hid hje
      clear hje
      have hq1 : 0 ≤ restN zs n k / nth zs j := Int.ediv_nonneg r1 (by omega)
      have hq2 : restN zs n k / nth zs j ≤ restN zs n k := Int.ediv_le_self _ r1
      go_wp2_with fail
      have hje := Hje.out
      have e1 : (zs.length : Int) - 1 - ((k + 1 : Nat) : Int) = (j : Int) - 1 := by omega
      exact ⟨⟨k + 1, by omega, by rw [e1], by rw [Hr2.out], Hs.out.1, boxed_setFar hb0 (show w.heap.size ≠ g by omega), hB.setCell (p := ⟨g, j, none⟩) (by show w.heap.size ≤ g; omega) _⟩, by simp [intOf]; try omega⟩
    · obtain rfl : k = zs.length := by omega
      rw [ofK_all] at ho
      have hq : (zs.length : Int) - 1 - zs.length < 0 := by omega
      go_wp2
      go_ret2
      exact ⟨_, by rw [HW.out]; rfl, by rw [HW.out]; exact ho.base (by omega), hB⟩

open Classical in
/-- what the model's move hands back -/
noncomputable def mvN (zs st : List Int) (j : Nat) : Int := if Opn st (j : Int) then numW zs (stepL zs st (j : Int), j) else -1
theorem mvN_yes {zs st : List Int} {j : Nat} (h : Opn st (j : Int)) : mvN zs st j = numW zs (stepL zs st (j : Int), j) := by unfold mvN; rw [if_pos h]
theorem mvN_no {zs st : List Int} {j : Nat} (h : ¬ Opn st (j : Int)) : mvN zs st j = -1 := by unfold mvN; rw [if_neg h]
/-- the state while the move is made -/
def mvK (zs st : List Int) (j k : Nat) : List Int := (List.range st.length).map fun i : Nat => if i < k then (if (i : Int) = (j : Int) then nth zs i else nth st i - 1) else nth st i
theorem mvK_length (zs st : List Int) (j k : Nat) : (mvK zs st j k).length = st.length := by simp [mvK]
theorem nth_mvK {zs st : List Int} {j k i : Nat} (h : i < st.length) : nth (mvK zs st j k) i = if i < k then (if (i : Int) = (j : Int) then nth zs i else nth st i - 1) else nth st i := by simp [nth, mvK, h]
theorem mvK_zero (zs st : List Int) (j : Nat) : mvK zs st j 0 = st := ext_nth (by rw [mvK_length]) fun i hi => by
  rw [mvK_length] at hi
  rw [nth_mvK hi, if_neg (by omega)]
theorem mvK_all (zs st : List Int) (j : Nat) : mvK zs st j st.length = stepL zs st (j : Int) := ext_nth (by rw [mvK_length, stepL_length]) fun i hi => by
  rw [mvK_length] at hi
  rw [nth_mvK hi, if_pos hi, nth_stepL hi]
theorem mvK_succ {zs st : List Int} {j k : Nat} (_hk : k < st.length) : mvK zs st j (k + 1) = (mvK zs st j k).set k (if (k : Int) = (j : Int) then nth zs k else nth st k - 1) := ext_nth (by rw [List.length_set, mvK_length, mvK_length]) fun i hi => by
  rw [mvK_length] at hi
  rw [nth_set (by rw [mvK_length]; exact hi), nth_mvK hi, nth_mvK hi]
  by_cases e : k = i
  · subst e
    rw [if_pos rfl, if_pos (by omega)]
  · rw [if_neg e]
    by_cases h : i < k
    · rw [if_pos h, if_pos (by omega)]
    · rw [if_neg h, if_neg (by omega)]
theorem set_set_same (xs : List Int) (k : Nat) (u v : Int) : (xs.set k u).set k v = xs.set k v := List.set_set ..

set_option maxRecDepth 100000 in
set_option maxHeartbeats 8000000 in
theorem l09Move_c (c0 : Value) (zs : List Int) (c1 : Value) (st : List Int) (j : Nat) (w : World) (hI : Ints w.heap.size w c0 zs) (ht : tasksOk zs = true) (hT : Ints w.heap.size w c1 st) (hs : IsSt zs st) (hj : j < zs.length) :
    Calls Try.prog 95 #[.agg #[c0], c1, .int .i64 (j : Int)] w fun e w' => e = .returned (.int .i64 (mvN zs st j)) ∧ Below w.heap.size w w' := by
  obtain ⟨a, cap, rfl⟩ := hI.shape
  have hl8 := tasksOk_len ht
  have b0 := Boxed.new w 32 (.slice a zs.length cap)
  have hB0 : Below w.heap.size w (w.alloc (.cells #[.slice a zs.length cap] 32)) := (Below.refl _ w).alloc (Nat.le_refl _) _
  have hls : st.length = zs.length := hs.1
  have hl0 : 0 < st.length := by omega
  have hl1 : st.length ≤ 1048576 := by omega
  have hbd : ∀ i, i < zs.length → (1 ≤ nth st i ∧ nth st i ≤ 40) ∧ 1 ≤ nth zs i ∧ nth zs i ≤ 40 := fun i hi => by have h1 := hs.2 i hi; have h2 := tasksOk_nth ht hi; omega
  have Hbd := Lib.hid hbd
  have Hls := Lib.hid hls
  have hls1 : st.length ≤ zs.length := by omega
  have hls2 : zs.length ≤ st.length := by omega
  clear hbd hls
  obtain ⟨W0, hW0⟩ : ∃ W0, w.alloc (.cells #[.slice a zs.length cap] 32) = W0 := ⟨_, rfl⟩
  rw [hW0] at b0 hB0
  go_enter Try.func95, Try.ntmps95
  go_wp2_with fail
  refine (l01Own_c _ st _ (hT.later hB0) hl0 hl1).mono ?_
  rintro e w1 ⟨v, rfl, ho, hb⟩
  simp only [id]
  have b1 := boxed_later b0 hb
  have hB1 := hB0.trans (hb.mono hB0.size)
  have hsw0 := hB0.size
  obtain ⟨g, cg, rfl, hg1, _⟩ := ho.shape hl0
  have hgw : w.heap.size < g := by have := b0.lt; omega
  replace ho := ho.base (show w.heap.size + 1 ≤ W0.heap.size by have := b0.lt; omega)
  replace ho : OwnI (w.heap.size + 1) w1 (.slice (some ⟨g, 0, none⟩) st.length cg) (mvK zs st j 0) := by rw [mvK_zero]; exact ho
  clear b0 hB0 hb hW0
  go_wp2
  go_loopw [13] (fun i wr => ∃ k : Nat, k ≤ st.length ∧ i = .int .i64 k ∧ OwnI (w.heap.size + 1) wr (.slice (some ⟨g, 0, none⟩) st.length cg) (mvK zs st j k) ∧ (∀ i', i' < k → (i' : Int) ≠ j → nth st i' ≠ 1) ∧ Boxed wr w.heap.size 32 (.slice a zs.length cap) ∧ Below w.heap.size w wr) (fun i _ => st.length - (intOf i).toNat)
  case atStart => exact ⟨0, Nat.zero_le _, rfl, ho, fun i h => by omega, b1, hB1⟩
  case round =>
    obtain ⟨k, hk, rfl, ho, hno, hbT, hB⟩ := hrel
    have cT := hbT.cell
    by_cases hlt : k < st.length
    · obtain ⟨b, off, rfl, hb2, hc⟩ := (hI.below hB).at_ (k := k) (by omega)
      have hcx := hc k (by omega)
      have hv := Hbd.out k (by omega)
      have ck := ho.cellAt (j := k) (by rw [mvK_length]; exact hlt)
      rw [nth_mvK hlt, if_neg (Nat.lt_irrefl k)] at ck
      have fk := ho.frozen k
      have Hms := Lib.hid (mvK_succ (zs := zs) (st := st) (j := j) hlt)
      have hki : (k : Int) < (st.length : Int) := by omega
      have hkz : (k : Int) < (zs.length : Int) := by omega
      have hv1 := hv.1.1
      have hv2 := hv.1.2
      have Hno := Lib.hid hno
      have HB := Lib.hid hB
      have st1 := ho.stored k (nth st k - 1)
      have hg2 : w.heap.size < g := hgw
      clear hc hv hno
      by_cases hkj : k = j
      · have hq : ((k : Int) == (j : Int)) = true := by rw [hkj]; simp
        have st2 := st1.1.stored k (nth zs k)
        rw [set_set_same] at st2
        have Hst2 := Lib.hid (show OwnI (w.heap.size + 1) ((wr.setCell ⟨g, k, none⟩ (.int .i64 (nth st k - 1))).setCell ⟨g, k, none⟩ (.int .i64 (nth zs k))) (.slice (some ⟨g, 0, none⟩) st.length cg) (mvK zs st j (k + 1)) by rw [Hms.out, if_pos (by omega)]; exact st2.1)
        have bT2 := (hbT.kept st1.2 (by simp; omega)).kept st2.2 (by simp; omega)
        have hz1v := (Hbd.out k (by omega)).2.1
        have hz1z : (nth zs k == 0) = false := by rw [beq_eq_false_iff_ne]; omega
        have Hkj := Lib.hid hkj
        clear st1 st2 ho hkj
        go_wp2
        go_roundw
        case rel => exact ⟨k + 1, by omega, by simp, Hst2.out, fun i' h1 h2 => (by
          by_cases e : i' = k
          · rw [e, Hkj.out] at h2; exact absurd rfl h2
          · exact Hno.out i' (by omega) h2), bT2, (HB.out.setCell (p := ⟨g, k, none⟩) (by show w.heap.size ≤ g; omega) _).setCell (p := ⟨g, k, none⟩) (by show w.heap.size ≤ g; omega) _⟩
        case measure => simp [intOf]; omega
      · have hq : ((k : Int) == (j : Int)) = false := by rw [beq_eq_false_iff_ne]; omega
        by_cases h1 : nth st k = 1
        · have Hn := Lib.hid (mvN_no (zs := zs) (st := st) (j := j) (fun ho2 => ho2 k hlt (by omega) h1))
          have hz : (nth st k - 1 == 0) = true := by rw [h1]; rfl
          clear st1 ho h1 hkj
          go_wp2
          go_ret
          exact ⟨ret_int (by rw [Hn.out]), HB.out.setCell (p := ⟨g, k, none⟩) (by show w.heap.size ≤ g; omega) _⟩
        · have Hne := Lib.hid h1
          have hz : (nth st k - 1 == 0) = false := by rw [beq_eq_false_iff_ne]; omega
          have Hst1 := Lib.hid (show OwnI (w.heap.size + 1) (wr.setCell ⟨g, k, none⟩ (.int .i64 (nth st k - 1))) (.slice (some ⟨g, 0, none⟩) st.length cg) (mvK zs st j (k + 1)) by rw [Hms.out, if_neg (by omega)]; exact st1.1)
          have bT2 := hbT.kept st1.2 (by simp; omega)
          clear st1 ho h1 hkj
          go_wp2
          go_roundw
          case rel => exact ⟨k + 1, by omega, by simp, Hst1.out, fun i' h1 h2 => (by
            by_cases e : i' = k
            · rw [e]; exact Hne.out
            · exact Hno.out i' (by omega) h2), bT2, HB.out.setCell (p := ⟨g, k, none⟩) (by show w.heap.size ≤ g; omega) _⟩
          case measure => simp [intOf]; omega
    · obtain rfl : k = st.length := by omega
      have hop : Opn st (j : Int) := fun i h1 h2 => hno i h1 h2
      have Hn := Lib.hid (mvN_yes (zs := zs) hop)
      rw [mvK_all] at ho
      have hst2 := hs.step hop
      have hl2 := stepL_length zs st (j : Int)
      obtain ⟨s2, hs2⟩ : ∃ s2, stepL zs st (j : Int) = s2 := ⟨_, rfl⟩
      rw [hs2] at ho hst2 hl2 Hn
      have Hl2 := Lib.hid hl2
      have Ho := Lib.hid (show Ints wr.heap.size wr (.slice (some ⟨g, 0, none⟩) st.length cg) s2 by have h := ho.ints; exact h)
      have Hst2 := Lib.hid hst2
      have hnk : ¬ (st.length : Int) < (st.length : Int) := by omega
      clear hno hop hst2 hl2 hs2 ho
      go_wp2_with fail
      refine (l09Number_c _ zs _ s2 j _ (hI.later hB) ht Ho.out Hst2.out hj).mono ?_
      rintro e w3 ⟨rfl, hb3⟩
      go_wp2
      go_ret
      exact ⟨ret_int (by rw [Hn.out]), hB.trans (hb3.mono hB.size)⟩

end Go.Proofs.Ytgndbifcncklgaa
