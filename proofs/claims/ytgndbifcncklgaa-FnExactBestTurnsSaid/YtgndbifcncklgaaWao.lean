/-
  The mean of what a closure tells for each pair of a sequence: meanOf, over shifts and over numbered lists.
  Conditions: the sums stay far within int64.
-/
import Derived.Test.YtgndbifcncklgaaWaf
import Derived.Test.YtgndbifcncklgaaWai
import Derived.Test.YtgndbifcncklgaaShiftIt
namespace Go.Proofs.Ytgndbifcncklgaa
open Go.RowKit Go.Shelf
attribute [local go_sem] Oper.semAt_some

/-- the sums stay far within int64 -/
structure FrBd (A B Q : Nat → Nat) (N : Nat) : Prop where
  pos : ∀ k, k < N → 0 < B k
  num : (fr A B Q N).1 ≤ 1152921504606846976
  a : ∀ k, k < N → A k * Q k ≤ 1152921504606846976
  sum : ∀ k, k < N → (fr A B Q k).1 * B k + A k * Q k * (fr A B Q k).2 ≤ 4611686018427387904
  prod : ∀ k, k < N → (fr A B Q k).2 * B k ≤ 4611686018427387904
  wt : ∀ k, k ≤ N → wtTo Q k ≤ 1152921504606846976
  wpos : 0 < wtTo Q N
  all : (fr A B Q N).2 * wtTo Q N ≤ 4611686018427387904

set_option maxRecDepth 100000 in
set_option maxHeartbeats 8000000 in
theorem meanShifts_c (lb : Array Value) (bv : Nat) (enc : Nat → Value) (Keep : Nat → Prop) (c N : Nat) (A B Q : Nat → Nat) (w : World)
    (hseq : ∀ W, Below w.heap.size w W → SeqAt Fence.wide 8 Try.prog 113 lb (fun k => #[.int .i64 (k : Int), enc k]) Keep c N W) (hKeep : ∀ b, Keep b → b < w.heap.size) (hF : FrBd A B Q N)
    (hcall : ∀ k W, k < N → Below w.heap.size w W → Calls Try.prog 112 #[.int .i64 (k : Int), enc k, .pointer (some ⟨bv, 0, none⟩)] W fun e w' => e = .returned (.tuple #[.agg #[.int .i64 (A k : Nat), .int .i64 (B k : Nat)], .int .i64 (Q k : Nat)]) ∧ Below W.heap.size W w') :
    Calls Try.prog 111 #[.func (.func 113) #[] lb, .func (.func 112) #[] #[.pointer (some ⟨bv, 0, none⟩)]] w fun e w' => e = .returned (.agg #[.int .i64 (meN A B Q N : Nat), .int .i64 (meD A B Q N : Nat)]) ∧ Below w.heap.size w w' := by
  refine (callsIn_wide (n := 9)).1 ?_
  refine callsIn_of_wp_marks Try.func111 rfl trivial ?_ rfl
  simp only [Try.ntmps111, List.size_toArray, List.length_cons, List.length_nil, Nat.reduceAdd, Nat.reduceSub, Array.replicate_succ, Array.replicate_zero, List.push_toArray, List.append_toArray, List.nil_append, List.cons_append]
  gi_wp2_with fail
  obtain ⟨W0, hW0⟩ : ∃ W0, (((w.alloc (.cells #[.func (.func 112) #[] #[.pointer (some ⟨bv, 0, none⟩)]] 121)).alloc (.cells #[.int .i64 0, .int .i64 0] 76)).alloc (.cells #[.int .i64 0, .int .i64 1] 76)).alloc (.cells #[.int .i64 0] 2) = W0 := ⟨_, rfl⟩
  have hB0 : Below w.heap.size w W0 := by rw [← hW0]; exact ((((Below.refl _ w).alloc (Nat.le_refl _) _).alloc (by simp) _).alloc (by simp; omega) _).alloc (by simp; omega) _
  have hs0 : w.heap.size + 4 = W0.heap.size := by rw [← hW0]; simp
  have bV : Boxed W0 w.heap.size 121 (.func (.func 112) #[] #[.pointer (some ⟨bv, 0, none⟩)]) := by rw [← hW0]; exact (((Boxed.new _ _ _).alloc _).alloc _).alloc _
  have bR : Box2 W0 (w.heap.size + 1) 76 (.int .i64 0) (.int .i64 0) := by rw [← hW0]; exact ((box2_at (by simp)).alloc _).alloc _
  have bS : Box2 W0 (w.heap.size + 1 + 1) 76 (.int .i64 0) (.int .i64 1) := by rw [← hW0]; exact (box2_at (by simp)).alloc _
  have bW : Boxed W0 (w.heap.size + 1 + 1 + 1) 2 (.int .i64 0) := by rw [← hW0]; exact boxed_at (by simp)
  rw [hW0]
  clear hW0
  have hnb : ∀ b, w.heap.size ≤ b → b < W0.heap.size → ¬ Band Keep W0.heap.size (W0.heap.size + 2 + c) b := fun b h1 h2 h => by
    rcases h with h | h
    · have := hKeep b h; omega
    · omega
  have Hnb := Lib.hid hnb
  have Hs0 := Lib.hid hs0
  have hs1 : w.heap.size + 4 ≤ W0.heap.size := by omega
  have Hcall := Lib.hid hcall
  have HF := Lib.hid hF
  clear hnb hs0 hcall hF
  refine range_outA rfl (by omega) rfl trivial (enters_of Try.func113 (by kernel_rfl) rfl) (hseq W0 hB0) (fun b hb => by have := hKeep b hb; omega) (fun _ => rfl)
    (fun k W => (Boxed W w.heap.size 121 (.func (.func 112) #[] #[.pointer (some ⟨bv, 0, none⟩)]) ∧ Box2 W (w.heap.size + 1) 76 (.int .i64 0) (.int .i64 0) ∧ Box2 W (w.heap.size + 1 + 1) 76 (.int .i64 ((fr A B Q k).1 : Nat)) (.int .i64 ((fr A B Q k).2 : Nat)) ∧ Boxed W (w.heap.size + 1 + 1 + 1) 2 (.int .i64 (wtTo Q k : Nat))) ∧ Below w.heap.size w W)
    (fun _ _ _ => False)
    (OwnFrom.and (OwnFrom.and (Own.from (boxed_own _ _ _) _) (OwnFrom.and (Own.from (box2_own _ _ _ _) _) (OwnFrom.and (Own.from (box2_own _ _ _ _) _) (Own.from (boxed_own _ _ _) _)))) (ownFrom_below (Nat.le_refl _) (by omega)))
    (fun _ _ _ _ _ hs _ _ => hs)
    ⟨⟨bV, bR, bS, bW⟩, hB0⟩ ?a1 ?assign ?body ?done ?stop
  case assign =>
    intro l k W K hk hK
    gi_wp2
    exact hK
  case body =>
    rintro l k W hl' hr ⟨⟨bV1, bR1, bS1, bW1⟩, hB⟩ hlt hs
    clear bV bR bS bW hseq
    have hn1 := Hnb.out (w.heap.size + 1 + 1) (by omega) (by omega)
    have hn2 := Hnb.out (w.heap.size + 1 + 1 + 1) (by omega) (by omega)
    have cV := bV1.cell
    gi_wp2_with fail
    refine ⟨trivial, (callsIn_wide.2 (Hcall.out k W hlt hB)).mono ?_⟩
    rintro e w1 ⟨rfl, hb1⟩
    gi_wp2_with fail
    obtain ⟨W2, hW2⟩ : ∃ W2, w1.alloc (.cells #[.int .i64 (A k : Nat), .int .i64 (B k : Nat)] 76) = W2 := ⟨_, rfl⟩
    have bN : Box2 W2 w1.heap.size 76 (.int .i64 (A k : Nat)) (.int .i64 (B k : Nat)) := by rw [← hW2]; exact Box2.new _ _ _ _
    have hb2 : Below W.heap.size W W2 := by rw [← hW2]; exact hb1.alloc hb1.size _
    have hsw := hb1.size
    rw [hW2]
    clear hW2 hb1 cV hl' hr
    have hB2 := hB.trans (hb2.mono hB.size)
    have hk2 : Kps (Band Keep W0.heap.size (W0.heap.size + 2 + c)) W W2 := ⟨hb2.size, fun j _ hj => hb2.block j hj⟩
    replace bV1 := boxed_later bV1 hb2
    replace bR1 := bR1.later hb2
    replace bS1 := bS1.later hb2
    replace bW1 := boxed_later bW1 hb2
    have Hf := Lib.hid (show fr A B Q (k + 1) = (lowN ((fr A B Q k).1 * B k + A k * Q k * (fr A B Q k).2) ((fr A B Q k).2 * B k), lowD ((fr A B Q k).1 * B k + A k * Q k * (fr A B Q k).2) ((fr A B Q k).2 * B k)) from rfl)
    have Hw := Lib.hid (show wtTo Q (k + 1) = wtTo Q k + Q k from rfl)
    have p1 := HF.out.pos k hlt
    have p2 := fr_pos (A := A) (Q := Q) HF.out.pos (k := k) (by omega)
    have p3 := HF.out.a k hlt
    have p4 := HF.out.sum k hlt
    have p5 := HF.out.prod k hlt
    have p6 := HF.out.wt (k + 1) (by omega)
    rw [Hw.out] at p6
    have hsB := hb2.size
    clear hB hb2
    obtain ⟨x, hx⟩ : ∃ x, (fr A B Q k).1 = x := ⟨_, rfl⟩
    obtain ⟨y, hy⟩ : ∃ y, (fr A B Q k).2 = y := ⟨_, rfl⟩
    rw [hx, hy] at bS1 p4
    rw [hy] at p2 p5
    have Hx := Lib.hid hx
    have Hy := Lib.hid hy
    clear hx hy
    obtain ⟨p, hp⟩ : ∃ p, A k = p := ⟨_, rfl⟩
    obtain ⟨q, hq⟩ : ∃ q, B k = q := ⟨_, rfl⟩
    obtain ⟨u, hu⟩ : ∃ u, Q k = u := ⟨_, rfl⟩
    obtain ⟨v, hv⟩ : ∃ v, wtTo Q k = v := ⟨_, rfl⟩
    rw [hp, hq] at bN
    rw [hq] at p1 p5
    rw [hp, hq, hu] at p4
    rw [hp, hu] at p3
    rw [hv, hu] at p6
    rw [hv] at bW1
    rw [hp, hq, hu]
    have Hp := Lib.hid hp
    have Hq := Lib.hid hq
    have Hu := Lib.hid hu
    have Hv := Lib.hid hv
    clear hp hq hu hv
    have hfw : Try.prog.follows Departure.mixedOrders = true := by kernel_rfl
    refine wpIn_region_held (S := fun w' => Box2 w' w1.heap.size 76 (.int .i64 (p : Int)) (.int .i64 (q : Int)) ∧ Kps (Band Keep W0.heap.size (W0.heap.size + 2 + c)) W w' ∧ Below w.heap.size w w') hfw (by kernel_rfl) (fun ⟨_, _, h⟩ => h) ⟨bN, ⟨hk2.size, hk2.same⟩, hB2.drew⟩ ?_
    intro hS0
    clear bN hk2 hB2
    refine wpAnyH_take (i := 1) (v := ?vr11) rfl (by kernel_rfl) (by kernel_rfl) (by kernel_rfl) (fun _ _ _ h => h) (.inl ⟨by first | kernel_rfl | rfl, ?yr11⟩) hS0 ?_
    case yr11 =>
      intro w' hS
      (have k1 := hS.1.c0; have k2 := hS.1.c1; clear hS)
      go_simp
      try with_reducible rfl
    refine wpAnyH_take (i := 2) (v := ?vr12) rfl (by kernel_rfl) (by kernel_rfl) (by kernel_rfl) (fun _ _ _ h => h) (.inl ⟨by first | kernel_rfl | rfl, ?yr12⟩) hS0 ?_
    case yr12 =>
      intro w' hS
      (have k1 := hS.1.c0; have k2 := hS.1.c1; clear hS)
      go_simp
      try with_reducible rfl
    try simp only [Act.put, List.getElem_toArray, List.getElem_cons_zero, List.getElem_cons_succ, List.setIfInBounds_toArray, List.set_cons_zero, List.set_cons_succ]
    refine wpAnyH_ready (rs := [0, 3]) (by kernel_rfl) (by simp) ?_
    refine AllReadyH.cons rfl (fun K' hK' => ?_) (AllReadyH.cons rfl (fun K' hK' => ?_) AllReadyH.nil)
    all_goals rw [if_pos (by first | kernel_rfl | rfl)]
    · have c0 := bS1.c0
      have c1 := bS1.c1
      go_simp
      refine hK'.out _ _ hS0 fun _ => ?_
      clear hK' c0 c1
      refine wpAnyH_ready (rs := [3]) (by kernel_rfl) (by simp) ?_
      refine AllReadyH.cons rfl (fun K' hK' => ?_) AllReadyH.nil
      rw [if_pos (by first | kernel_rfl | rfl)]
      go_simp
      refine (times_c p q u _ (by omega)).mono ?_
      rintro e w3 ⟨rfl, hb3⟩
      have hbd := hb3
      replace hb3 : Below W2.heap.size W2 w3 := (Below.refl _ W2).drew.trans hb3
      replace bV1 := boxed_later bV1 hb3
      replace bR1 := bR1.later hb3
      replace bS1 := bS1.later hb3
      replace bW1 := boxed_later bW1 hb3
      have hS1 : Box2 w3 w1.heap.size 76 (.int .i64 (p : Int)) (.int .i64 (q : Int)) ∧ Kps (Band Keep W0.heap.size (W0.heap.size + 2 + c)) W w3 ∧ Below w.heap.size w w3 := ⟨hS0.1.later hbd, hS0.2.1.trans ⟨hbd.size, fun j _ hj => hbd.block j hj⟩, hS0.2.2.trans (hbd.mono hS0.2.2.size)⟩
      refine hK'.out _ _ hS1 fun _ => ?_
      clear hK' hb3 hbd hS0
      refine wpAnyH_ready (rs := [4]) (by kernel_rfl) (by simp) ?_
      refine AllReadyH.cons rfl (fun K' hK' => ?_) AllReadyH.nil
      rw [if_pos (by first | kernel_rfl | rfl)]
      go_simp
      refine (plus_c x y (p * u) q _ p2 p1 p4 p5).mono ?_
      rintro e w4 ⟨rfl, hb4⟩
      replace bV1 := boxed_later bV1 hb4
      replace bR1 := bR1.later hb4
      replace bS1 := bS1.later hb4
      replace bW1 := boxed_later bW1 hb4
      refine hK'.out _ _ ⟨hS1.1.later hb4, hS1.2.1.trans ⟨hb4.size, fun j _ hj => hb4.block j hj⟩, hS1.2.2.trans (hb4.mono hS1.2.2.size)⟩ fun hS2 => ?_
      clear hK' hS1 hb4
      obtain ⟨m, hm⟩ : ∃ m, lowN (x * q + p * u * y) (y * q) = m := ⟨_, rfl⟩
      obtain ⟨z, hz⟩ : ∃ z, lowD (x * q + p * u * y) (y * q) = z := ⟨_, rfl⟩
      have Hm := Lib.hid hm
      have Hz := Lib.hid hz
      rw [hm, hz]
      clear hm hz
      have c0 := bS1.c0
      have c1 := bS1.c1
      have f0 := bS1.frozen 0
      have f1 := bS1.frozen 1
      have bS3 := (bS1.set0 (.int .i64 (m : Int))).set1 (.int .i64 (z : Int))
      have bV3 := (bV1.kept (grownBy_setC _ (w.heap.size + 1 + 1) 0 (.int .i64 (m : Int))) (by simp <;> omega)).kept (grownBy_setC _ (w.heap.size + 1 + 1) 1 (.int .i64 (z : Int))) (by simp <;> omega)
      have bR3 := (bR1.kept (grownBy_setC _ (w.heap.size + 1 + 1) 0 (.int .i64 (m : Int))) (by simp <;> omega)).kept (grownBy_setC _ (w.heap.size + 1 + 1) 1 (.int .i64 (z : Int))) (by simp <;> omega)
      have bW3 := (bW1.kept (grownBy_setC _ (w.heap.size + 1 + 1) 0 (.int .i64 (m : Int))) (by simp <;> omega)).kept (grownBy_setC _ (w.heap.size + 1 + 1) 1 (.int .i64 (z : Int))) (by simp <;> omega)
      clear bV1 bR1 bS1 bW1
      refine wpAnyH_ready (rs := [5]) (by kernel_rfl) (by simp) ?_
      refine AllReadyH.cons rfl (fun K' hK' => ?_) AllReadyH.nil
      rw [if_pos (by first | kernel_rfl | rfl)]
      go_simp
      refine hK'.out _ _ ⟨((hS2.1.other (i := 0) (b' := w.heap.size + 1 + 1) (by omega) (.int .i64 (m : Int))).other (i := 1) (b' := w.heap.size + 1 + 1) (by omega) (.int .i64 (z : Int))), (hS2.2.1.trans (Kps.setCell _ _ 0 (.int .i64 (m : Int)) hn1)).trans (Kps.setCell _ _ 1 (.int .i64 (z : Int)) hn1), (hS2.2.2.setCell (p := ⟨w.heap.size + 1 + 1, 0, none⟩) (by simp; omega) _).setCell (p := ⟨w.heap.size + 1 + 1, 1, none⟩) (by simp; omega) _⟩ fun hS3 => ?_
      refine wpAnyH_done (by kernel_rfl) ?_ _
      obtain ⟨W5, hW5⟩ : ∃ W5, ((w4.setCell ⟨w.heap.size + 1 + 1, 0, none⟩ (.int .i64 (m : Int))).setCell ⟨w.heap.size + 1 + 1, 1, none⟩ (.int .i64 (z : Int))) = W5 := ⟨_, rfl⟩
      rw [hW5] at bV3 bR3 bW3 bS3 hS3 ⊢
      clear hW5 c0 c1 f0 f1 hS2 hK'
      have cW := bW3.cell
      have fW := bW3.frozen
      have E1 := Lib.hid (show (fr A B Q (k + 1)).1 = m by rw [Hf.out]; show lowN _ _ = m; rw [Hx.out, Hy.out, Hp.out, Hq.out, Hu.out]; exact Hm.out)
      have E2 := Lib.hid (show (fr A B Q (k + 1)).2 = z by rw [Hf.out]; show lowD _ _ = z; rw [Hx.out, Hy.out, Hp.out, Hq.out, Hu.out]; exact Hz.out)
      have E3 := Lib.hid (show wtTo Q (k + 1) = v + u by rw [Hw.out, Hv.out, Hu.out])
      clear p1 p2 p3 p4 p5
      gi_wp2
      exact ⟨hS3.2.1.trans (Kps.setCell _ _ 0 _ hn2), ⟨bV3.other (by omega) _, bR3.kept (grownBy_setC _ _ 0 _) (by simp), by rw [E1.out, E2.out]; exact bS3.kept (grownBy_setC _ _ 0 _) (by simp), by rw [E3.out]; exact bW3.set _⟩, hS3.2.2.setCell (p := ⟨w.heap.size + 1 + 1 + 1, 0, none⟩) (by simp; omega) _⟩
    · go_simp
      refine (times_c p q u _ (by omega)).mono ?_
      rintro e w3 ⟨rfl, hb3⟩
      have hbd := hb3
      replace hb3 : Below W2.heap.size W2 w3 := (Below.refl _ W2).drew.trans hb3
      replace bV1 := boxed_later bV1 hb3
      replace bR1 := bR1.later hb3
      replace bS1 := bS1.later hb3
      replace bW1 := boxed_later bW1 hb3
      have hS1 : Box2 w3 w1.heap.size 76 (.int .i64 (p : Int)) (.int .i64 (q : Int)) ∧ Kps (Band Keep W0.heap.size (W0.heap.size + 2 + c)) W w3 ∧ Below w.heap.size w w3 := ⟨hS0.1.later hbd, hS0.2.1.trans ⟨hbd.size, fun j _ hj => hbd.block j hj⟩, hS0.2.2.trans (hbd.mono hS0.2.2.size)⟩
      refine hK'.out _ _ hS1 fun _ => ?_
      clear hK' hb3 hbd hS0
      have c0 := bS1.c0
      have c1 := bS1.c1
      refine wpAnyH_ready (rs := [0]) (by kernel_rfl) (by simp) ?_
      refine AllReadyH.cons rfl (fun K' hK' => ?_) AllReadyH.nil
      rw [if_pos (by first | kernel_rfl | rfl)]
      go_simp
      refine hK'.out _ _ hS1 fun _ => ?_
      clear hK' c0 c1
      refine wpAnyH_ready (rs := [4]) (by kernel_rfl) (by simp) ?_
      refine AllReadyH.cons rfl (fun K' hK' => ?_) AllReadyH.nil
      rw [if_pos (by first | kernel_rfl | rfl)]
      go_simp
      refine (plus_c x y (p * u) q _ p2 p1 p4 p5).mono ?_
      rintro e w4 ⟨rfl, hb4⟩
      replace bV1 := boxed_later bV1 hb4
      replace bR1 := bR1.later hb4
      replace bS1 := bS1.later hb4
      replace bW1 := boxed_later bW1 hb4
      refine hK'.out _ _ ⟨hS1.1.later hb4, hS1.2.1.trans ⟨hb4.size, fun j _ hj => hb4.block j hj⟩, hS1.2.2.trans (hb4.mono hS1.2.2.size)⟩ fun hS2 => ?_
      clear hK' hS1 hb4
      obtain ⟨m, hm⟩ : ∃ m, lowN (x * q + p * u * y) (y * q) = m := ⟨_, rfl⟩
      obtain ⟨z, hz⟩ : ∃ z, lowD (x * q + p * u * y) (y * q) = z := ⟨_, rfl⟩
      have Hm := Lib.hid hm
      have Hz := Lib.hid hz
      rw [hm, hz]
      clear hm hz
      have c0 := bS1.c0
      have c1 := bS1.c1
      have f0 := bS1.frozen 0
      have f1 := bS1.frozen 1
      have bS3 := (bS1.set0 (.int .i64 (m : Int))).set1 (.int .i64 (z : Int))
      have bV3 := (bV1.kept (grownBy_setC _ (w.heap.size + 1 + 1) 0 (.int .i64 (m : Int))) (by simp <;> omega)).kept (grownBy_setC _ (w.heap.size + 1 + 1) 1 (.int .i64 (z : Int))) (by simp <;> omega)
      have bR3 := (bR1.kept (grownBy_setC _ (w.heap.size + 1 + 1) 0 (.int .i64 (m : Int))) (by simp <;> omega)).kept (grownBy_setC _ (w.heap.size + 1 + 1) 1 (.int .i64 (z : Int))) (by simp <;> omega)
      have bW3 := (bW1.kept (grownBy_setC _ (w.heap.size + 1 + 1) 0 (.int .i64 (m : Int))) (by simp <;> omega)).kept (grownBy_setC _ (w.heap.size + 1 + 1) 1 (.int .i64 (z : Int))) (by simp <;> omega)
      clear bV1 bR1 bS1 bW1
      refine wpAnyH_ready (rs := [5]) (by kernel_rfl) (by simp) ?_
      refine AllReadyH.cons rfl (fun K' hK' => ?_) AllReadyH.nil
      rw [if_pos (by first | kernel_rfl | rfl)]
      go_simp
      refine hK'.out _ _ ⟨((hS2.1.other (i := 0) (b' := w.heap.size + 1 + 1) (by omega) (.int .i64 (m : Int))).other (i := 1) (b' := w.heap.size + 1 + 1) (by omega) (.int .i64 (z : Int))), (hS2.2.1.trans (Kps.setCell _ _ 0 (.int .i64 (m : Int)) hn1)).trans (Kps.setCell _ _ 1 (.int .i64 (z : Int)) hn1), (hS2.2.2.setCell (p := ⟨w.heap.size + 1 + 1, 0, none⟩) (by simp; omega) _).setCell (p := ⟨w.heap.size + 1 + 1, 1, none⟩) (by simp; omega) _⟩ fun hS3 => ?_
      refine wpAnyH_done (by kernel_rfl) ?_ _
      obtain ⟨W5, hW5⟩ : ∃ W5, ((w4.setCell ⟨w.heap.size + 1 + 1, 0, none⟩ (.int .i64 (m : Int))).setCell ⟨w.heap.size + 1 + 1, 1, none⟩ (.int .i64 (z : Int))) = W5 := ⟨_, rfl⟩
      rw [hW5] at bV3 bR3 bW3 bS3 hS3 ⊢
      clear hW5 c0 c1 f0 f1 hS2 hK'
      have cW := bW3.cell
      have fW := bW3.frozen
      have E1 := Lib.hid (show (fr A B Q (k + 1)).1 = m by rw [Hf.out]; show lowN _ _ = m; rw [Hx.out, Hy.out, Hp.out, Hq.out, Hu.out]; exact Hm.out)
      have E2 := Lib.hid (show (fr A B Q (k + 1)).2 = z by rw [Hf.out]; show lowD _ _ = z; rw [Hx.out, Hy.out, Hp.out, Hq.out, Hu.out]; exact Hz.out)
      have E3 := Lib.hid (show wtTo Q (k + 1) = v + u by rw [Hw.out, Hv.out, Hu.out])
      clear p1 p2 p3 p4 p5
      gi_wp2
      exact ⟨hS3.2.1.trans (Kps.setCell _ _ 0 _ hn2), ⟨bV3.other (by omega) _, bR3.kept (grownBy_setC _ _ 0 _) (by simp), by rw [E1.out, E2.out]; exact bS3.kept (grownBy_setC _ _ 0 _) (by simp), by rw [E3.out]; exact bW3.set _⟩, hS3.2.2.setCell (p := ⟨w.heap.size + 1 + 1 + 1, 0, none⟩) (by simp; omega) _⟩
  case done =>
    rintro D W hD ⟨⟨bV1, bR1, bS1, bW1⟩, hB⟩ hK
    have q1 := HF.out.num
    have q2 := HF.out.all
    have q3 := fr_pos (A := A) (Q := Q) HF.out.pos (k := N) (Nat.le_refl _)
    have q4 := HF.out.wpos
    have q5 : 0 < (fr A B Q N).2 * wtTo Q N := Nat.mul_pos q3 q4
    have hmm : ((fr A B Q N).2 : Int) * (wtTo Q N : Int) = (((fr A B Q N).2 * wtTo Q N : Nat) : Int) := by simp
    have HN := Lib.hid (show meN A B Q N = lowN (fr A B Q N).1 ((fr A B Q N).2 * wtTo Q N) from rfl)
    have HD := Lib.hid (show meD A B Q N = lowD (fr A B Q N).1 ((fr A B Q N).2 * wtTo Q N) from rfl)
    clear bV bR bS bW hseq
    obtain ⟨z, hz⟩ : ∃ z, (fr A B Q N).2 * wtTo Q N = z := ⟨_, rfl⟩
    rw [hz] at q2 q5 hmm
    obtain ⟨x, hx⟩ : ∃ x, (fr A B Q N).1 = x := ⟨_, rfl⟩
    rw [hx] at q1 bS1
    have HX := Lib.hid hx
    have HZ := Lib.hid hz
    obtain ⟨y, hy⟩ : ∃ y, (fr A B Q N).2 = y := ⟨_, rfl⟩
    rw [hy] at q3 bS1 hmm
    obtain ⟨v, hv⟩ : ∃ v, wtTo Q N = v := ⟨_, rfl⟩
    rw [hv] at q4 bW1 hmm
    clear hx hy hz hv
    have c0 := bS1.c0
    have c1 := bS1.c1
    have cW := bW1.cell
    gi_wp2_with fail
    refine ⟨trivial, (callsIn_wide.2 (shortened_c x z _ (by omega) q2 q5)).mono ?_⟩
    rintro e w5 ⟨rfl, hb5⟩
    replace bR1 := bR1.later hb5
    have hDl : D < W.heap.size := (Array.getElem?_eq_some_iff.1 hK).1
    have hK5 : w5.heap[D]? = some (.deferred (some [])) := (hb5.block D hDl).trans hK
    have hB5 := hB.trans (hb5.mono hB.size)
    clear hb5 c0 c1 cW hK hB
    obtain ⟨m, hm⟩ : ∃ m, lowN x z = m := ⟨_, rfl⟩
    obtain ⟨n, hn⟩ : ∃ n, lowD x z = n := ⟨_, rfl⟩
    have E1 := Lib.hid (show meN A B Q N = m by rw [HN.out, HX.out, HZ.out, hm])
    have E2 := Lib.hid (show meD A B Q N = n by rw [HD.out, HX.out, HZ.out, hn])
    rw [hm, hn]
    clear hm hn hmm
    have c0 := bR1.c0
    have c1 := bR1.c1
    have f0 := bR1.frozen 0
    have f1 := bR1.frozen 1
    gi_wp2_with fail
    have b3 := (bR1.set0 (.int .i64 (m : Int))).set1 (.int .i64 (n : Int))
    have hK6 := (KeepsOthers.setCell _ ⟨w.heap.size + 1, 1, none⟩ (.int .i64 (n : Int))).same D _ ((KeepsOthers.setCell w5 ⟨w.heap.size + 1, 0, none⟩ (.int .i64 (m : Int))).same D _ hK5 rfl) rfl
    have d0 := (box2_shut b3 hK6).c0
    have d1 := (box2_shut b3 hK6).c1
    exact retM1 hK6 ⟨.agg #[.int .i64 (m : Int), .int .i64 (n : Int)], by simp [results, Try.f111, go_sem, d0, d1], ret_frac (by rw [E1.out]) (by rw [E2.out]), below_shut ((hB5.setCell (p := ⟨w.heap.size + 1, 0, none⟩) (by simp) _).setCell (p := ⟨w.heap.size + 1, 1, none⟩) (by simp) _) (by omega)⟩
  case stop =>
    rintro D c k W hD hk h
    exact h.elim

set_option maxRecDepth 100000 in
set_option maxHeartbeats 8000000 in
theorem meanWeights_c (lb : Array Value) (bv : Nat) (enc : Nat → Value) (Keep : Nat → Prop) (c N : Nat) (A B Q : Nat → Nat) (w : World)
    (hseq : ∀ W, Below w.heap.size w W → SeqAt Fence.wide 8 Try.prog 124 lb (fun k => #[.int .i64 (k : Int), enc k]) Keep c N W) (hKeep : ∀ b, Keep b → b < w.heap.size) (hF : FrBd A B Q N)
    (hcall : ∀ k W, k < N → Below w.heap.size w W → Calls Try.prog 116 #[.int .i64 (k : Int), enc k, .pointer (some ⟨bv, 0, none⟩)] W fun e w' => e = .returned (.tuple #[.agg #[.int .i64 (A k : Nat), .int .i64 (B k : Nat)], .int .i64 (Q k : Nat)]) ∧ Below W.heap.size W w') :
    Calls Try.prog 86 #[.func (.func 124) #[] lb, .func (.func 116) #[] #[.pointer (some ⟨bv, 0, none⟩)]] w fun e w' => e = .returned (.agg #[.int .i64 (meN A B Q N : Nat), .int .i64 (meD A B Q N : Nat)]) ∧ Below w.heap.size w w' := by
  refine (callsIn_wide (n := 9)).1 ?_
  refine callsIn_of_wp_marks Try.func86 rfl trivial ?_ rfl
  simp only [Try.ntmps86, List.size_toArray, List.length_cons, List.length_nil, Nat.reduceAdd, Nat.reduceSub, Array.replicate_succ, Array.replicate_zero, List.push_toArray, List.append_toArray, List.nil_append, List.cons_append]
  gi_wp2_with fail
  obtain ⟨W0, hW0⟩ : ∃ W0, (((w.alloc (.cells #[.func (.func 116) #[] #[.pointer (some ⟨bv, 0, none⟩)]] 93)).alloc (.cells #[.int .i64 0, .int .i64 0] 76)).alloc (.cells #[.int .i64 0, .int .i64 1] 76)).alloc (.cells #[.int .i64 0] 2) = W0 := ⟨_, rfl⟩
  have hB0 : Below w.heap.size w W0 := by rw [← hW0]; exact ((((Below.refl _ w).alloc (Nat.le_refl _) _).alloc (by simp) _).alloc (by simp; omega) _).alloc (by simp; omega) _
  have hs0 : w.heap.size + 4 = W0.heap.size := by rw [← hW0]; simp
  have bV : Boxed W0 w.heap.size 93 (.func (.func 116) #[] #[.pointer (some ⟨bv, 0, none⟩)]) := by rw [← hW0]; exact (((Boxed.new _ _ _).alloc _).alloc _).alloc _
  have bR : Box2 W0 (w.heap.size + 1) 76 (.int .i64 0) (.int .i64 0) := by rw [← hW0]; exact ((box2_at (by simp)).alloc _).alloc _
  have bS : Box2 W0 (w.heap.size + 1 + 1) 76 (.int .i64 0) (.int .i64 1) := by rw [← hW0]; exact (box2_at (by simp)).alloc _
  have bW : Boxed W0 (w.heap.size + 1 + 1 + 1) 2 (.int .i64 0) := by rw [← hW0]; exact boxed_at (by simp)
  rw [hW0]
  clear hW0
  have hnb : ∀ b, w.heap.size ≤ b → b < W0.heap.size → ¬ Band Keep W0.heap.size (W0.heap.size + 2 + c) b := fun b h1 h2 h => by
    rcases h with h | h
    · have := hKeep b h; omega
    · omega
  have Hnb := Lib.hid hnb
  have Hs0 := Lib.hid hs0
  have hs1 : w.heap.size + 4 ≤ W0.heap.size := by omega
  have Hcall := Lib.hid hcall
  have HF := Lib.hid hF
  clear hnb hs0 hcall hF
  refine range_outA rfl (by omega) rfl trivial (enters_of Try.func124 (by kernel_rfl) rfl) (hseq W0 hB0) (fun b hb => by have := hKeep b hb; omega) (fun _ => rfl)
    (fun k W => (Boxed W w.heap.size 93 (.func (.func 116) #[] #[.pointer (some ⟨bv, 0, none⟩)]) ∧ Box2 W (w.heap.size + 1) 76 (.int .i64 0) (.int .i64 0) ∧ Box2 W (w.heap.size + 1 + 1) 76 (.int .i64 ((fr A B Q k).1 : Nat)) (.int .i64 ((fr A B Q k).2 : Nat)) ∧ Boxed W (w.heap.size + 1 + 1 + 1) 2 (.int .i64 (wtTo Q k : Nat))) ∧ Below w.heap.size w W)
    (fun _ _ _ => False)
    (OwnFrom.and (OwnFrom.and (Own.from (boxed_own _ _ _) _) (OwnFrom.and (Own.from (box2_own _ _ _ _) _) (OwnFrom.and (Own.from (box2_own _ _ _ _) _) (Own.from (boxed_own _ _ _) _)))) (ownFrom_below (Nat.le_refl _) (by omega)))
    (fun _ _ _ _ _ hs _ _ => hs)
    ⟨⟨bV, bR, bS, bW⟩, hB0⟩ ?a1 ?assign ?body ?done ?stop
  case assign =>
    intro l k W K hk hK
    gi_wp2
    exact hK
  case body =>
    rintro l k W hl' hr ⟨⟨bV1, bR1, bS1, bW1⟩, hB⟩ hlt hs
    clear bV bR bS bW hseq
    have hn1 := Hnb.out (w.heap.size + 1 + 1) (by omega) (by omega)
    have hn2 := Hnb.out (w.heap.size + 1 + 1 + 1) (by omega) (by omega)
    have cV := bV1.cell
    gi_wp2_with fail
    refine ⟨trivial, (callsIn_wide.2 (Hcall.out k W hlt hB)).mono ?_⟩
    rintro e w1 ⟨rfl, hb1⟩
    gi_wp2_with fail
    obtain ⟨W2, hW2⟩ : ∃ W2, w1.alloc (.cells #[.int .i64 (A k : Nat), .int .i64 (B k : Nat)] 76) = W2 := ⟨_, rfl⟩
    have bN : Box2 W2 w1.heap.size 76 (.int .i64 (A k : Nat)) (.int .i64 (B k : Nat)) := by rw [← hW2]; exact Box2.new _ _ _ _
    have hb2 : Below W.heap.size W W2 := by rw [← hW2]; exact hb1.alloc hb1.size _
    have hsw := hb1.size
    rw [hW2]
    clear hW2 hb1 cV hl' hr
    have hB2 := hB.trans (hb2.mono hB.size)
    have hk2 : Kps (Band Keep W0.heap.size (W0.heap.size + 2 + c)) W W2 := ⟨hb2.size, fun j _ hj => hb2.block j hj⟩
    replace bV1 := boxed_later bV1 hb2
    replace bR1 := bR1.later hb2
    replace bS1 := bS1.later hb2
    replace bW1 := boxed_later bW1 hb2
    have Hf := Lib.hid (show fr A B Q (k + 1) = (lowN ((fr A B Q k).1 * B k + A k * Q k * (fr A B Q k).2) ((fr A B Q k).2 * B k), lowD ((fr A B Q k).1 * B k + A k * Q k * (fr A B Q k).2) ((fr A B Q k).2 * B k)) from rfl)
    have Hw := Lib.hid (show wtTo Q (k + 1) = wtTo Q k + Q k from rfl)
    have p1 := HF.out.pos k hlt
    have p2 := fr_pos (A := A) (Q := Q) HF.out.pos (k := k) (by omega)
    have p3 := HF.out.a k hlt
    have p4 := HF.out.sum k hlt
    have p5 := HF.out.prod k hlt
    have p6 := HF.out.wt (k + 1) (by omega)
    rw [Hw.out] at p6
    have hsB := hb2.size
    clear hB hb2
    obtain ⟨x, hx⟩ : ∃ x, (fr A B Q k).1 = x := ⟨_, rfl⟩
    obtain ⟨y, hy⟩ : ∃ y, (fr A B Q k).2 = y := ⟨_, rfl⟩
    rw [hx, hy] at bS1 p4
    rw [hy] at p2 p5
    have Hx := Lib.hid hx
    have Hy := Lib.hid hy
    clear hx hy
    obtain ⟨p, hp⟩ : ∃ p, A k = p := ⟨_, rfl⟩
    obtain ⟨q, hq⟩ : ∃ q, B k = q := ⟨_, rfl⟩
    obtain ⟨u, hu⟩ : ∃ u, Q k = u := ⟨_, rfl⟩
    obtain ⟨v, hv⟩ : ∃ v, wtTo Q k = v := ⟨_, rfl⟩
    rw [hp, hq] at bN
    rw [hq] at p1 p5
    rw [hp, hq, hu] at p4
    rw [hp, hu] at p3
    rw [hv, hu] at p6
    rw [hv] at bW1
    rw [hp, hq, hu]
    have Hp := Lib.hid hp
    have Hq := Lib.hid hq
    have Hu := Lib.hid hu
    have Hv := Lib.hid hv
    clear hp hq hu hv
    have hfw : Try.prog.follows Departure.mixedOrders = true := by kernel_rfl
    refine wpIn_region_held (S := fun w' => Box2 w' w1.heap.size 76 (.int .i64 (p : Int)) (.int .i64 (q : Int)) ∧ Kps (Band Keep W0.heap.size (W0.heap.size + 2 + c)) W w' ∧ Below w.heap.size w w') hfw (by kernel_rfl) (fun ⟨_, _, h⟩ => h) ⟨bN, ⟨hk2.size, hk2.same⟩, hB2.drew⟩ ?_
    intro hS0
    clear bN hk2 hB2
    refine wpAnyH_take (i := 1) (v := ?vr11) rfl (by kernel_rfl) (by kernel_rfl) (by kernel_rfl) (fun _ _ _ h => h) (.inl ⟨by first | kernel_rfl | rfl, ?yr11⟩) hS0 ?_
    case yr11 =>
      intro w' hS
      (have k1 := hS.1.c0; have k2 := hS.1.c1; clear hS)
      go_simp
      try with_reducible rfl
    refine wpAnyH_take (i := 2) (v := ?vr12) rfl (by kernel_rfl) (by kernel_rfl) (by kernel_rfl) (fun _ _ _ h => h) (.inl ⟨by first | kernel_rfl | rfl, ?yr12⟩) hS0 ?_
    case yr12 =>
      intro w' hS
      (have k1 := hS.1.c0; have k2 := hS.1.c1; clear hS)
      go_simp
      try with_reducible rfl
    try simp only [Act.put, List.getElem_toArray, List.getElem_cons_zero, List.getElem_cons_succ, List.setIfInBounds_toArray, List.set_cons_zero, List.set_cons_succ]
    refine wpAnyH_ready (rs := [0, 3]) (by kernel_rfl) (by simp) ?_
    refine AllReadyH.cons rfl (fun K' hK' => ?_) (AllReadyH.cons rfl (fun K' hK' => ?_) AllReadyH.nil)
    all_goals rw [if_pos (by first | kernel_rfl | rfl)]
    · have c0 := bS1.c0
      have c1 := bS1.c1
      go_simp
      refine hK'.out _ _ hS0 fun _ => ?_
      clear hK' c0 c1
      refine wpAnyH_ready (rs := [3]) (by kernel_rfl) (by simp) ?_
      refine AllReadyH.cons rfl (fun K' hK' => ?_) AllReadyH.nil
      rw [if_pos (by first | kernel_rfl | rfl)]
      go_simp
      refine (times_c p q u _ (by omega)).mono ?_
      rintro e w3 ⟨rfl, hb3⟩
      have hbd := hb3
      replace hb3 : Below W2.heap.size W2 w3 := (Below.refl _ W2).drew.trans hb3
      replace bV1 := boxed_later bV1 hb3
      replace bR1 := bR1.later hb3
      replace bS1 := bS1.later hb3
      replace bW1 := boxed_later bW1 hb3
      have hS1 : Box2 w3 w1.heap.size 76 (.int .i64 (p : Int)) (.int .i64 (q : Int)) ∧ Kps (Band Keep W0.heap.size (W0.heap.size + 2 + c)) W w3 ∧ Below w.heap.size w w3 := ⟨hS0.1.later hbd, hS0.2.1.trans ⟨hbd.size, fun j _ hj => hbd.block j hj⟩, hS0.2.2.trans (hbd.mono hS0.2.2.size)⟩
      refine hK'.out _ _ hS1 fun _ => ?_
      clear hK' hb3 hbd hS0
      refine wpAnyH_ready (rs := [4]) (by kernel_rfl) (by simp) ?_
      refine AllReadyH.cons rfl (fun K' hK' => ?_) AllReadyH.nil
      rw [if_pos (by first | kernel_rfl | rfl)]
      go_simp
      refine (plus_c x y (p * u) q _ p2 p1 p4 p5).mono ?_
      rintro e w4 ⟨rfl, hb4⟩
      replace bV1 := boxed_later bV1 hb4
      replace bR1 := bR1.later hb4
      replace bS1 := bS1.later hb4
      replace bW1 := boxed_later bW1 hb4
      refine hK'.out _ _ ⟨hS1.1.later hb4, hS1.2.1.trans ⟨hb4.size, fun j _ hj => hb4.block j hj⟩, hS1.2.2.trans (hb4.mono hS1.2.2.size)⟩ fun hS2 => ?_
      clear hK' hS1 hb4
      obtain ⟨m, hm⟩ : ∃ m, lowN (x * q + p * u * y) (y * q) = m := ⟨_, rfl⟩
      obtain ⟨z, hz⟩ : ∃ z, lowD (x * q + p * u * y) (y * q) = z := ⟨_, rfl⟩
      have Hm := Lib.hid hm
      have Hz := Lib.hid hz
      rw [hm, hz]
      clear hm hz
      have c0 := bS1.c0
      have c1 := bS1.c1
      have f0 := bS1.frozen 0
      have f1 := bS1.frozen 1
      have bS3 := (bS1.set0 (.int .i64 (m : Int))).set1 (.int .i64 (z : Int))
      have bV3 := (bV1.kept (grownBy_setC _ (w.heap.size + 1 + 1) 0 (.int .i64 (m : Int))) (by simp <;> omega)).kept (grownBy_setC _ (w.heap.size + 1 + 1) 1 (.int .i64 (z : Int))) (by simp <;> omega)
      have bR3 := (bR1.kept (grownBy_setC _ (w.heap.size + 1 + 1) 0 (.int .i64 (m : Int))) (by simp <;> omega)).kept (grownBy_setC _ (w.heap.size + 1 + 1) 1 (.int .i64 (z : Int))) (by simp <;> omega)
      have bW3 := (bW1.kept (grownBy_setC _ (w.heap.size + 1 + 1) 0 (.int .i64 (m : Int))) (by simp <;> omega)).kept (grownBy_setC _ (w.heap.size + 1 + 1) 1 (.int .i64 (z : Int))) (by simp <;> omega)
      clear bV1 bR1 bS1 bW1
      refine wpAnyH_ready (rs := [5]) (by kernel_rfl) (by simp) ?_
      refine AllReadyH.cons rfl (fun K' hK' => ?_) AllReadyH.nil
      rw [if_pos (by first | kernel_rfl | rfl)]
      go_simp
      refine hK'.out _ _ ⟨((hS2.1.other (i := 0) (b' := w.heap.size + 1 + 1) (by omega) (.int .i64 (m : Int))).other (i := 1) (b' := w.heap.size + 1 + 1) (by omega) (.int .i64 (z : Int))), (hS2.2.1.trans (Kps.setCell _ _ 0 (.int .i64 (m : Int)) hn1)).trans (Kps.setCell _ _ 1 (.int .i64 (z : Int)) hn1), (hS2.2.2.setCell (p := ⟨w.heap.size + 1 + 1, 0, none⟩) (by simp; omega) _).setCell (p := ⟨w.heap.size + 1 + 1, 1, none⟩) (by simp; omega) _⟩ fun hS3 => ?_
      refine wpAnyH_done (by kernel_rfl) ?_ _
      obtain ⟨W5, hW5⟩ : ∃ W5, ((w4.setCell ⟨w.heap.size + 1 + 1, 0, none⟩ (.int .i64 (m : Int))).setCell ⟨w.heap.size + 1 + 1, 1, none⟩ (.int .i64 (z : Int))) = W5 := ⟨_, rfl⟩
      rw [hW5] at bV3 bR3 bW3 bS3 hS3 ⊢
      clear hW5 c0 c1 f0 f1 hS2 hK'
      have cW := bW3.cell
      have fW := bW3.frozen
      have E1 := Lib.hid (show (fr A B Q (k + 1)).1 = m by rw [Hf.out]; show lowN _ _ = m; rw [Hx.out, Hy.out, Hp.out, Hq.out, Hu.out]; exact Hm.out)
      have E2 := Lib.hid (show (fr A B Q (k + 1)).2 = z by rw [Hf.out]; show lowD _ _ = z; rw [Hx.out, Hy.out, Hp.out, Hq.out, Hu.out]; exact Hz.out)
      have E3 := Lib.hid (show wtTo Q (k + 1) = v + u by rw [Hw.out, Hv.out, Hu.out])
      clear p1 p2 p3 p4 p5
      gi_wp2
      exact ⟨hS3.2.1.trans (Kps.setCell _ _ 0 _ hn2), ⟨bV3.other (by omega) _, bR3.kept (grownBy_setC _ _ 0 _) (by simp), by rw [E1.out, E2.out]; exact bS3.kept (grownBy_setC _ _ 0 _) (by simp), by rw [E3.out]; exact bW3.set _⟩, hS3.2.2.setCell (p := ⟨w.heap.size + 1 + 1 + 1, 0, none⟩) (by simp; omega) _⟩
    · go_simp
      refine (times_c p q u _ (by omega)).mono ?_
      rintro e w3 ⟨rfl, hb3⟩
      have hbd := hb3
      replace hb3 : Below W2.heap.size W2 w3 := (Below.refl _ W2).drew.trans hb3
      replace bV1 := boxed_later bV1 hb3
      replace bR1 := bR1.later hb3
      replace bS1 := bS1.later hb3
      replace bW1 := boxed_later bW1 hb3
      have hS1 : Box2 w3 w1.heap.size 76 (.int .i64 (p : Int)) (.int .i64 (q : Int)) ∧ Kps (Band Keep W0.heap.size (W0.heap.size + 2 + c)) W w3 ∧ Below w.heap.size w w3 := ⟨hS0.1.later hbd, hS0.2.1.trans ⟨hbd.size, fun j _ hj => hbd.block j hj⟩, hS0.2.2.trans (hbd.mono hS0.2.2.size)⟩
      refine hK'.out _ _ hS1 fun _ => ?_
      clear hK' hb3 hbd hS0
      have c0 := bS1.c0
      have c1 := bS1.c1
      refine wpAnyH_ready (rs := [0]) (by kernel_rfl) (by simp) ?_
      refine AllReadyH.cons rfl (fun K' hK' => ?_) AllReadyH.nil
      rw [if_pos (by first | kernel_rfl | rfl)]
      go_simp
      refine hK'.out _ _ hS1 fun _ => ?_
      clear hK' c0 c1
      refine wpAnyH_ready (rs := [4]) (by kernel_rfl) (by simp) ?_
      refine AllReadyH.cons rfl (fun K' hK' => ?_) AllReadyH.nil
      rw [if_pos (by first | kernel_rfl | rfl)]
      go_simp
      refine (plus_c x y (p * u) q _ p2 p1 p4 p5).mono ?_
      rintro e w4 ⟨rfl, hb4⟩
      replace bV1 := boxed_later bV1 hb4
      replace bR1 := bR1.later hb4
      replace bS1 := bS1.later hb4
      replace bW1 := boxed_later bW1 hb4
      refine hK'.out _ _ ⟨hS1.1.later hb4, hS1.2.1.trans ⟨hb4.size, fun j _ hj => hb4.block j hj⟩, hS1.2.2.trans (hb4.mono hS1.2.2.size)⟩ fun hS2 => ?_
      clear hK' hS1 hb4
      obtain ⟨m, hm⟩ : ∃ m, lowN (x * q + p * u * y) (y * q) = m := ⟨_, rfl⟩
      obtain ⟨z, hz⟩ : ∃ z, lowD (x * q + p * u * y) (y * q) = z := ⟨_, rfl⟩
      have Hm := Lib.hid hm
      have Hz := Lib.hid hz
      rw [hm, hz]
      clear hm hz
      have c0 := bS1.c0
      have c1 := bS1.c1
      have f0 := bS1.frozen 0
      have f1 := bS1.frozen 1
      have bS3 := (bS1.set0 (.int .i64 (m : Int))).set1 (.int .i64 (z : Int))
      have bV3 := (bV1.kept (grownBy_setC _ (w.heap.size + 1 + 1) 0 (.int .i64 (m : Int))) (by simp <;> omega)).kept (grownBy_setC _ (w.heap.size + 1 + 1) 1 (.int .i64 (z : Int))) (by simp <;> omega)
      have bR3 := (bR1.kept (grownBy_setC _ (w.heap.size + 1 + 1) 0 (.int .i64 (m : Int))) (by simp <;> omega)).kept (grownBy_setC _ (w.heap.size + 1 + 1) 1 (.int .i64 (z : Int))) (by simp <;> omega)
      have bW3 := (bW1.kept (grownBy_setC _ (w.heap.size + 1 + 1) 0 (.int .i64 (m : Int))) (by simp <;> omega)).kept (grownBy_setC _ (w.heap.size + 1 + 1) 1 (.int .i64 (z : Int))) (by simp <;> omega)
      clear bV1 bR1 bS1 bW1
      refine wpAnyH_ready (rs := [5]) (by kernel_rfl) (by simp) ?_
      refine AllReadyH.cons rfl (fun K' hK' => ?_) AllReadyH.nil
      rw [if_pos (by first | kernel_rfl | rfl)]
      go_simp
      refine hK'.out _ _ ⟨((hS2.1.other (i := 0) (b' := w.heap.size + 1 + 1) (by omega) (.int .i64 (m : Int))).other (i := 1) (b' := w.heap.size + 1 + 1) (by omega) (.int .i64 (z : Int))), (hS2.2.1.trans (Kps.setCell _ _ 0 (.int .i64 (m : Int)) hn1)).trans (Kps.setCell _ _ 1 (.int .i64 (z : Int)) hn1), (hS2.2.2.setCell (p := ⟨w.heap.size + 1 + 1, 0, none⟩) (by simp; omega) _).setCell (p := ⟨w.heap.size + 1 + 1, 1, none⟩) (by simp; omega) _⟩ fun hS3 => ?_
      refine wpAnyH_done (by kernel_rfl) ?_ _
      obtain ⟨W5, hW5⟩ : ∃ W5, ((w4.setCell ⟨w.heap.size + 1 + 1, 0, none⟩ (.int .i64 (m : Int))).setCell ⟨w.heap.size + 1 + 1, 1, none⟩ (.int .i64 (z : Int))) = W5 := ⟨_, rfl⟩
      rw [hW5] at bV3 bR3 bW3 bS3 hS3 ⊢
      clear hW5 c0 c1 f0 f1 hS2 hK'
      have cW := bW3.cell
      have fW := bW3.frozen
      have E1 := Lib.hid (show (fr A B Q (k + 1)).1 = m by rw [Hf.out]; show lowN _ _ = m; rw [Hx.out, Hy.out, Hp.out, Hq.out, Hu.out]; exact Hm.out)
      have E2 := Lib.hid (show (fr A B Q (k + 1)).2 = z by rw [Hf.out]; show lowD _ _ = z; rw [Hx.out, Hy.out, Hp.out, Hq.out, Hu.out]; exact Hz.out)
      have E3 := Lib.hid (show wtTo Q (k + 1) = v + u by rw [Hw.out, Hv.out, Hu.out])
      clear p1 p2 p3 p4 p5
      gi_wp2
      exact ⟨hS3.2.1.trans (Kps.setCell _ _ 0 _ hn2), ⟨bV3.other (by omega) _, bR3.kept (grownBy_setC _ _ 0 _) (by simp), by rw [E1.out, E2.out]; exact bS3.kept (grownBy_setC _ _ 0 _) (by simp), by rw [E3.out]; exact bW3.set _⟩, hS3.2.2.setCell (p := ⟨w.heap.size + 1 + 1 + 1, 0, none⟩) (by simp; omega) _⟩
  case done =>
    rintro D W hD ⟨⟨bV1, bR1, bS1, bW1⟩, hB⟩ hK
    have q1 := HF.out.num
    have q2 := HF.out.all
    have q3 := fr_pos (A := A) (Q := Q) HF.out.pos (k := N) (Nat.le_refl _)
    have q4 := HF.out.wpos
    have q5 : 0 < (fr A B Q N).2 * wtTo Q N := Nat.mul_pos q3 q4
    have hmm : ((fr A B Q N).2 : Int) * (wtTo Q N : Int) = (((fr A B Q N).2 * wtTo Q N : Nat) : Int) := by simp
    have HN := Lib.hid (show meN A B Q N = lowN (fr A B Q N).1 ((fr A B Q N).2 * wtTo Q N) from rfl)
    have HD := Lib.hid (show meD A B Q N = lowD (fr A B Q N).1 ((fr A B Q N).2 * wtTo Q N) from rfl)
    clear bV bR bS bW hseq
    obtain ⟨z, hz⟩ : ∃ z, (fr A B Q N).2 * wtTo Q N = z := ⟨_, rfl⟩
    rw [hz] at q2 q5 hmm
    obtain ⟨x, hx⟩ : ∃ x, (fr A B Q N).1 = x := ⟨_, rfl⟩
    rw [hx] at q1 bS1
    have HX := Lib.hid hx
    have HZ := Lib.hid hz
    obtain ⟨y, hy⟩ : ∃ y, (fr A B Q N).2 = y := ⟨_, rfl⟩
    rw [hy] at q3 bS1 hmm
    obtain ⟨v, hv⟩ : ∃ v, wtTo Q N = v := ⟨_, rfl⟩
    rw [hv] at q4 bW1 hmm
    clear hx hy hz hv
    have c0 := bS1.c0
    have c1 := bS1.c1
    have cW := bW1.cell
    gi_wp2_with fail
    refine ⟨trivial, (callsIn_wide.2 (shortened_c x z _ (by omega) q2 q5)).mono ?_⟩
    rintro e w5 ⟨rfl, hb5⟩
    replace bR1 := bR1.later hb5
    have hDl : D < W.heap.size := (Array.getElem?_eq_some_iff.1 hK).1
    have hK5 : w5.heap[D]? = some (.deferred (some [])) := (hb5.block D hDl).trans hK
    have hB5 := hB.trans (hb5.mono hB.size)
    clear hb5 c0 c1 cW hK hB
    obtain ⟨m, hm⟩ : ∃ m, lowN x z = m := ⟨_, rfl⟩
    obtain ⟨n, hn⟩ : ∃ n, lowD x z = n := ⟨_, rfl⟩
    have E1 := Lib.hid (show meN A B Q N = m by rw [HN.out, HX.out, HZ.out, hm])
    have E2 := Lib.hid (show meD A B Q N = n by rw [HD.out, HX.out, HZ.out, hn])
    rw [hm, hn]
    clear hm hn hmm
    have c0 := bR1.c0
    have c1 := bR1.c1
    have f0 := bR1.frozen 0
    have f1 := bR1.frozen 1
    gi_wp2_with fail
    have b3 := (bR1.set0 (.int .i64 (m : Int))).set1 (.int .i64 (n : Int))
    have hK6 := (KeepsOthers.setCell _ ⟨w.heap.size + 1, 1, none⟩ (.int .i64 (n : Int))).same D _ ((KeepsOthers.setCell w5 ⟨w.heap.size + 1, 0, none⟩ (.int .i64 (m : Int))).same D _ hK5 rfl) rfl
    have d0 := (box2_shut b3 hK6).c0
    have d1 := (box2_shut b3 hK6).c1
    exact retM1 hK6 ⟨.agg #[.int .i64 (m : Int), .int .i64 (n : Int)], by simp [results, Try.f86, go_sem, d0, d1], ret_frac (by rw [E1.out]) (by rw [E2.out]), below_shut ((hB5.setCell (p := ⟨w.heap.size + 1, 0, none⟩) (by simp) _).setCell (p := ⟨w.heap.size + 1, 1, none⟩) (by simp) _) (by omega)⟩
  case stop =>
    rintro D c k W hD hk h
    exact h.elim

set_option maxRecDepth 100000 in
set_option maxHeartbeats 8000000 in
theorem meanShares_c (lb : Array Value) (bv : Nat) (enc : Nat → Value) (Keep : Nat → Prop) (c N : Nat) (A B Q : Nat → Nat) (w : World)
    (hseq : ∀ W, Below w.heap.size w W → SeqAt Fence.wide 8 Try.prog 124 lb (fun k => #[.int .i64 (k : Int), enc k]) Keep c N W) (hKeep : ∀ b, Keep b → b < w.heap.size) (hF : FrBd A B Q N)
    (hcall : ∀ k W, k < N → Below w.heap.size w W → Calls Try.prog 88 #[.int .i64 (k : Int), enc k, .pointer (some ⟨bv, 0, none⟩)] W fun e w' => e = .returned (.tuple #[.agg #[.int .i64 (A k : Nat), .int .i64 (B k : Nat)], .int .i64 (Q k : Nat)]) ∧ Below W.heap.size W w') :
    Calls Try.prog 86 #[.func (.func 124) #[] lb, .func (.func 88) #[] #[.pointer (some ⟨bv, 0, none⟩)]] w fun e w' => e = .returned (.agg #[.int .i64 (meN A B Q N : Nat), .int .i64 (meD A B Q N : Nat)]) ∧ Below w.heap.size w w' := by
  refine (callsIn_wide (n := 9)).1 ?_
  refine callsIn_of_wp_marks Try.func86 rfl trivial ?_ rfl
  simp only [Try.ntmps86, List.size_toArray, List.length_cons, List.length_nil, Nat.reduceAdd, Nat.reduceSub, Array.replicate_succ, Array.replicate_zero, List.push_toArray, List.append_toArray, List.nil_append, List.cons_append]
  gi_wp2_with fail
  obtain ⟨W0, hW0⟩ : ∃ W0, (((w.alloc (.cells #[.func (.func 88) #[] #[.pointer (some ⟨bv, 0, none⟩)]] 93)).alloc (.cells #[.int .i64 0, .int .i64 0] 76)).alloc (.cells #[.int .i64 0, .int .i64 1] 76)).alloc (.cells #[.int .i64 0] 2) = W0 := ⟨_, rfl⟩
  have hB0 : Below w.heap.size w W0 := by rw [← hW0]; exact ((((Below.refl _ w).alloc (Nat.le_refl _) _).alloc (by simp) _).alloc (by simp; omega) _).alloc (by simp; omega) _
  have hs0 : w.heap.size + 4 = W0.heap.size := by rw [← hW0]; simp
  have bV : Boxed W0 w.heap.size 93 (.func (.func 88) #[] #[.pointer (some ⟨bv, 0, none⟩)]) := by rw [← hW0]; exact (((Boxed.new _ _ _).alloc _).alloc _).alloc _
  have bR : Box2 W0 (w.heap.size + 1) 76 (.int .i64 0) (.int .i64 0) := by rw [← hW0]; exact ((box2_at (by simp)).alloc _).alloc _
  have bS : Box2 W0 (w.heap.size + 1 + 1) 76 (.int .i64 0) (.int .i64 1) := by rw [← hW0]; exact (box2_at (by simp)).alloc _
  have bW : Boxed W0 (w.heap.size + 1 + 1 + 1) 2 (.int .i64 0) := by rw [← hW0]; exact boxed_at (by simp)
  rw [hW0]
  clear hW0
  have hnb : ∀ b, w.heap.size ≤ b → b < W0.heap.size → ¬ Band Keep W0.heap.size (W0.heap.size + 2 + c) b := fun b h1 h2 h => by
    rcases h with h | h
    · have := hKeep b h; omega
    · omega
  have Hnb := Lib.hid hnb
  have Hs0 := Lib.hid hs0
  have hs1 : w.heap.size + 4 ≤ W0.heap.size := by omega
  have Hcall := Lib.hid hcall
  have HF := Lib.hid hF
  clear hnb hs0 hcall hF
  refine range_outA rfl (by omega) rfl trivial (enters_of Try.func124 (by kernel_rfl) rfl) (hseq W0 hB0) (fun b hb => by have := hKeep b hb; omega) (fun _ => rfl)
    (fun k W => (Boxed W w.heap.size 93 (.func (.func 88) #[] #[.pointer (some ⟨bv, 0, none⟩)]) ∧ Box2 W (w.heap.size + 1) 76 (.int .i64 0) (.int .i64 0) ∧ Box2 W (w.heap.size + 1 + 1) 76 (.int .i64 ((fr A B Q k).1 : Nat)) (.int .i64 ((fr A B Q k).2 : Nat)) ∧ Boxed W (w.heap.size + 1 + 1 + 1) 2 (.int .i64 (wtTo Q k : Nat))) ∧ Below w.heap.size w W)
    (fun _ _ _ => False)
    (OwnFrom.and (OwnFrom.and (Own.from (boxed_own _ _ _) _) (OwnFrom.and (Own.from (box2_own _ _ _ _) _) (OwnFrom.and (Own.from (box2_own _ _ _ _) _) (Own.from (boxed_own _ _ _) _)))) (ownFrom_below (Nat.le_refl _) (by omega)))
    (fun _ _ _ _ _ hs _ _ => hs)
    ⟨⟨bV, bR, bS, bW⟩, hB0⟩ ?a1 ?assign ?body ?done ?stop
  case assign =>
    intro l k W K hk hK
    gi_wp2
    exact hK
  case body =>
    rintro l k W hl' hr ⟨⟨bV1, bR1, bS1, bW1⟩, hB⟩ hlt hs
    clear bV bR bS bW hseq
    have hn1 := Hnb.out (w.heap.size + 1 + 1) (by omega) (by omega)
    have hn2 := Hnb.out (w.heap.size + 1 + 1 + 1) (by omega) (by omega)
    have cV := bV1.cell
    gi_wp2_with fail
    refine ⟨trivial, (callsIn_wide.2 (Hcall.out k W hlt hB)).mono ?_⟩
    rintro e w1 ⟨rfl, hb1⟩
    gi_wp2_with fail
    obtain ⟨W2, hW2⟩ : ∃ W2, w1.alloc (.cells #[.int .i64 (A k : Nat), .int .i64 (B k : Nat)] 76) = W2 := ⟨_, rfl⟩
    have bN : Box2 W2 w1.heap.size 76 (.int .i64 (A k : Nat)) (.int .i64 (B k : Nat)) := by rw [← hW2]; exact Box2.new _ _ _ _
    have hb2 : Below W.heap.size W W2 := by rw [← hW2]; exact hb1.alloc hb1.size _
    have hsw := hb1.size
    rw [hW2]
    clear hW2 hb1 cV hl' hr
    have hB2 := hB.trans (hb2.mono hB.size)
    have hk2 : Kps (Band Keep W0.heap.size (W0.heap.size + 2 + c)) W W2 := ⟨hb2.size, fun j _ hj => hb2.block j hj⟩
    replace bV1 := boxed_later bV1 hb2
    replace bR1 := bR1.later hb2
    replace bS1 := bS1.later hb2
    replace bW1 := boxed_later bW1 hb2
    have Hf := Lib.hid (show fr A B Q (k + 1) = (lowN ((fr A B Q k).1 * B k + A k * Q k * (fr A B Q k).2) ((fr A B Q k).2 * B k), lowD ((fr A B Q k).1 * B k + A k * Q k * (fr A B Q k).2) ((fr A B Q k).2 * B k)) from rfl)
    have Hw := Lib.hid (show wtTo Q (k + 1) = wtTo Q k + Q k from rfl)
    have p1 := HF.out.pos k hlt
    have p2 := fr_pos (A := A) (Q := Q) HF.out.pos (k := k) (by omega)
    have p3 := HF.out.a k hlt
    have p4 := HF.out.sum k hlt
    have p5 := HF.out.prod k hlt
    have p6 := HF.out.wt (k + 1) (by omega)
    rw [Hw.out] at p6
    have hsB := hb2.size
    clear hB hb2
    obtain ⟨x, hx⟩ : ∃ x, (fr A B Q k).1 = x := ⟨_, rfl⟩
    obtain ⟨y, hy⟩ : ∃ y, (fr A B Q k).2 = y := ⟨_, rfl⟩
    rw [hx, hy] at bS1 p4
    rw [hy] at p2 p5
    have Hx := Lib.hid hx
    have Hy := Lib.hid hy
    clear hx hy
    obtain ⟨p, hp⟩ : ∃ p, A k = p := ⟨_, rfl⟩
    obtain ⟨q, hq⟩ : ∃ q, B k = q := ⟨_, rfl⟩
    obtain ⟨u, hu⟩ : ∃ u, Q k = u := ⟨_, rfl⟩
    obtain ⟨v, hv⟩ : ∃ v, wtTo Q k = v := ⟨_, rfl⟩
    rw [hp, hq] at bN
    rw [hq] at p1 p5
    rw [hp, hq, hu] at p4
    rw [hp, hu] at p3
    rw [hv, hu] at p6
    rw [hv] at bW1
    rw [hp, hq, hu]
    have Hp := Lib.hid hp
    have Hq := Lib.hid hq
    have Hu := Lib.hid hu
    have Hv := Lib.hid hv
    clear hp hq hu hv
    have hfw : Try.prog.follows Departure.mixedOrders = true := by kernel_rfl
    refine wpIn_region_held (S := fun w' => Box2 w' w1.heap.size 76 (.int .i64 (p : Int)) (.int .i64 (q : Int)) ∧ Kps (Band Keep W0.heap.size (W0.heap.size + 2 + c)) W w' ∧ Below w.heap.size w w') hfw (by kernel_rfl) (fun ⟨_, _, h⟩ => h) ⟨bN, ⟨hk2.size, hk2.same⟩, hB2.drew⟩ ?_
    intro hS0
    clear bN hk2 hB2
    refine wpAnyH_take (i := 1) (v := ?vr11) rfl (by kernel_rfl) (by kernel_rfl) (by kernel_rfl) (fun _ _ _ h => h) (.inl ⟨by first | kernel_rfl | rfl, ?yr11⟩) hS0 ?_
    case yr11 =>
      intro w' hS
      (have k1 := hS.1.c0; have k2 := hS.1.c1; clear hS)
      go_simp
      try with_reducible rfl
    refine wpAnyH_take (i := 2) (v := ?vr12) rfl (by kernel_rfl) (by kernel_rfl) (by kernel_rfl) (fun _ _ _ h => h) (.inl ⟨by first | kernel_rfl | rfl, ?yr12⟩) hS0 ?_
    case yr12 =>
      intro w' hS
      (have k1 := hS.1.c0; have k2 := hS.1.c1; clear hS)
      go_simp
      try with_reducible rfl
    try simp only [Act.put, List.getElem_toArray, List.getElem_cons_zero, List.getElem_cons_succ, List.setIfInBounds_toArray, List.set_cons_zero, List.set_cons_succ]
    refine wpAnyH_ready (rs := [0, 3]) (by kernel_rfl) (by simp) ?_
    refine AllReadyH.cons rfl (fun K' hK' => ?_) (AllReadyH.cons rfl (fun K' hK' => ?_) AllReadyH.nil)
    all_goals rw [if_pos (by first | kernel_rfl | rfl)]
    · have c0 := bS1.c0
      have c1 := bS1.c1
      go_simp
      refine hK'.out _ _ hS0 fun _ => ?_
      clear hK' c0 c1
      refine wpAnyH_ready (rs := [3]) (by kernel_rfl) (by simp) ?_
      refine AllReadyH.cons rfl (fun K' hK' => ?_) AllReadyH.nil
      rw [if_pos (by first | kernel_rfl | rfl)]
      go_simp
      refine (times_c p q u _ (by omega)).mono ?_
      rintro e w3 ⟨rfl, hb3⟩
      have hbd := hb3
      replace hb3 : Below W2.heap.size W2 w3 := (Below.refl _ W2).drew.trans hb3
      replace bV1 := boxed_later bV1 hb3
      replace bR1 := bR1.later hb3
      replace bS1 := bS1.later hb3
      replace bW1 := boxed_later bW1 hb3
      have hS1 : Box2 w3 w1.heap.size 76 (.int .i64 (p : Int)) (.int .i64 (q : Int)) ∧ Kps (Band Keep W0.heap.size (W0.heap.size + 2 + c)) W w3 ∧ Below w.heap.size w w3 := ⟨hS0.1.later hbd, hS0.2.1.trans ⟨hbd.size, fun j _ hj => hbd.block j hj⟩, hS0.2.2.trans (hbd.mono hS0.2.2.size)⟩
      refine hK'.out _ _ hS1 fun _ => ?_
      clear hK' hb3 hbd hS0
      refine wpAnyH_ready (rs := [4]) (by kernel_rfl) (by simp) ?_
      refine AllReadyH.cons rfl (fun K' hK' => ?_) AllReadyH.nil
      rw [if_pos (by first | kernel_rfl | rfl)]
      go_simp
      refine (plus_c x y (p * u) q _ p2 p1 p4 p5).mono ?_
      rintro e w4 ⟨rfl, hb4⟩
      replace bV1 := boxed_later bV1 hb4
      replace bR1 := bR1.later hb4
      replace bS1 := bS1.later hb4
      replace bW1 := boxed_later bW1 hb4
      refine hK'.out _ _ ⟨hS1.1.later hb4, hS1.2.1.trans ⟨hb4.size, fun j _ hj => hb4.block j hj⟩, hS1.2.2.trans (hb4.mono hS1.2.2.size)⟩ fun hS2 => ?_
      clear hK' hS1 hb4
      obtain ⟨m, hm⟩ : ∃ m, lowN (x * q + p * u * y) (y * q) = m := ⟨_, rfl⟩
      obtain ⟨z, hz⟩ : ∃ z, lowD (x * q + p * u * y) (y * q) = z := ⟨_, rfl⟩
      have Hm := Lib.hid hm
      have Hz := Lib.hid hz
      rw [hm, hz]
      clear hm hz
      have c0 := bS1.c0
      have c1 := bS1.c1
      have f0 := bS1.frozen 0
      have f1 := bS1.frozen 1
      have bS3 := (bS1.set0 (.int .i64 (m : Int))).set1 (.int .i64 (z : Int))
      have bV3 := (bV1.kept (grownBy_setC _ (w.heap.size + 1 + 1) 0 (.int .i64 (m : Int))) (by simp <;> omega)).kept (grownBy_setC _ (w.heap.size + 1 + 1) 1 (.int .i64 (z : Int))) (by simp <;> omega)
      have bR3 := (bR1.kept (grownBy_setC _ (w.heap.size + 1 + 1) 0 (.int .i64 (m : Int))) (by simp <;> omega)).kept (grownBy_setC _ (w.heap.size + 1 + 1) 1 (.int .i64 (z : Int))) (by simp <;> omega)
      have bW3 := (bW1.kept (grownBy_setC _ (w.heap.size + 1 + 1) 0 (.int .i64 (m : Int))) (by simp <;> omega)).kept (grownBy_setC _ (w.heap.size + 1 + 1) 1 (.int .i64 (z : Int))) (by simp <;> omega)
      clear bV1 bR1 bS1 bW1
      refine wpAnyH_ready (rs := [5]) (by kernel_rfl) (by simp) ?_
      refine AllReadyH.cons rfl (fun K' hK' => ?_) AllReadyH.nil
      rw [if_pos (by first | kernel_rfl | rfl)]
      go_simp
      refine hK'.out _ _ ⟨((hS2.1.other (i := 0) (b' := w.heap.size + 1 + 1) (by omega) (.int .i64 (m : Int))).other (i := 1) (b' := w.heap.size + 1 + 1) (by omega) (.int .i64 (z : Int))), (hS2.2.1.trans (Kps.setCell _ _ 0 (.int .i64 (m : Int)) hn1)).trans (Kps.setCell _ _ 1 (.int .i64 (z : Int)) hn1), (hS2.2.2.setCell (p := ⟨w.heap.size + 1 + 1, 0, none⟩) (by simp; omega) _).setCell (p := ⟨w.heap.size + 1 + 1, 1, none⟩) (by simp; omega) _⟩ fun hS3 => ?_
      refine wpAnyH_done (by kernel_rfl) ?_ _
      obtain ⟨W5, hW5⟩ : ∃ W5, ((w4.setCell ⟨w.heap.size + 1 + 1, 0, none⟩ (.int .i64 (m : Int))).setCell ⟨w.heap.size + 1 + 1, 1, none⟩ (.int .i64 (z : Int))) = W5 := ⟨_, rfl⟩
      rw [hW5] at bV3 bR3 bW3 bS3 hS3 ⊢
      clear hW5 c0 c1 f0 f1 hS2 hK'
      have cW := bW3.cell
      have fW := bW3.frozen
      have E1 := Lib.hid (show (fr A B Q (k + 1)).1 = m by rw [Hf.out]; show lowN _ _ = m; rw [Hx.out, Hy.out, Hp.out, Hq.out, Hu.out]; exact Hm.out)
      have E2 := Lib.hid (show (fr A B Q (k + 1)).2 = z by rw [Hf.out]; show lowD _ _ = z; rw [Hx.out, Hy.out, Hp.out, Hq.out, Hu.out]; exact Hz.out)
      have E3 := Lib.hid (show wtTo Q (k + 1) = v + u by rw [Hw.out, Hv.out, Hu.out])
      clear p1 p2 p3 p4 p5
      gi_wp2
      exact ⟨hS3.2.1.trans (Kps.setCell _ _ 0 _ hn2), ⟨bV3.other (by omega) _, bR3.kept (grownBy_setC _ _ 0 _) (by simp), by rw [E1.out, E2.out]; exact bS3.kept (grownBy_setC _ _ 0 _) (by simp), by rw [E3.out]; exact bW3.set _⟩, hS3.2.2.setCell (p := ⟨w.heap.size + 1 + 1 + 1, 0, none⟩) (by simp; omega) _⟩
    · go_simp
      refine (times_c p q u _ (by omega)).mono ?_
      rintro e w3 ⟨rfl, hb3⟩
      have hbd := hb3
      replace hb3 : Below W2.heap.size W2 w3 := (Below.refl _ W2).drew.trans hb3
      replace bV1 := boxed_later bV1 hb3
      replace bR1 := bR1.later hb3
      replace bS1 := bS1.later hb3
      replace bW1 := boxed_later bW1 hb3
      have hS1 : Box2 w3 w1.heap.size 76 (.int .i64 (p : Int)) (.int .i64 (q : Int)) ∧ Kps (Band Keep W0.heap.size (W0.heap.size + 2 + c)) W w3 ∧ Below w.heap.size w w3 := ⟨hS0.1.later hbd, hS0.2.1.trans ⟨hbd.size, fun j _ hj => hbd.block j hj⟩, hS0.2.2.trans (hbd.mono hS0.2.2.size)⟩
      refine hK'.out _ _ hS1 fun _ => ?_
      clear hK' hb3 hbd hS0
      have c0 := bS1.c0
      have c1 := bS1.c1
      refine wpAnyH_ready (rs := [0]) (by kernel_rfl) (by simp) ?_
      refine AllReadyH.cons rfl (fun K' hK' => ?_) AllReadyH.nil
      rw [if_pos (by first | kernel_rfl | rfl)]
      go_simp
      refine hK'.out _ _ hS1 fun _ => ?_
      clear hK' c0 c1
      refine wpAnyH_ready (rs := [4]) (by kernel_rfl) (by simp) ?_
      refine AllReadyH.cons rfl (fun K' hK' => ?_) AllReadyH.nil
      rw [if_pos (by first | kernel_rfl | rfl)]
      go_simp
      refine (plus_c x y (p * u) q _ p2 p1 p4 p5).mono ?_
      rintro e w4 ⟨rfl, hb4⟩
      replace bV1 := boxed_later bV1 hb4
      replace bR1 := bR1.later hb4
      replace bS1 := bS1.later hb4
      replace bW1 := boxed_later bW1 hb4
      refine hK'.out _ _ ⟨hS1.1.later hb4, hS1.2.1.trans ⟨hb4.size, fun j _ hj => hb4.block j hj⟩, hS1.2.2.trans (hb4.mono hS1.2.2.size)⟩ fun hS2 => ?_
      clear hK' hS1 hb4
      obtain ⟨m, hm⟩ : ∃ m, lowN (x * q + p * u * y) (y * q) = m := ⟨_, rfl⟩
      obtain ⟨z, hz⟩ : ∃ z, lowD (x * q + p * u * y) (y * q) = z := ⟨_, rfl⟩
      have Hm := Lib.hid hm
      have Hz := Lib.hid hz
      rw [hm, hz]
      clear hm hz
      have c0 := bS1.c0
      have c1 := bS1.c1
      have f0 := bS1.frozen 0
      have f1 := bS1.frozen 1
      have bS3 := (bS1.set0 (.int .i64 (m : Int))).set1 (.int .i64 (z : Int))
      have bV3 := (bV1.kept (grownBy_setC _ (w.heap.size + 1 + 1) 0 (.int .i64 (m : Int))) (by simp <;> omega)).kept (grownBy_setC _ (w.heap.size + 1 + 1) 1 (.int .i64 (z : Int))) (by simp <;> omega)
      have bR3 := (bR1.kept (grownBy_setC _ (w.heap.size + 1 + 1) 0 (.int .i64 (m : Int))) (by simp <;> omega)).kept (grownBy_setC _ (w.heap.size + 1 + 1) 1 (.int .i64 (z : Int))) (by simp <;> omega)
      have bW3 := (bW1.kept (grownBy_setC _ (w.heap.size + 1 + 1) 0 (.int .i64 (m : Int))) (by simp <;> omega)).kept (grownBy_setC _ (w.heap.size + 1 + 1) 1 (.int .i64 (z : Int))) (by simp <;> omega)
      clear bV1 bR1 bS1 bW1
      refine wpAnyH_ready (rs := [5]) (by kernel_rfl) (by simp) ?_
      refine AllReadyH.cons rfl (fun K' hK' => ?_) AllReadyH.nil
      rw [if_pos (by first | kernel_rfl | rfl)]
      go_simp
      refine hK'.out _ _ ⟨((hS2.1.other (i := 0) (b' := w.heap.size + 1 + 1) (by omega) (.int .i64 (m : Int))).other (i := 1) (b' := w.heap.size + 1 + 1) (by omega) (.int .i64 (z : Int))), (hS2.2.1.trans (Kps.setCell _ _ 0 (.int .i64 (m : Int)) hn1)).trans (Kps.setCell _ _ 1 (.int .i64 (z : Int)) hn1), (hS2.2.2.setCell (p := ⟨w.heap.size + 1 + 1, 0, none⟩) (by simp; omega) _).setCell (p := ⟨w.heap.size + 1 + 1, 1, none⟩) (by simp; omega) _⟩ fun hS3 => ?_
      refine wpAnyH_done (by kernel_rfl) ?_ _
      obtain ⟨W5, hW5⟩ : ∃ W5, ((w4.setCell ⟨w.heap.size + 1 + 1, 0, none⟩ (.int .i64 (m : Int))).setCell ⟨w.heap.size + 1 + 1, 1, none⟩ (.int .i64 (z : Int))) = W5 := ⟨_, rfl⟩
      rw [hW5] at bV3 bR3 bW3 bS3 hS3 ⊢
      clear hW5 c0 c1 f0 f1 hS2 hK'
      have cW := bW3.cell
      have fW := bW3.frozen
      have E1 := Lib.hid (show (fr A B Q (k + 1)).1 = m by rw [Hf.out]; show lowN _ _ = m; rw [Hx.out, Hy.out, Hp.out, Hq.out, Hu.out]; exact Hm.out)
      have E2 := Lib.hid (show (fr A B Q (k + 1)).2 = z by rw [Hf.out]; show lowD _ _ = z; rw [Hx.out, Hy.out, Hp.out, Hq.out, Hu.out]; exact Hz.out)
      have E3 := Lib.hid (show wtTo Q (k + 1) = v + u by rw [Hw.out, Hv.out, Hu.out])
      clear p1 p2 p3 p4 p5
      gi_wp2
      exact ⟨hS3.2.1.trans (Kps.setCell _ _ 0 _ hn2), ⟨bV3.other (by omega) _, bR3.kept (grownBy_setC _ _ 0 _) (by simp), by rw [E1.out, E2.out]; exact bS3.kept (grownBy_setC _ _ 0 _) (by simp), by rw [E3.out]; exact bW3.set _⟩, hS3.2.2.setCell (p := ⟨w.heap.size + 1 + 1 + 1, 0, none⟩) (by simp; omega) _⟩
  case done =>
    rintro D W hD ⟨⟨bV1, bR1, bS1, bW1⟩, hB⟩ hK
    have q1 := HF.out.num
    have q2 := HF.out.all
    have q3 := fr_pos (A := A) (Q := Q) HF.out.pos (k := N) (Nat.le_refl _)
    have q4 := HF.out.wpos
    have q5 : 0 < (fr A B Q N).2 * wtTo Q N := Nat.mul_pos q3 q4
    have hmm : ((fr A B Q N).2 : Int) * (wtTo Q N : Int) = (((fr A B Q N).2 * wtTo Q N : Nat) : Int) := by simp
    have HN := Lib.hid (show meN A B Q N = lowN (fr A B Q N).1 ((fr A B Q N).2 * wtTo Q N) from rfl)
    have HD := Lib.hid (show meD A B Q N = lowD (fr A B Q N).1 ((fr A B Q N).2 * wtTo Q N) from rfl)
    clear bV bR bS bW hseq
    obtain ⟨z, hz⟩ : ∃ z, (fr A B Q N).2 * wtTo Q N = z := ⟨_, rfl⟩
    rw [hz] at q2 q5 hmm
    obtain ⟨x, hx⟩ : ∃ x, (fr A B Q N).1 = x := ⟨_, rfl⟩
    rw [hx] at q1 bS1
    have HX := Lib.hid hx
    have HZ := Lib.hid hz
    obtain ⟨y, hy⟩ : ∃ y, (fr A B Q N).2 = y := ⟨_, rfl⟩
    rw [hy] at q3 bS1 hmm
    obtain ⟨v, hv⟩ : ∃ v, wtTo Q N = v := ⟨_, rfl⟩
    rw [hv] at q4 bW1 hmm
    clear hx hy hz hv
    have c0 := bS1.c0
    have c1 := bS1.c1
    have cW := bW1.cell
    gi_wp2_with fail
    refine ⟨trivial, (callsIn_wide.2 (shortened_c x z _ (by omega) q2 q5)).mono ?_⟩
    rintro e w5 ⟨rfl, hb5⟩
    replace bR1 := bR1.later hb5
    have hDl : D < W.heap.size := (Array.getElem?_eq_some_iff.1 hK).1
    have hK5 : w5.heap[D]? = some (.deferred (some [])) := (hb5.block D hDl).trans hK
    have hB5 := hB.trans (hb5.mono hB.size)
    clear hb5 c0 c1 cW hK hB
    obtain ⟨m, hm⟩ : ∃ m, lowN x z = m := ⟨_, rfl⟩
    obtain ⟨n, hn⟩ : ∃ n, lowD x z = n := ⟨_, rfl⟩
    have E1 := Lib.hid (show meN A B Q N = m by rw [HN.out, HX.out, HZ.out, hm])
    have E2 := Lib.hid (show meD A B Q N = n by rw [HD.out, HX.out, HZ.out, hn])
    rw [hm, hn]
    clear hm hn hmm
    have c0 := bR1.c0
    have c1 := bR1.c1
    have f0 := bR1.frozen 0
    have f1 := bR1.frozen 1
    gi_wp2_with fail
    have b3 := (bR1.set0 (.int .i64 (m : Int))).set1 (.int .i64 (n : Int))
    have hK6 := (KeepsOthers.setCell _ ⟨w.heap.size + 1, 1, none⟩ (.int .i64 (n : Int))).same D _ ((KeepsOthers.setCell w5 ⟨w.heap.size + 1, 0, none⟩ (.int .i64 (m : Int))).same D _ hK5 rfl) rfl
    have d0 := (box2_shut b3 hK6).c0
    have d1 := (box2_shut b3 hK6).c1
    exact retM1 hK6 ⟨.agg #[.int .i64 (m : Int), .int .i64 (n : Int)], by simp [results, Try.f86, go_sem, d0, d1], ret_frac (by rw [E1.out]) (by rw [E2.out]), below_shut ((hB5.setCell (p := ⟨w.heap.size + 1, 0, none⟩) (by simp) _).setCell (p := ⟨w.heap.size + 1, 1, none⟩) (by simp) _) (by omega)⟩
  case stop =>
    rintro D c k W hD hk h
    exact h.elim

end Go.Proofs.Ytgndbifcncklgaa
