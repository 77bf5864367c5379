/-
  container/heap's up and Push over the queue.
  Conditions: at most 1000 items.
-/
import Derived.Test.YtbhpflhopajbfaaQmt
namespace Go.Proofs.Ytbhpflhopajbfaa
open Go.RowKit Go.Shelf
attribute [local go_sem] Oper.semAt_some mth_less mth_swap mth_len mth_push mth_pop

/-- the queue as heap.Interface -/
def qI (b : Nat) : Value := .iface 166 (.pointer (some ⟨b, 0, none⟩))
theorem Que.own_ne {B b : Nat} {W : World} {v : Value} {qs : List Pend} (h : Que B b W v qs) (hb : b < B) : v.ownBlock ≠ some b := fun e => by have := (h.own.blk b e).1; omega

theorem swp_comm {α : Type} (f : Nat → α) (i j : Nat) : swp f i j = swp f j i := by
  funext k
  unfold swp
  by_cases h1 : k = i <;> by_cases h2 : k = j <;> simp_all

set_option maxRecDepth 100000 in
set_option maxHeartbeats 8000000 in
theorem up_c (B b g cap : Nat) (qs : List Pend) (j : Nat) (w : World) (h : Que B b w (.slice (some ⟨g, 0, none⟩) qs.length cap) qs) (hbB : b < B) (hj : j < qs.length) (hl : qs.length ≤ 1000) (hu : HUp ahead (pat qs) qs.length j) :
    Calls Try.prog 195 #[qI b, .int .i64 j] w fun e w' => (∃ u, e = .returned u) ∧ ∃ qs', Que B b w' (.slice (some ⟨g, 0, none⟩) qs.length cap) qs' ∧ Mend qs qs' qs.length ∧ w.grownBy w' (some g) := by
  have hbg : b ≠ g := fun e => by have := (h.own.blk g rfl).1; omega
  unfold qI
  go_enter Try.func195, Try.ntmps195
  go_wp2
  go_loopw [1] (fun x wr => ∃ (m : Nat) (qs1 : List Pend), x = .int .i64 m ∧ m < qs.length ∧ qs1.length = qs.length ∧ HUp ahead (pat qs1) qs.length m ∧ Que B b wr (.slice (some ⟨g, 0, none⟩) qs.length cap) qs1 ∧ (∀ L D k, Bag (pat qs) qs.length L D k → Bag (pat qs1) qs.length L D k) ∧ (∀ i, qs.length ≤ i → pat qs1 i = pat qs i) ∧ w.grownBy wr (some g)) (fun x _ => (intOf x).toNat)
  case atStart => exact ⟨j, qs, rfl, hj, rfl, hu, h, fun _ _ _ h => h, fun _ _ => rfl, ⟨rfl, rfl, rfl, Nat.le_refl _, fun _ _ _ => rfl⟩⟩
  case round =>
    obtain ⟨m, qs1, rfl, hm, hl1, hu1, hq, hbag, hbk, hg⟩ := hrel
    have Hq := Lib.hid (show Que B b wr (.slice (some ⟨g, 0, none⟩) qs1.length cap) qs1 by rw [hl1]; exact hq)
    clear hq
    have hw0 : IntKind.i64.wrap ((m : Int) - 1) = (m : Int) - 1 := by rw [IntKind.wrap_i64]; omega
    by_cases hm0 : m = 0
    · have hw1 : Int.tdiv ((m : Int) - 1) 2 = (m : Int) := by subst hm0; rfl
      have hw2 : IntKind.i64.wrap (m : Int) = (m : Int) := by rw [IntKind.wrap_i64]; omega
      go_wp2_with fail
      go_end0
      exact ⟨⟨_, rfl⟩, qs1, hl1 ▸ Hq.out, ⟨hl1, (hm0 ▸ hu1).done_root, hbag, hbk⟩, hg⟩
    · obtain ⟨q, hq⟩ : ∃ q : Nat, hpar m = q := ⟨_, rfl⟩
      have hw1 : Int.tdiv ((m : Int) - 1) 2 = (q : Int) := by
        subst hq; unfold hpar
        rw [Int.tdiv_eq_ediv_of_nonneg (by omega)]; omega
      have hw2 : IntKind.i64.wrap (q : Int) = (q : Int) := by
        have : q < m := by subst hq; exact hpar_lt (by omega)
        rw [IntKind.wrap_i64]; omega
      have hqm : q < m := by subst hq; exact hpar_lt (by omega)
      have hne : ¬ (q : Int) = (m : Int) := by omega
      have Hpq := Lib.hid hq
      clear hq
      cases hd : aheadB (pat qs1 m) (pat qs1 q)
      · have hnd : ¬ ahead (pat qs1 m) (pat qs1 (hpar m)) := by rw [Hpq.out]; exact aheadB_false.1 hd
        have Hd := Lib.hid hd
        have Hu := Lib.hid (hu1.done hnd)
        clear hd hnd hu1
        go_wp2_with fail
        refine (lessQ_c false B b _ qs1 m q _ Hq.out (by omega) (by omega) Hd.out).mono ?_
        rintro e w1 ⟨rfl, hb1⟩
        go_wp2_with fail
        go_end0
        exact ⟨⟨_, rfl⟩, qs1, (hl1 ▸ Hq.out).later hb1, ⟨hl1, Hu.out, hbag, hbk⟩, ⟨hb1.os.trans hg.os, hb1.tape.trans hg.tape, hb1.output.trans hg.output, Nat.le_trans hg.size hb1.size, fun k hk hr => (hb1.block k (Nat.lt_of_lt_of_le hk hg.size)).trans (hg.block k hk hr)⟩⟩
      · have hnd : ahead (pat qs1 m) (pat qs1 (hpar m)) := by rw [Hpq.out]; exact aheadB_true.1 hd
        have Hd := Lib.hid hd
        have hs := hu1.step ordAhead (by omega) hm hnd
        rw [Hpq.out, swp_comm, ← pat_swpL (by omega) (by omega)] at hs
        have Hs := Lib.hid hs
        have hm9 : m < qs1.length := by omega
        clear hd hnd hu1 hs
        go_wp2_with fail
        refine (lessQ_c true B b _ qs1 m q _ Hq.out (by omega) (by omega) Hd.out).mono ?_
        rintro e w1 ⟨rfl, hb1⟩
        go_wp2_with fail
        refine (swapQ_c B b g cap qs1 q m _ (Hq.out.later hb1) (by omega) hm9 hbg).mono ?_
        rintro e w2 ⟨⟨u, rfl⟩, hq2, hg2⟩
        have hg3 := grownBy_tr ⟨hb1.os.trans hg.os, hb1.tape.trans hg.tape, hb1.output.trans hg.output, Nat.le_trans hg.size hb1.size, fun k hk hr => (hb1.block k (Nat.lt_of_lt_of_le hk hg.size)).trans (hg.block k hk hr)⟩ hg2
        go_wp2_with fail
        go_roundw
        case rel =>
          refine ⟨q, swpL qs1 q m, rfl, by omega, by rw [swpL_length, hl1], Hs.out, by rw [← hl1]; exact hq2, fun L D k hb => ?_, fun i hi => ?_, hg3⟩
          · rw [pat_swpL (by omega) hm9]; exact (hbag L D k hb).swp (by omega) hm
          · rw [pat_swpL (by omega) hm9, swp_o _ (by omega) (by omega)]; exact hbk i hi
        case measure => simp [intOf]; omega

set_option maxRecDepth 100000 in
set_option maxHeartbeats 8000000 in
theorem hPush_c (B b : Nat) (v : Value) (qs : List Pend) (x : Pend) (w : World) (h : Que B b w v qs) (hbB : b < B) (hB : B ≤ w.heap.size) (hl : qs.length ≤ 999) (hh : IsHeap ahead (pat qs) qs.length) :
    Calls Try.prog 191 #[qI b, pI x] w fun e w' => (∃ u, e = .returned u) ∧ ∃ v' qs', Que B b w' v' qs' ∧ Mend (qs ++ [x]) qs' (qs.length + 1) ∧ QMv b v v' w w' := by
  unfold qI
  go_enter Try.func191, Try.ntmps191
  go_wp2_with fail
  refine (pushQ_c B b v qs x w h (h.own_ne hbB) hB (by omega)).mono ?_
  rintro e w1 ⟨⟨u, rfl⟩, v1, hq1, hm1⟩
  have hq2 := hq1
  obtain ⟨g, cap, rfl, _, _⟩ := hq1.own.shape (by simp)
  have hlen : (qs ++ [x]).length = qs.length + 1 := by simp
  have Hlen := Lib.hid hlen
  rw [hlen] at hq1 hm1
  clear hlen h hq2
  go_wp2_with fail
  refine (len_c B b _ (qs ++ [x]) w1 hq1).mono ?_
  rintro e w2 ⟨rfl, rfl⟩
  have hw0 : IntKind.i64.wrap (((qs ++ [x]).length : Int) - 1) = (qs.length : Int) := by rw [Hlen.out, IntKind.wrap_i64]; omega
  have hh2 : IsHeap ahead (pat (qs ++ [x])) qs.length := hh.congr fun j hj => by rw [pat_app hj]; exact ⟨rfl, rfl⟩
  go_wp2_with fail
  refine (up_c B b g cap (qs ++ [x]) qs.length w1 (by rw [Hlen.out]; exact hq1) hbB (by rw [Hlen.out]; omega) (by rw [Hlen.out]; omega) (by rw [Hlen.out]; exact HUp.push hh2)).mono ?_
  rintro e w3 ⟨⟨u3, rfl⟩, qs3, hq3, hmd, hg3⟩
  rw [Hlen.out] at hq3 hmd
  go_wp2_with fail
  go_end0
  exact ⟨⟨_, rfl⟩, _, qs3, hq3, hmd, hm1.trans (QMv.grown hg3 (.inl rfl))⟩

end Go.Proofs.Ytbhpflhopajbfaa
