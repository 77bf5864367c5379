/-
  container/heap's down over the queue.
  Conditions: at most 1000 items.
-/
import Derived.Test.YtbhpflhopajbfaaQup
namespace Go.Proofs.Ytbhpflhopajbfaa
open Go.RowKit Go.Shelf
attribute [local go_sem] Oper.semAt_some mth_less mth_swap mth_len mth_push mth_pop

theorem grown_below {w wr w1 : World} {row : Option Nat} (hg : w.grownBy wr row) (hb1 : Below wr.heap.size wr w1) : w.grownBy w1 row :=
  ⟨hb1.os.trans hg.os, hb1.tape.trans hg.tape, hb1.output.trans hg.output, Nat.le_trans hg.size hb1.size, fun k hk hr => (hb1.block k (Nat.lt_of_lt_of_le hk hg.size)).trans (hg.block k hk hr)⟩
/-- where a round of down stands: the place i, the list -/
structure DnI (B b g cap n i : Nat) (qs qs1 : List Pend) (w wr : World) : Prop where
  len : qs1.length = qs.length
  down : HDown ahead (pat qs1) n i
  que : Que B b wr (.slice (some ⟨g, 0, none⟩) qs1.length cap) qs1
  bag : ∀ L D k, Bag (pat qs) n L D k → Bag (pat qs1) n L D k
  back : ∀ m, n ≤ m → pat qs1 m = pat qs m
  own : w.grownBy wr (some g)
theorem DnI.below {B b g cap n i : Nat} {qs qs1 : List Pend} {w wr w1 : World} (h : DnI B b g cap n i qs qs1 w wr) (hb : Below wr.heap.size wr w1) : DnI B b g cap n i qs qs1 w w1 :=
  ⟨h.len, h.down, h.que.later hb, h.bag, h.back, grown_below h.own hb⟩
theorem DnI.done {B b g cap n i : Nat} {qs qs1 : List Pend} {w wr : World} (h : DnI B b g cap n i qs qs1 w wr) (hh : IsHeap ahead (pat qs1) n) :
    ∃ qs', Que B b wr (.slice (some ⟨g, 0, none⟩) qs.length cap) qs' ∧ Mend qs qs' n ∧ w.grownBy wr (some g) := ⟨qs1, by rw [← h.len]; exact h.que, ⟨h.len, hh, h.bag, h.back⟩, h.own⟩
/-- a swap with the least of the places below -/
theorem DnI.step {B b g cap n i j : Nat} {qs qs1 : List Pend} {w wr w2 : World} (h : DnI B b g cap n i qs qs1 w wr) (hn : n ≤ qs.length) (hj : 0 < j) (hjn : j < n) (hp : hpar j = i) (hl : ahead (pat qs1 j) (pat qs1 i)) (hb : ∀ k, 0 < k → k < n → hpar k = i → ¬ ahead (pat qs1 k) (pat qs1 j))
    (hq : Que B b w2 (.slice (some ⟨g, 0, none⟩) qs1.length cap) (swpL qs1 i j)) (hg : wr.grownBy w2 (some g)) : DnI B b g cap n j qs (swpL qs1 i j) w w2 := by
  have hi : i < n := by have := hpar_lt hj; omega
  have hll := h.len
  have e := pat_swpL (qs := qs1) (i := i) (j := j) (by omega) (by omega)
  refine ⟨by rw [swpL_length]; exact h.len, ?_, by rw [swpL_length]; exact hq, fun L D k hb => ?_, fun m hm => ?_, grownBy_tr h.own hg⟩
  · rw [e]; exact h.down.step ordAhead hj hjn hp hl hb
  · rw [e]; exact (h.bag L D k hb).swp hi hjn
  · rw [e, swp_o _ (by omega) (by omega)]; exact h.back m hm

set_option maxRecDepth 100000 in
set_option maxHeartbeats 16000000 in
theorem down_c (B b g cap n : Nat) (qs : List Pend) (w : World) (h : Que B b w (.slice (some ⟨g, 0, none⟩) qs.length cap) qs) (hbB : b < B) (hn : n ≤ qs.length) (hl : qs.length ≤ 1000) (hu : HDown ahead (pat qs) n 0) :
    Calls Try.prog 196 #[qI b, .int .i64 0, .int .i64 n] w fun e w' => (∃ u, e = .returned u) ∧ ∃ qs', Que B b w' (.slice (some ⟨g, 0, none⟩) qs.length cap) qs' ∧ Mend qs qs' n ∧ w.grownBy w' (some g) := by
  have hbg : b ≠ g := fun e => by have := (h.own.blk g rfl).1; omega
  unfold qI
  go_enter Try.func196, Try.ntmps196
  go_wp2
  go_loopw [7] (fun x wr => ∃ (m : Nat) (qs1 : List Pend), x = .int .i64 m ∧ m ≤ n ∧ DnI B b g cap n m qs qs1 w wr) (fun x _ => n - (intOf x).toNat)
  case atStart => exact ⟨0, qs, rfl, Nat.zero_le _, rfl, hu, h, fun _ _ _ h => h, fun _ _ => rfl, ⟨rfl, rfl, rfl, Nat.le_refl _, fun _ _ _ => rfl⟩⟩
  case round =>
    obtain ⟨m, qs1, rfl, hm, hD⟩ := hrel
    have HD := Lib.hid hD
    have hl1 := hD.len
    obtain ⟨j1, hj1⟩ : ∃ j1 : Nat, 2 * m + 1 = j1 := ⟨_, rfl⟩
    have hw0 : IntKind.i64.wrap (2 * (m : Int)) = 2 * (m : Int) := by rw [IntKind.wrap_i64]; omega
    have hw1 : IntKind.i64.wrap (2 * (m : Int) + 1) = (j1 : Int) := by rw [IntKind.wrap_i64]; omega
    have hw2 : IntKind.i64.wrap ((j1 : Int) + 1) = ((j1 + 1 : Nat) : Int) := by rw [IntKind.wrap_i64]; omega
    have hpj : ∀ k, 0 < k → (hpar k = m ↔ k = j1 ∨ k = j1 + 1) := fun k hk => by rw [hpar_kid hk]; omega
    have Hpj := Lib.hid hpj
    have hnn : ¬ (j1 : Int) < 0 := by omega
    have hjm : m < j1 := by omega
    clear hD h hu hpj
    by_cases hge : n ≤ j1
    · have hge2 : (n : Int) ≤ (j1 : Int) := by omega
      have Hh := Lib.hid (HD.out.down.none (by omega))
      clear hj1
      go_wp2_with fail
      go_ret
      exact ⟨⟨_, rfl⟩, HD.out.done Hh.out⟩
    · have hge2 : ¬ (n : Int) ≤ (j1 : Int) := by omega
      clear hj1
      have HN := Lib.hid (fun (j : Nat) (h0 : 0 < j) (hb : ∀ k, 0 < k → k < n → hpar k = m → ¬ ahead (pat qs1 k) (pat qs1 j)) (hd : ¬ ahead (pat qs1 j) (pat qs1 m)) => HD.out.down.done fun k k1 k2 k3 => ordAhead.trans _ _ _ hd (hb k k1 k2 k3))
      have hrefl : ∀ x, ¬ ahead x x := fun x h => ordAhead.asymm _ _ h h
      by_cases h2 : j1 + 1 < n
      · have h2i : ((j1 + 1 : Nat) : Int) < (n : Int) := by omega
        have h2j : ((j1 : Int) + 1) < (n : Int) := by omega
        cases hc : aheadB (pat qs1 (j1 + 1)) (pat qs1 j1)
        · have Hc := Lib.hid hc
          have HL := Lib.hid (show (¬ ahead (pat qs1 j1) (pat qs1 m) → IsHeap ahead (pat qs1) n) ∧ (∀ k, 0 < k → k < n → hpar k = m → ¬ ahead (pat qs1 k) (pat qs1 j1)) from by
            have h9 : ∀ k, 0 < k → k < n → hpar k = m → ¬ ahead (pat qs1 k) (pat qs1 j1) := fun k k1 k2 k3 => by
              rcases (Hpj.out k k1).1 k3 with rfl | rfl
              · exact hrefl _
              · exact aheadB_false.1 hc
            exact ⟨HN.out j1 (by omega) h9, h9⟩)
          clear hc hrefl
          go_wp2_with fail
          refine (lessQ_c false B b _ qs1 (j1 + 1) j1 _ HD.out.que (by omega) (by omega) Hc.out).mono ?_
          rintro e w2 ⟨rfl, hb2⟩
          have DQ := Lib.hid (HD.out.below hb2)
          cases hd : aheadB (pat qs1 j1) (pat qs1 m)
          · have Hd := Lib.hid hd
            have Hh := Lib.hid (HL.out.1 (aheadB_false.1 hd))
            clear hd
            go_wp2_with fail
            refine (lessQ_c false B b _ qs1 (j1) m _ DQ.out.que (by omega) (by omega) Hd.out).mono ?_
            rintro e w3 ⟨rfl, hb3⟩
            go_wp2_with fail
            go_ret
            exact ⟨⟨_, rfl⟩, (DQ.out.below hb3).done Hh.out⟩
          · have Hd := Lib.hid hd
            have Ha := Lib.hid (aheadB_true.1 hd)
            clear hd
            go_wp2_with fail
            refine (lessQ_c true B b _ qs1 (j1) m _ DQ.out.que (by omega) (by omega) Hd.out).mono ?_
            rintro e w3 ⟨rfl, hb3⟩
            go_wp2_with fail
            refine (swapQ_c B b g cap qs1 m (j1) _ (DQ.out.below hb3).que (by omega) (by omega) hbg).mono ?_
            rintro e w4 ⟨⟨u, rfl⟩, hq4, hg4⟩
            have Dn := Lib.hid (DnI.step (DQ.out.below hb3) hn (by omega) (by omega) ((Hpj.out _ (by omega)).2 (by omega)) Ha.out HL.out.2 hq4 hg4)
            clear hq4 hg4
            go_wp2_with fail
            go_roundw
            case rel => exact ⟨j1, _, rfl, by omega, Dn.out⟩
            case measure => simp [intOf]; omega
          
        · have Hc := Lib.hid hc
          have HL := Lib.hid (show (¬ ahead (pat qs1 (j1 + 1)) (pat qs1 m) → IsHeap ahead (pat qs1) n) ∧ (∀ k, 0 < k → k < n → hpar k = m → ¬ ahead (pat qs1 k) (pat qs1 (j1 + 1))) from by
            have h9 : ∀ k, 0 < k → k < n → hpar k = m → ¬ ahead (pat qs1 k) (pat qs1 (j1 + 1)) := fun k k1 k2 k3 => by
              rcases (Hpj.out k k1).1 k3 with rfl | rfl
              · exact ordAhead.asymm _ _ (aheadB_true.1 hc)
              · exact hrefl _
            exact ⟨HN.out (j1 + 1) (by omega) h9, h9⟩)
          clear hc hrefl
          go_wp2_with fail
          refine (lessQ_c true B b _ qs1 (j1 + 1) j1 _ HD.out.que (by omega) (by omega) Hc.out).mono ?_
          rintro e w2 ⟨rfl, hb2⟩
          have DQ := Lib.hid (HD.out.below hb2)
          cases hd : aheadB (pat qs1 (j1 + 1)) (pat qs1 m)
          · have Hd := Lib.hid hd
            have Hh := Lib.hid (HL.out.1 (aheadB_false.1 hd))
            clear hd
            go_wp2_with fail
            refine (lessQ_c false B b _ qs1 (j1 + 1) m _ DQ.out.que (by omega) (by omega) Hd.out).mono ?_
            rintro e w3 ⟨rfl, hb3⟩
            go_wp2_with fail
            go_ret
            exact ⟨⟨_, rfl⟩, (DQ.out.below hb3).done Hh.out⟩
          · have Hd := Lib.hid hd
            have Ha := Lib.hid (aheadB_true.1 hd)
            clear hd
            go_wp2_with fail
            refine (lessQ_c true B b _ qs1 (j1 + 1) m _ DQ.out.que (by omega) (by omega) Hd.out).mono ?_
            rintro e w3 ⟨rfl, hb3⟩
            go_wp2_with fail
            refine (swapQ_c B b g cap qs1 m (j1 + 1) _ (DQ.out.below hb3).que (by omega) (by omega) hbg).mono ?_
            rintro e w4 ⟨⟨u, rfl⟩, hq4, hg4⟩
            have Dn := Lib.hid (DnI.step (DQ.out.below hb3) hn (by omega) (by omega) ((Hpj.out _ (by omega)).2 (by omega)) Ha.out HL.out.2 hq4 hg4)
            clear hq4 hg4
            go_wp2_with fail
            go_roundw
            case rel => exact ⟨j1 + 1, _, rfl, by omega, Dn.out⟩
            case measure => simp [intOf]; omega
          
      · have h2i : ¬ ((j1 + 1 : Nat) : Int) < (n : Int) := by omega
        have h2j : ¬ ((j1 : Int) + 1) < (n : Int) := by omega
        have HL := Lib.hid (show (¬ ahead (pat qs1 j1) (pat qs1 m) → IsHeap ahead (pat qs1) n) ∧ (∀ k, 0 < k → k < n → hpar k = m → ¬ ahead (pat qs1 k) (pat qs1 j1)) from by
          have h9 : ∀ k, 0 < k → k < n → hpar k = m → ¬ ahead (pat qs1 k) (pat qs1 j1) := fun k k1 k2 k3 => by
            rcases (Hpj.out k k1).1 k3 with rfl | rfl
            · exact hrefl _
            · omega
          exact ⟨HN.out j1 (by omega) h9, h9⟩)
        have DQ := Lib.hid HD.out
        clear hrefl
        cases hd : aheadB (pat qs1 j1) (pat qs1 m)
        · have Hd := Lib.hid hd
          have Hh := Lib.hid (HL.out.1 (aheadB_false.1 hd))
          clear hd
          go_wp2_with fail
          refine (lessQ_c false B b _ qs1 (j1) m _ DQ.out.que (by omega) (by omega) Hd.out).mono ?_
          rintro e w3 ⟨rfl, hb3⟩
          go_wp2_with fail
          go_ret
          exact ⟨⟨_, rfl⟩, (DQ.out.below hb3).done Hh.out⟩
        · have Hd := Lib.hid hd
          have Ha := Lib.hid (aheadB_true.1 hd)
          clear hd
          go_wp2_with fail
          refine (lessQ_c true B b _ qs1 (j1) m _ DQ.out.que (by omega) (by omega) Hd.out).mono ?_
          rintro e w3 ⟨rfl, hb3⟩
          go_wp2_with fail
          refine (swapQ_c B b g cap qs1 m (j1) _ (DQ.out.below hb3).que (by omega) (by omega) hbg).mono ?_
          rintro e w4 ⟨⟨u, rfl⟩, hq4, hg4⟩
          have Dn := Lib.hid (DnI.step (DQ.out.below hb3) hn (by omega) (by omega) ((Hpj.out _ (by omega)).2 (by omega)) Ha.out HL.out.2 hq4 hg4)
          clear hq4 hg4
          go_wp2_with fail
          go_roundw
          case rel => exact ⟨j1, _, rfl, by omega, Dn.out⟩
          case measure => simp [intOf]; omega
        

end Go.Proofs.Ytbhpflhopajbfaa
