/-
  The queue's method Pop, and container/heap's Pop.
  Conditions: at most 1000 items.
-/
import Derived.Test.YtbhpflhopajbfaaQdn
namespace Go.Proofs.Ytbhpflhopajbfaa
open Go.RowKit Go.Shelf
attribute [local go_sem] Oper.semAt_some mth_less mth_swap mth_len mth_push mth_pop

theorem flP_take (qs : List Pend) (n : Nat) : (flP qs).take (n * 3) = flP (qs.take n) := by
  induction qs generalizing n with
  | nil => simp [flP]
  | cons x xs ih =>
    cases n with
    | zero => simp [flP]
    | succ n => rw [List.take_succ_cons, flP_cons, flP_cons, ← ih n, show (n + 1) * 3 = n * 3 + 3 by omega]; rfl
theorem OwnP.front {B g n m cap : Nat} {W : World} {qs : List Pend} (h : OwnP B W (.slice (some ⟨g, 0, none⟩) m cap) qs) (hn : n ≤ qs.length) : OwnP B W (.slice (some ⟨g, 0, none⟩) n cap) (qs.take n) := by
  obtain ⟨h1, h2⟩ := h
  rcases h2 with ⟨h0, _⟩ | ⟨g2, cap2, cur, e2, hbg, hg, hnc, hcm, hcs, htake⟩
  · cases h0
  · cases e2
    refine ⟨flP_length _, .inr ⟨g, cap, cur, by rw [List.length_take, Nat.min_eq_left hn], hbg, hg, by rw [List.length_take, Nat.min_eq_left hn]; omega, hcm, hcs, ?_⟩⟩
    rw [List.length_take, Nat.min_eq_left hn]
    have := congrArg (List.take (n * 3)) htake
    rw [List.take_take, show min (n * 3) (qs.length * 3) = n * 3 by omega] at this
    rw [this, flP_take]

set_option maxRecDepth 100000 in
set_option maxHeartbeats 8000000 in
theorem popQ_c (B b g cap n : Nat) (qs : List Pend) (w : World) (h : Que B b w (.slice (some ⟨g, 0, none⟩) (n + 1) cap) qs) (hn : qs.length = n + 1) (hbB : b < B) (hl : qs.length ≤ 1000) :
    Calls Try.prog 217 #[.pointer (some ⟨b, 0, none⟩)] w fun e w' => (∃ u, e = .returned u) ∧ Que B b w' (.slice (some ⟨g, 0, none⟩) n cap) (qs.take n) ∧ QMv b (.slice (some ⟨g, 0, none⟩) (n + 1) cap) (.slice (some ⟨g, 0, none⟩) n cap) w w' := by
  have hb := h.box.lt
  have hgB := h.own.blk g rfl
  have c0 := h.box.c0
  have f0 := h.box.frozen 0
  have x0 := h.own.cellAt (k := n) (i := 0) (by omega) (by omega)
  have x1 := h.own.cellAt (k := n) (i := 1) (by omega) (by omega)
  have x2 := h.own.cellAt (k := n) (i := 2) (by omega) (by omega)
  simp only [pC, List.getElem?_cons_zero, List.getElem?_cons_succ, Nat.add_zero] at x0 x1 x2
  have hw0 : IntKind.i64.wrap (((n + 1 : Nat) : Int) - 1) = (n : Int) := by rw [IntKind.wrap_i64]; omega
  have hcap : n + 1 ≤ cap := by
    obtain ⟨_, h2⟩ := h.own
    rcases h2 with ⟨h0, _⟩ | ⟨g2, cap2, cur, e2, hbg, hg, hnc, hcm, hcs, htake⟩
    · cases h0
    · simp only [Value.slice.injEq] at e2
      obtain ⟨_, _, rfl⟩ := e2
      omega
  have hcapi : (n : Int) ≤ (cap : Int) := by omega
  have hni : (n : Int) < ((n + 1 : Nat) : Int) := by omega
  have hni2 : (n : Int) < ((n : Int) + 1) := by omega
  have H := Lib.hid h
  clear h
  go_enter Try.func217, Try.ntmps217
  go_wp2_with fail
  go_ret
  have hm : QMv b (.slice (some ⟨g, 0, none⟩) (n + 1) cap) (.slice (some ⟨g, 0, none⟩) (n + 1) cap) w ((w.setCell ⟨b, 0, none⟩ (.slice (some ⟨g, 0, none⟩) n cap)).alloc (.cells #[.int .i64 (pat qs n).task, .int .i64 (pat qs n).due, .int .i64 (pat qs n).left] 177)) :=
    (QMv.setBox (b := b) (j := 0) w _).trans (QMv.of_below ((Below.refl _ _).alloc (Nat.le_refl _) _))
  refine ⟨⟨_, rfl⟩, ⟨(H.out.box.set0 _).alloc _, ?_⟩, hm.os, hm.tape, hm.output, hm.size, hm.same, .inl rfl⟩
  have h1 := H.out.own.front (n := n) (by omega)
  have hne9 : (Value.slice (some ⟨g, 0, none⟩) n cap).ownBlock ≠ some b := fun e => absurd (show g = b by simpa [Value.ownBlock] using e) (by omega)
  have h2 := h1.kept (grownBy_setC w b 0 (.slice (some ⟨g, 0, none⟩) n cap)) (.inr hne9)
  exact h2.later ((Below.refl _ _).alloc (Nat.le_refl _) _)

set_option maxRecDepth 100000 in
set_option maxHeartbeats 8000000 in
theorem hPop_c (B b g cap n : Nat) (qs : List Pend) (w : World) (h : Que B b w (.slice (some ⟨g, 0, none⟩) qs.length cap) qs) (hn : qs.length = n + 1) (hbB : b < B) (hl : qs.length ≤ 1000) (hd : HDown ahead (pat (swpL qs 0 n)) n 0) :
    Calls Try.prog 192 #[qI b] w fun e w' => (∃ u, e = .returned u) ∧ ∃ v' qs', Que B b w' v' (qs'.take n) ∧ Mend (swpL qs 0 n) qs' n ∧ QMv b (.slice (some ⟨g, 0, none⟩) qs.length cap) v' w w' := by
  have hbg : b ≠ g := fun e => by have := (h.own.blk g rfl).1; omega
  have hw0 : IntKind.i64.wrap ((qs.length : Int) - 1) = (n : Int) := by rw [IntKind.wrap_i64]; omega
  unfold qI
  go_enter Try.func192, Try.ntmps192
  go_wp2_with fail
  refine (len_c B b _ qs w h).mono ?_
  rintro e w2 ⟨rfl, rfl⟩
  go_wp2_with fail
  refine (swapQ_c B b g cap qs 0 n w h (by omega) (by omega) hbg).mono ?_
  rintro e w3 ⟨⟨u, rfl⟩, hq3, hg3⟩
  go_wp2_with fail
  have hsl := swpL_length qs 0 n
  refine (down_c B b g cap n (swpL qs 0 n) w3 (by rw [hsl]; exact hq3) hbB (by omega) (by omega) hd).mono ?_
  rintro e w4 ⟨⟨u4, rfl⟩, qs4, hq4, hm4, hg4⟩
  have hl4 := hm4.len
  rw [hsl] at hq4 hl4
  clear hsl
  go_wp2_with fail
  refine (popQ_c B b g cap n qs4 w4 (by rw [← hn]; exact hq4) (by omega) hbB (by omega)).mono ?_
  rintro e w5 ⟨⟨u5, rfl⟩, hq5, hm5⟩
  rw [← hn] at hm5
  go_wp2_with fail
  go_ret
  exact ⟨⟨_, rfl⟩, _, qs4, hq5, hm4, (QMv.grown (grownBy_tr hg3 hg4) (.inl rfl)).trans hm5⟩

end Go.Proofs.Ytbhpflhopajbfaa
