/-
  giveSlot: who is first in the queue has a slot.
  Conditions: jobs.
-/
import Derived.Test.YtbhpflhopajbfaaQlc
namespace Go.Proofs.Ytbhpflhopajbfaa
open Go.RowKit Go.Shelf
attribute [local go_sem] Oper.semAt_some mth_less mth_swap mth_len mth_push mth_pop

theorem comeL_bd {ls ps ds : List Int} (hP : JobsP ls ps ds) {L : Nat → Int} (h : ∀ i, i < ls.length → L i ≤ 20) (s : Int) : ∀ i, i < ls.length → comeL (nth ps) (nth ls) L s i ≤ 20 := fun i hi => by
  unfold comeL
  split
  · exact (hP.l i hi).2
  · exact h i hi
theorem edS_bd {ls ps ds : List Int} (hP : JobsP ls ps ds) (s : Nat) : ∀ i, i < ls.length → (edS ls ps ds s).1 i ≤ 20 := by
  induction s with
  | zero => intro i _; simp [edS]
  | succ s ih =>
    intro i hi
    have hc := comeL_bd hP ih (s : Int)
    simp only [edS]
    split
    · exact hc i hi
    · unfold upd
      split
      · rename_i e
        have := hc i hi
        rw [e] at this
        omega
      · exact hc i hi
theorem flP_set0 (qs : List Pend) (x : Int) (h : 0 < qs.length) : (flP qs).set 2 (.int .i64 x) = flP (qs.set 0 ⟨(pat qs 0).task, (pat qs 0).due, x⟩) := by
  cases qs with
  | nil => simp at h
  | cons y ys => rw [List.set_cons_zero, flP_cons, flP_cons]; simp [pat]

set_option maxRecDepth 100000 in
set_option maxHeartbeats 16000000 in
theorem giveSlot_c (B b : Nat) (v : Value) (qs qs0 : List Pend) (ls ps ds : List Int) (s : Nat) (w : World) (ht : jobsOk ls ps ds = true)
    (hq : Que B b w v qs) (h : QAll ls ps ds qs s) (h0 : QAt ls ps ds qs0 s) (hlate : edLate ls ps ds s = -1) (hbB : b < B) :
    Calls Try.prog 174 #[.pointer (some ⟨b, 0, none⟩)] w fun e w' => e = .returned (.int .i64 (edB ls ps ds s)) ∧ ∃ v' qs', Que B b w' v' qs' ∧ QAt ls ps ds qs' (s + 1) ∧ QMv b v v' w w' := by
  have hP := jobsP ht
  have h8 := hP.len8
  have hlen := h.bag.len
  by_cases hz : qs.length = 0
  · have He := Lib.hid (h.idle hz)
    have Hn := Lib.hid (h.idleNext hP h0 hlate hz)
    clear h h0 hlate hP
    go_enter Try.func174, Try.ntmps174
    go_wp2_with fail
    refine (len_c B b v qs w hq).mono ?_
    rintro e w2 ⟨rfl, rfl⟩
    rw [hz]
    go_wp2_with fail
    go_ret
    exact ⟨ret_int He.out.symm, v, qs, hq, Hn.out, QMv.refl _ _ _⟩
  · obtain ⟨g, cap, rfl, hg1, hg2⟩ := hq.own.shape (by omega)
    obtain ⟨i, hi, e1, e2, e3, e4, e5⟩ := h.first (by omega)
    have hl20 : (pat qs 0).left ≤ 20 := by rw [e4]; exact comeL_bd hP (edS_bd hP s) _ i hi
    have He := Lib.hid e1
    have c0 := hq.box.c0
    have hbl := hq.box.lt
    have x0 := hq.own.cellAt (k := 0) (i := 0) (by omega) (by omega)
    have x2 := hq.own.cellAt (k := 0) (i := 2) (by omega) (by omega)
    have f2 := hq.own.frozen 2
    simp only [pC, List.getElem?_cons_zero, List.getElem?_cons_succ, Nat.add_zero, Nat.zero_mul, Nat.zero_add] at x0 x2
    have hw1 : IntKind.i64.wrap ((pat qs 0).left - 1) = (pat qs 0).left - 1 := by rw [IntKind.wrap_i64]; omega
    have hn0 : ¬ (qs.length : Int) = 0 := by omega
    have hn1 : (0 : Int) < (qs.length : Int) := by omega
    -- the queue behind the store
    obtain ⟨r1, r2⟩ := World.ownsRow.stored hq.own 2 (.int .i64 ((pat qs 0).left - 1))
    rw [flP_set0 _ _ (by omega)] at r1
    have hsl : (qs.set 0 ⟨(pat qs 0).task, (pat qs 0).due, (pat qs 0).left - 1⟩).length = qs.length := by simp
    have hbg : b ≠ g := by omega
    have hq1 : Que B b (w.setCell ⟨g, 2, none⟩ (.int .i64 ((pat qs 0).left - 1))) (.slice (some ⟨g, 0, none⟩) (qs.set 0 ⟨(pat qs 0).task, (pat qs 0).due, (pat qs 0).left - 1⟩).length cap) (qs.set 0 ⟨(pat qs 0).task, (pat qs 0).due, (pat qs 0).left - 1⟩) := ⟨hq.box.other hbg _ |> fun h => by rw [hsl]; exact h, by unfold OwnP; rw [hsl]; exact r1⟩
    have HQ := Lib.hid hq
    have HQ1 := Lib.hid hq1
    have HM := Lib.hid (show QMv b (.slice (some ⟨g, 0, none⟩) qs.length cap) (.slice (some ⟨g, 0, none⟩) qs.length cap) w (w.setCell ⟨g, 2, none⟩ (.int .i64 ((pat qs 0).left - 1))) from QMv.grown r2 (.inl rfl))
    clear r1 r2 hq1 hq e4 e5
    by_cases hl : (pat qs 0).left - 1 = 0
    · obtain ⟨n, hn⟩ : ∃ n, qs.length = n + 1 := ⟨qs.length - 1, by omega⟩
      have hd1 := h.down hn ((pat qs 0).left - 1)
      have hp1 := fun qs' hm => h.pop (qs' := qs') hP h0 hlate hn hl hm
      have hq1 := HQ1.out
      have hm1 := HM.out
      rw [hl] at hd1 hp1 hq1 hm1 hsl
      have Hd := Lib.hid hd1
      have Hp := Lib.hid hp1
      have Hq1 := Lib.hid hq1
      have Hm1 := Lib.hid hm1
      have HN := Lib.hid hn
      clear h h0 hlate hP hn hd1 hp1 hq1 hm1 HQ1 HM
      go_enter Try.func174, Try.ntmps174
      go_wp2_with fail
      refine (len_c B b _ qs w HQ.out).mono ?_
      rintro e w2 ⟨rfl, rfl⟩
      go_wp2_with fail
      refine (hPop_c B b g cap n (qs.set 0 ⟨(pat qs 0).task, (pat qs 0).due, 0⟩) _ Hq1.out (by rw [hsl]; exact HN.out) hbB (by omega) Hd.out).mono ?_
      rintro e w3 ⟨⟨u, rfl⟩, v3, qs3, hq3, hm3, hmv⟩
      have Hq3 := Lib.hid hq3
      have Hqa := Lib.hid (Hp.out qs3 hm3)
      have Hmv := Lib.hid (Hm1.out.trans (by rw [hsl] at hmv; exact hmv))
      clear hq3 hm3 hmv
      go_wp2_with fail
      go_ret
      exact ⟨ret_int He.out.symm, _, _, Hq3.out, Hqa.out, Hmv.out⟩
    · have Hn := Lib.hid (h.give hP h0 hlate (by omega) hl)
      clear h h0 hlate hP
      go_enter Try.func174, Try.ntmps174
      go_wp2_with fail
      refine (len_c B b _ qs w HQ.out).mono ?_
      rintro e w2 ⟨rfl, rfl⟩
      go_wp2_with fail
      go_ret
      exact ⟨ret_int He.out.symm, _, _, HQ1.out, Hn.out, by rw [hsl]; exact HM.out⟩

end Go.Proofs.Ytbhpflhopajbfaa
