/-
  slotsByDeadlines: the iterator over the slots by deadlines.
  Conditions: jobs with a whole period of at most 240.
-/
import Derived.Test.YtbhpflhopajbfaaQrg
import Derived.Test.YtbhpflhopajbfaaSrt
namespace Go.Proofs.Ytbhpflhopajbfaa
open Go.RowKit Go.Shelf
attribute [local go_sem] Oper.semAt_some mth_less mth_swap mth_len mth_push mth_pop

theorem lt_edN {ls ps ds : List Int} {n k : Nat} (hk : k < n) (h : ∀ j, j ≤ k → edLate ls ps ds j < 0) : k < edN ls ps ds n := by
  rcases Nat.lt_or_ge k (edN ls ps ds n) with h1 | h1
  · exact h1
  · rcases edN_stop ls ps ds n with h2 | h2
    · omega
    · have := h _ h1; omega
/-- what the queue tells at the end: who is late -/
def QEnd (ls ps ds : List Int) (n : Nat) (qs : List Pend) : Prop := edLate ls ps ds (edN ls ps ds n) = if 0 < qs.length then (pat qs 0).task else -1

theorem slotsByDeadlines_c (u v x : Value) (n : Int) (p : Option Addr) (w : World) :
    Calls Try.prog 139 #[.agg #[u, v, x], .int .i64 n, .pointer p] w fun e w' =>
      e = .returned (.func (.func 172) #[] #[.pointer (some ⟨w.heap.size + 1, 0, none⟩), .pointer (some ⟨w.heap.size + 1 + 1, 0, none⟩), .pointer (some ⟨w.heap.size, 0, none⟩)]) ∧
      w' = ((w.alloc (.cells #[u, v, x] 37)).alloc (.cells #[.int .i64 n] 2)).alloc (.cells #[.pointer p] 166) := by
  go_enter Try.func139, Try.ntmps139
  go_wp2
  go_ret
  exact ⟨rfl, rfl⟩

/-- what stands while the iterator runs: its variables, the jobs -/
structure ItE (n₀ bj bn bw b : Nat) (n : Nat) (cl cp cd : Value) (ls ps ds : List Int) (W : World) : Prop where
  jb : Box3 W bj 37 cl cp cd
  nb : Boxed W bn 2 (.int .i64 n)
  wb : Boxed W bw 166 (.pointer (some ⟨b, 0, none⟩))
  js : Jobs3 n₀ W cl cp cd ls ps ds
theorem ItE.kept {n₀ bj bn bw b n : Nat} {cl cp cd : Value} {ls ps ds : List Int} {A X : World} (h : ItE n₀ bj bn bw b n cl cp cd ls ps ds A) {S : Nat → Prop} (hk : Kps S A X) (h1 : ∀ j, j < n₀ → S j) (h2 : S bj) (h3 : S bn) (h4 : S bw) : ItE n₀ bj bn bw b n cl cp cd ls ps ds X :=
  ⟨hk.some h2 h.jb, hk.some h3 h.nb, hk.some h4 h.wb, ⟨h.js.l.kps hk h1, h.js.p.kps hk h1, h.js.d.kps hk h1⟩⟩
/-- moves of the queue leave it -/
theorem ItE.moved {n₀ bj bn bw b n B : Nat} {cl cp cd v v' : Value} {ls ps ds : List Int} {qs : List Pend} {A X : World} (h : ItE n₀ bj bn bw b n cl cp cd ls ps ds A) (hq : Que B b A v qs) (hm : QMv b v v' A X) (hn : n₀ ≤ b) (hbB : b < B) (h1 : bj ≠ b) (h2 : bn ≠ b) (h3 : bw ≠ b) : ItE n₀ bj bn bw b n cl cp cd ls ps ds X := by
  have hk : Kps (fun j => j < n₀) A X := ⟨hm.size, fun j hj hl => hm.same j hl (by omega) fun e => by have := (hq.own.blk j e).1; omega⟩
  exact ⟨hq.boxKept hm h.jb h1 (by decide), hq.boxKept hm h.nb h2 (by decide), hq.boxKept hm h.wb h3 (by decide), ⟨h.js.l.kps hk (fun _ h => h), h.js.p.kps hk (fun _ h => h), h.js.d.kps hk (fun _ h => h)⟩⟩
theorem Que.kept {B b : Nat} {A X : World} {v : Value} {qs : List Pend} (h : Que B b A v qs) {Keep : Nat → Prop} (hk : Kps (KeepQ Keep b v) A X) : Que B b X v qs :=
  ⟨hk.some (.inr (.inl rfl)) h.box, h.own.of_block fun j hj => hk.same j (.inr (.inr hj)) (h.own.blk j hj).2⟩

/-- where a round of the iterator stands -/
structure ItR (n₀ bj bn bw b B n k : Nat) (cl cp cd : Value) (ls ps ds : List Int) (J : Nat → World → Prop) (W wr : World) : Prop where
  que : ∃ v qs, Que B b wr v qs ∧ QAt ls ps ds qs k
  late : ∀ j, j < k → edLate ls ps ds j < 0
  env : ItE n₀ bj bn bw b n cl cp cd ls ps ds wr
  inv : J k wr
  size : W.heap.size ≤ wr.heap.size

set_option maxRecDepth 100000 in
set_option maxHeartbeats 16000000 in
theorem slotsBy_at (n₀ bj bn bw b B : Nat) (cl cp cd : Value) (ls ps ds : List Int) (ht : jobsOk ls ps ds = true) (n : Nat) (hn : n ≤ 240) (hnw : ∀ i, i < ls.length → (n : Int) % nth ps i = 0) (w : World)
    (hE : ItE n₀ bj bn bw b n cl cp cd ls ps ds w) (hq : Que B b w (.slice none 0 0) []) (hn0 : n₀ ≤ b) (hbB : b < B) (hBw : B ≤ w.heap.size) (e1 : bj ≠ b) (e2 : bn ≠ b) (e3 : bw ≠ b) :
    SeqQ Fence.wide 8 Try.prog 172 #[.pointer (some ⟨bn, 0, none⟩), .pointer (some ⟨bw, 0, none⟩), .pointer (some ⟨bj, 0, none⟩)] (valAt (edTo ls ps ds (edN ls ps ds n))) (fun j => j < n₀ ∨ j = bj ∨ j = bn ∨ j = bw) B b (edN ls ps ds n) (QEnd ls ps ds n) w := fun l J Jx W hW hJm hY h0 => by
  have hs0 := hW.size
  have hEW : ItE n₀ bj bn bw b n cl cp cd ls ps ds W := hE.kept (S := fun _ => True) (Kps.below hW) (fun _ _ => trivial) trivial trivial trivial
  have HR := Lib.hid (show ItR n₀ bj bn bw b B n 0 cl cp cd ls ps ds J W W from ⟨⟨_, _, hq.later hW, qAt_zero ls ps ds⟩, fun j hj => by omega, hEW, h0, Nat.le_refl _⟩)
  have HP := Lib.hid (jobsP ht)
  have Ht := Lib.hid ht
  have HY := Lib.hid hY
  have HJ := Lib.hid hJm
  have cn := hEW.nb.cell
  clear hE hq hEW h0 ht hY hJm hW
  refine callsIn_of_wp Try.func172 rfl trivial ?_ rfl
  simp only [Try.ntmps172, List.size_toArray, List.length_cons, List.length_nil, Nat.reduceAdd, Nat.reduceSub, Array.replicate_succ, Array.replicate_zero, List.push_toArray, List.append_toArray, List.nil_append, List.cons_append]
  gi_wp2
  gi_loopw [7] (fun i wr => ∃ k : Nat, k ≤ n ∧ i = .int .i64 k ∧ ItR n₀ bj bn bw b B n k cl cp cd ls ps ds J W wr) (fun i _ => n - (intOf i).toNat)
  case atStart => exact ⟨0, Nat.zero_le _, rfl, HR.out⟩
  case round =>
    clear HR cn
    obtain ⟨k, hk, rfl, hR⟩ := hrel
    have HR := Lib.hid hR
    obtain ⟨⟨v, qs, hq, hqa⟩, hlt0, hE, hJk, hsz⟩ := hR
    have HQ := Lib.hid hq
    have HA := Lib.hid hqa
    have HE := Lib.hid hE
    have HL := Lib.hid hlt0
    have HJk := Lib.hid hJk
    have cj0 := hE.jb.c0
    have cj1 := hE.jb.c1
    have cj2 := hE.jb.c2
    have cw := hE.wb.cell
    have hq0 := hq.box.c0
    clear hq hqa hE hlt0 hJk
    by_cases hlt : k < n
    · by_cases hlate : 0 ≤ edLate ls ps ds k
      · have hex : 0 < qs.length ∧ (pat qs 0).due ≤ (k : Int) := by
          rcases Classical.em (0 < qs.length ∧ (pat qs 0).due ≤ (k : Int)) with h | h
          · exact h
          · have := HA.out.notLate fun h1 h2 => h ⟨h1, h2⟩
            omega
        obtain ⟨hpos, hdue⟩ := hex
        have Hl := Lib.hid (HA.out.late hpos hdue)
        have Hend := Lib.hid (edN_eq (ls := ls) (ps := ps) (ds := ds) (Nat.le_of_lt hlt) HL.out (.inr hlate))
        obtain ⟨g, cap, rfl, _, _⟩ := HQ.out.own.shape hpos
        have x1 := HQ.out.own.cellAt (k := 0) (i := 1) (by omega) (by omega)
        simp only [pC, List.getElem?_cons_zero, List.getElem?_cons_succ, Nat.zero_mul, Nat.zero_add] at x1
        have hposi : (0 : Int) < (qs.length : Int) := by omega
        gi_wp2_with fail
        refine ⟨trivial, (callsIn_wide.2 (len_c B b _ qs _ HQ.out)).mono ?_⟩
        rintro e w2 ⟨rfl, rfl⟩
        gi_wp2_with fail
        refine bodyPost_ret (results_none rfl _ _ _) rfl ?_
        refine ⟨⟨_, rfl⟩, .inl ⟨by rw [Hend.out]; exact HJk.out, _, qs, HQ.out, ?_⟩⟩
        unfold QEnd
        rw [Hend.out, if_pos hpos]
        exact Hl.out.1
      · have Hl := Lib.hid (show edLate ls ps ds k = -1 by rcases edLate_cases ls ps ds k with h | h <;> omega)
        have hkN : k < edN ls ps ds n := lt_edN hlt fun j hj => by
          by_cases ej : j = k
          · subst ej; omega
          · exact HL.out j (by omega)
        have hNn := edN_le ls ps ds n
        clear hlate
        by_cases hz : qs.length = 0
        · gi_wp2_with fail
          refine ⟨trivial, (callsIn_wide.2 (len_c B b _ qs _ HQ.out)).mono ?_⟩
          rintro e w2 ⟨rfl, rfl⟩
          rw [hz]
          gi_wp2_with fail
          refine ⟨trivial, (callsIn_wide.2 (letCome_c n₀ B b _ qs _ _ _ ls ps ds k wr HE.out.js Ht.out (by omega) HQ.out HA.out Hl.out hn0 hbB (by omega))).mono ?_⟩
          rintro e w2 ⟨⟨u, rfl⟩, v2, qs2, hq2, hall, hm2⟩
          have hE2 := HE.out.moved HQ.out hm2 hn0 hbB e1 e2 e3
          have cw2 := hE2.wb.cell
          have E2 := Lib.hid hE2
          have Q2 := Lib.hid hq2
          have A2 := Lib.hid hall
          have M2 := Lib.hid hm2
          clear hE2 hq2 hall hm2
          gi_wp2_with fail
          refine ⟨trivial, (callsIn_wide.2 (giveSlot_c B b v2 qs2 qs ls ps ds k w2 Ht.out Q2.out A2.out HA.out Hl.out hbB)).mono ?_⟩
          rintro e w3 ⟨rfl, v3, qs3, hq3, hqa3, hm3⟩
          have E3 := Lib.hid (E2.out.moved Q2.out hm3 hn0 hbB e1 e2 e3)
          have M3 := Lib.hid (M2.out.trans hm3)
          have hsz3 := M3.out.size
          obtain ⟨fn, tmps, assign, body, hy, hR⟩ := HY.out k w3 v3 qs3 (HJ.out k wr w3 _ v3 qs qs3 HJk.out HQ.out hq3 M3.out) hq3 hkN (by omega)
          have Q3 := Lib.hid hq3
          have A3 := Lib.hid hqa3
          clear hq3 hqa3 hm3
          dsimp only [valAt] at hy
          rw [nth_edTo hkN] at hy
          gi_wp2_with fail
          refine hR.mono ?_
          rintro e W4 ⟨hk4, (⟨rfl, hJ4⟩ | ⟨rfl, hJx4⟩)⟩
          · have HR4 := Lib.hid (show ItR n₀ bj bn bw b B n (k + 1) cl cp cd ls ps ds J W W4 from ⟨⟨v3, qs3, Q3.out.kept hk4, A3.out⟩, fun j hj => by
              by_cases ej : j = k
              · subst ej; have := Hl.out; omega
              · exact HL.out j (by omega), E3.out.kept hk4 (fun j hj => .inl (.inl hj)) (.inl (.inr (.inl rfl))) (.inl (.inr (.inr (.inl rfl)))) (.inl (.inr (.inr (.inr rfl)))), hJ4, by have := hk4.size; omega⟩)
            clear hk4 hJ4
            gi_wp2
            go_roundw
            case rel => exact ⟨k + 1, by omega, by simp, HR4.out⟩
            case measure => simp [intOf]; omega
          · have HX := Lib.hid hJx4
            clear hk4 hJx4
            gi_wp2
            refine bodyPost_ret (results_none rfl _ _ _) rfl ?_
            exact ⟨⟨_, rfl⟩, .inr ⟨k + 1, by omega, HX.out⟩⟩
        · have hdue : ¬ (pat qs 0).due ≤ (k : Int) := fun h => by
            have h1 := HA.out.late (by omega) h
            have h2 := Hl.out
            omega
          obtain ⟨g, cap, rfl, _, _⟩ := HQ.out.own.shape (by omega)
          have x1 := HQ.out.own.cellAt (k := 0) (i := 1) (by omega) (by omega)
          simp only [pC, List.getElem?_cons_zero, List.getElem?_cons_succ, Nat.zero_mul, Nat.zero_add] at x1
          have hposi : (0 : Int) < (qs.length : Int) := by omega
          gi_wp2_with fail
          refine ⟨trivial, (callsIn_wide.2 (len_c B b _ qs _ HQ.out)).mono ?_⟩
          rintro e w2 ⟨rfl, rfl⟩
          gi_wp2_with fail
          refine ⟨trivial, (callsIn_wide.2 (letCome_c n₀ B b _ qs _ _ _ ls ps ds k wr HE.out.js Ht.out (by omega) HQ.out HA.out Hl.out hn0 hbB (by omega))).mono ?_⟩
          rintro e w2 ⟨⟨u, rfl⟩, v2, qs2, hq2, hall, hm2⟩
          have hE2 := HE.out.moved HQ.out hm2 hn0 hbB e1 e2 e3
          have cw2 := hE2.wb.cell
          have E2 := Lib.hid hE2
          have Q2 := Lib.hid hq2
          have A2 := Lib.hid hall
          have M2 := Lib.hid hm2
          clear hE2 hq2 hall hm2
          gi_wp2_with fail
          refine ⟨trivial, (callsIn_wide.2 (giveSlot_c B b v2 qs2 qs ls ps ds k w2 Ht.out Q2.out A2.out HA.out Hl.out hbB)).mono ?_⟩
          rintro e w3 ⟨rfl, v3, qs3, hq3, hqa3, hm3⟩
          have E3 := Lib.hid (E2.out.moved Q2.out hm3 hn0 hbB e1 e2 e3)
          have M3 := Lib.hid (M2.out.trans hm3)
          have hsz3 := M3.out.size
          obtain ⟨fn, tmps, assign, body, hy, hR⟩ := HY.out k w3 v3 qs3 (HJ.out k wr w3 _ v3 qs qs3 HJk.out HQ.out hq3 M3.out) hq3 hkN (by omega)
          have Q3 := Lib.hid hq3
          have A3 := Lib.hid hqa3
          clear hq3 hqa3 hm3
          dsimp only [valAt] at hy
          rw [nth_edTo hkN] at hy
          gi_wp2_with fail
          refine hR.mono ?_
          rintro e W4 ⟨hk4, (⟨rfl, hJ4⟩ | ⟨rfl, hJx4⟩)⟩
          · have HR4 := Lib.hid (show ItR n₀ bj bn bw b B n (k + 1) cl cp cd ls ps ds J W W4 from ⟨⟨v3, qs3, Q3.out.kept hk4, A3.out⟩, fun j hj => by
              by_cases ej : j = k
              · subst ej; have := Hl.out; omega
              · exact HL.out j (by omega), E3.out.kept hk4 (fun j hj => .inl (.inl hj)) (.inl (.inr (.inl rfl))) (.inl (.inr (.inr (.inl rfl)))) (.inl (.inr (.inr (.inr rfl)))), hJ4, by have := hk4.size; omega⟩)
            clear hk4 hJ4
            gi_wp2
            go_roundw
            case rel => exact ⟨k + 1, by omega, by simp, HR4.out⟩
            case measure => simp [intOf]; omega
          · have HX := Lib.hid hJx4
            clear hk4 hJx4
            gi_wp2
            refine bodyPost_ret (results_none rfl _ _ _) rfl ?_
            exact ⟨⟨_, rfl⟩, .inr ⟨k + 1, by omega, HX.out⟩⟩
    · obtain rfl : k = n := by omega
      have Hend := Lib.hid (edN_eq (ls := ls) (ps := ps) (ds := ds) (Nat.le_refl k) HL.out (.inl rfl))
      gi_wp2
      go_end0
      refine ⟨⟨_, rfl⟩, .inl ⟨by rw [Hend.out]; exact HJk.out, v, qs, HQ.out, ?_⟩⟩
      unfold QEnd
      rw [Hend.out]
      exact HA.out.whole fun i hi => ⟨(HP.out.p i hi).1, hnw i hi⟩

end Go.Proofs.Ytbhpflhopajbfaa
