/-
  The queue's method Push: an append to the queue's row, told with where the row lies behind it.
  Conditions: at most 1000 items.
-/
import Derived.Test.YtbhpflhopajbfaaQsw
namespace Go.Proofs.Ytbhpflhopajbfaa
open Go.RowKit Go.Shelf
attribute [local go_sem] Oper.semAt_some

/-- an append to an own row: in place, or in a new block that leaves the old one as it was -/
theorem appq_two {P : Program} (w : World) (base : Nat) (t ty e : TypeId) (i : TypeInfo) (z : Value) (size bytes : Nat) (ht : P.underlying t = some (.slice e)) (hi : P.info? e = some i) (hz : i.zero = some z)
    (hsize : i.size = size) (hby : i.bytes = bytes) (hzs : z.cells.size = size) (hsz : 0 < size)
    (v : Value) (n : Nat) (xs : List Value) (hown : w.ownsRow base e size v n xs)
    (a : Addr) (m c : Nat) (news : List Value) (hl : news.length = m * size) (hnews : ∀ j u, news[j]? = some u → w.cell? (a.add j) = some u) (h1 : ∀ u ∈ news, u.oneCell' = true)
    (h63 : n + m ≤ maxLen) (hbytes : (n + m) * bytes ≤ 140737488355328) (hbase : base ≤ w.heap.size) :
    ∃ v' w', (Builtin.append_ #[t, t] ty #[v, .slice (some a) m c]).run P w = .ok v' w' ∧ w'.ownsRow base e size v' (n + m) (xs ++ news) ∧ w.grownBy w' v.ownBlock ∧
      (v'.ownBlock = v.ownBlock ∨ ∀ k, v'.ownBlock = some k → w.heap.size ≤ k) := by
  rcases id hown.2 with ⟨h0, hn0⟩ | ⟨g, cap, cur, e2, hbg, hg, hnc, hcm, hcs, htake⟩
  · subst h0
    subst hn0
    obtain ⟨v', w', hr, h2, h3, h4⟩ := run_append_own_at (P := P) w w.heap.size t ty e i z size bytes ht hi hz hsize hby hzs hsz (.slice none 0 0) 0 [] (World.ownsRow_nil _ _ _ _) a m c news hl hnews h1 h63 hbytes (Nat.le_refl _)
    have hx : xs = [] := List.length_eq_zero_iff.1 (by have := hown.1; omega)
    subst hx
    refine ⟨v', w', hr, ?_, h3, .inr fun k hk => (World.ownsRow.lt h2 k hk).1⟩
    obtain ⟨q1, q2⟩ := h2
    refine ⟨q1, ?_⟩
    rcases q2 with h0 | ⟨g, cap, cur, e, hg, r⟩
    · exact .inl h0
    · exact .inr ⟨g, cap, cur, e, by omega, r⟩
  · obtain ⟨v', w', hr, h2, h3, h4, h5⟩ := run_append_own_at (P := P) w base t ty e i z size bytes ht hi hz hsize hby hzs hsz v n xs hown a m c news hl hnews h1 h63 hbytes hbase
    refine ⟨v', w', hr, h2, h3, ?_⟩
    subst e2
    have hsmall : n + m ≤ 9223372036854775807 := by simp only [maxLen] at h63; omega
    subst hsize
    subst hby
    by_cases hroom : n + m ≤ cap
    · have hfit : n * i.size + news.length ≤ cur.size := by rw [hl, hcs, ← Nat.add_mul]; exact Nat.mul_le_mul_right _ hroom
      have hr2 := run_append_room (P := P) w t ty e i ht hi g n cap cur hg a m c news hl hnews h1 hroom hfit
      rw [hr] at hr2
      injection hr2 with e1 e2
      exact .inl (by rw [e1]; rfl)
    · have holds : ∀ j u, xs[j]? = some u → w.cell? ((⟨g, 0, none⟩ : Addr).add j) = some u := World.ownsRow.cells hown (g := g) rfl
      have hr2 := run_append_grow (P := P) w t ty e i z ht hi hz ⟨g, 0, none⟩ n cap xs hown.1 holds a m c news hl hnews (by omega) (by omega) (growslice_fits (by omega) hbytes)
      rw [hr] at hr2
      injection hr2 with e1 e2
      exact .inr fun k hk => by rw [e1] at hk; cases hk; exact Nat.le_refl _

theorem wp_appq_two {P : Program} (w : World) {o : Oper} {a : Act} {K : Act → World → Prop} {Q : Exit → Act → World → Prop} (s x : Operand) (t : TypeId)
    (ho : o.op = .call { callee := .builtin .append, args := #[s, x], argTypes := #[t, t] })
    (base : Nat) (e : TypeId) (i : TypeInfo) (z : Value) (size bytes : Nat) (ht : P.underlying t = some (.slice e)) (hi : P.info? e = some i) (hz : i.zero = some z)
    (hsize : i.size = size) (hby : i.bytes = bytes) (hzs : z.cells.size = size) (hsz : 0 < size)
    (v : Value) (n : Nat) (xs : List Value) (hs : a.eval s = v) (hown : w.ownsRow base e size v n xs)
    (ad : Addr) (m c : Nat) (news : List Value) (hx : a.eval x = .slice (some ad) m c) (hl : news.length = m * size) (hnews : ∀ j u, news[j]? = some u → w.cell? (ad.add j) = some u) (h1 : ∀ u ∈ news, u.oneCell' = true)
    (h63 : n + m ≤ maxLen) (hbytes : (n + m) * bytes ≤ 140737488355328) (hbase : base ≤ w.heap.size)
    (h : ∀ v' w', w'.ownsRow base e size v' (n + m) (xs ++ news) → w.grownBy w' v.ownBlock → (v'.ownBlock = v.ownBlock ∨ ∀ k, v'.ownBlock = some k → w.heap.size ≤ k) → K (a.put o.dst v') w') : o.wp P a w K Q := by
  obtain ⟨v', w', hr, h2, h3, h4⟩ := appq_two (P := P) w base t o.type e i z size bytes ht hi hz hsize hby hzs hsz v n xs hown ad m c news hl hnews h1 h63 hbytes hbase
  unfold Oper.wp execOp
  simp only [ho, resolve, invoke, builtin, Sem.run_bind, Sem.run_pure, Result.andThen_ok, List.map_toArray, List.map_cons, List.map_nil, hs, hx, hr]
  exact h v' w' h2 h3 h4

/-- WHAT THE QUEUE's METHODS TOUCH: the queue's box b and its row, v ahead and v' behind, and new blocks -/
structure QMv (b : Nat) (v v' : Value) (A W : World) : Prop where
  os : W.os = A.os
  tape : W.tape = A.tape
  output : W.output = A.output
  size : A.heap.size ≤ W.heap.size
  same : ∀ k, k < A.heap.size → k ≠ b → v.ownBlock ≠ some k → W.heap[k]? = A.heap[k]?
  new : v'.ownBlock = v.ownBlock ∨ ∀ k, v'.ownBlock = some k → A.heap.size ≤ k
theorem QMv.refl (b : Nat) (v : Value) (A : World) : QMv b v v A A := ⟨rfl, rfl, rfl, Nat.le_refl _, fun _ _ _ _ => rfl, .inl rfl⟩
theorem QMv.trans {b : Nat} {u v x : Value} {A B C : World} (h : QMv b u v A B) (k : QMv b v x B C) : QMv b u x A C := by
  refine ⟨k.os.trans h.os, k.tape.trans h.tape, k.output.trans h.output, Nat.le_trans h.size k.size, fun i hi hb hu => (k.same i (Nat.lt_of_lt_of_le hi h.size) hb fun e => ?_).trans (h.same i hi hb hu), ?_⟩
  · rcases h.new with h1 | h1
    · exact hu (h1.symm.trans e)
    · have := h1 i e; omega
  · rcases k.new with k1 | k1
    · rcases h.new with h1 | h1
      · exact .inl (k1.trans h1)
      · exact .inr fun i hi => h1 i (k1.symm.trans hi)
    · exact .inr fun i hi => Nat.le_trans h.size (k1 i hi)
theorem QMv.of_below {b : Nat} {v : Value} {A B : World} (h : Below A.heap.size A B) : QMv b v v A B := ⟨h.os, h.tape, h.output, h.size, fun k hk _ _ => h.block k hk, .inl rfl⟩
theorem QMv.grown {b : Nat} {v v' : Value} {A B : World} (h : A.grownBy B v.ownBlock) (hn : v'.ownBlock = v.ownBlock ∨ ∀ k, v'.ownBlock = some k → A.heap.size ≤ k) : QMv b v v' A B := ⟨h.os, h.tape, h.output, h.size, fun k hk _ hv => h.block k hk fun e => hv e.symm, hn⟩
theorem QMv.setBox {b j : Nat} {v : Value} (A : World) (y : Value) : QMv b v v A (A.setCell ⟨b, j, none⟩ y) := ⟨rfl, rfl, rfl, by simp [World.setCell], fun k _ hb _ => Below.heap_setCell _ _ _ k (fun e => hb (by rw [show k = b from e])), .inl rfl⟩
theorem QMv.drew {b : Nat} {v v' : Value} {A B : World} (h : QMv b v v' A B) : QMv b v v' A B.drew := ⟨h.os, h.tape, h.output, h.size, h.same, h.new⟩
theorem QMv.undrew {b : Nat} {v v' : Value} {A B : World} (h : QMv b v v' A.drew B) : QMv b v v' A B := ⟨h.os, h.tape, h.output, h.size, h.same, h.new⟩

theorem info_partsQ {P : Program} {t : TypeId} {z : Value} {a b : Nat} (h : (P.info? t).map (fun i => (i.zero, i.size, i.bytes)) = some (some z, a, b)) : ∃ i, P.info? t = some i ∧ i.zero = some z ∧ i.size = a ∧ i.bytes = b := by
  cases e : P.info? t with
  | none => simp [e] at h
  | some i => simp [e] at h; exact ⟨i, rfl, h.1, h.2.1, h.2.2⟩
theorem Try.infoP3 : (Try.prog.info? 177).map (fun i => (i.zero, i.size, i.bytes)) = some (some (.agg #[.int .i64 0, .int .i64 0, .int .i64 0]), 3, 24) := by kernel_rfl
theorem pC_src (W : World) (x : Pend) (t : TypeId) : ∀ j u, (pC x)[j]? = some u → (W.alloc (.cells #[.int .i64 x.task, .int .i64 x.due, .int .i64 x.left] t)).cell? (Addr.add ⟨W.heap.size, 0, none⟩ j) = some u := by
  intro j u hj
  have h := Box3.new W t (.int .i64 x.task) (.int .i64 x.due) (.int .i64 x.left)
  have hl : j < 3 := by have := (List.getElem?_eq_some_iff.1 hj).1; simpa [pC] using this
  rcases (show j = 0 ∨ j = 1 ∨ j = 2 by omega) with rfl | rfl | rfl <;> simp [pC] at hj <;> subst hj
  · exact h.c0
  · exact h.c1
  · exact h.c2
theorem pC_one (x : Pend) : ∀ u ∈ pC x, u.oneCell' = true := by intro u hu; simp [pC] at hu; rcases hu with rfl | rfl | rfl <;> rfl
/-- an item as an interface's value -/
def pI (x : Pend) : Value := .iface 177 (.agg #[.int .i64 x.task, .int .i64 x.due, .int .i64 x.left])

set_option maxRecDepth 100000 in
set_option maxHeartbeats 8000000 in
theorem pushQ_c (B b : Nat) (v : Value) (qs : List Pend) (x : Pend) (w : World) (h : Que B b w v qs) (hne : v.ownBlock ≠ some b) (hB : B ≤ w.heap.size) (hl : qs.length ≤ 1000) :
    Calls Try.prog 218 #[.pointer (some ⟨b, 0, none⟩), pI x] w fun e w' => (∃ u, e = .returned u) ∧ ∃ v', Que B b w' v' (qs ++ [x]) ∧ QMv b v v' w w' := by
  obtain ⟨i0, hi0, hz0, hz1, hz2⟩ := info_partsQ Try.infoP3
  have hb := h.box.lt
  have c0 := h.box.c0
  have f0 := h.box.frozen 0
  have hta : ∀ w, (Instr.typeAssert (.iface 177 (.agg #[.int .i64 x.task, .int .i64 x.due, .int .i64 x.left])) 20 177 false).run Try.prog w = .ok (.agg #[.int .i64 x.task, .int .i64 x.due, .int .i64 x.left]) w := fun w => by kernel_rfl
  have H := Lib.hid h
  have Hne := Lib.hid hne
  clear hne
  have hfw : Try.prog.follows Departure.mixedOrders = true := by kernel_rfl
  clear h
  unfold pI
  go_enter Try.func218, Try.ntmps218
  go_wp2_with fail
  refine wp_region_held_drew (S := fun _ => True) hfw trivial ?_
  intro hS0
  have hown : (w.alloc (.cells #[.int .i64 x.task, .int .i64 x.due, .int .i64 x.left] 177)).drew.ownsRow B 177 3 v qs.length (flP qs) := World.ownsRow.drew (World.ownsRow.alloc H.out.own _)
  -- what stands behind the append and the store
  have fin : ∀ (v' : Value) (W2 : World), W2.ownsRow B 177 3 v' (qs.length + 1) (flP qs ++ pC x) → (w.alloc (.cells #[.int .i64 x.task, .int .i64 x.due, .int .i64 x.left] 177)).drew.grownBy W2 v.ownBlock → (v'.ownBlock = v.ownBlock ∨ ∀ k, v'.ownBlock = some k → (w.alloc (.cells #[.int .i64 x.task, .int .i64 x.due, .int .i64 x.left] 177)).drew.heap.size ≤ k) →
      W2.cell? ⟨b, 0, none⟩ = some v ∧ W2.frozen? ⟨b, 0, none⟩ = false ∧ Que B b (W2.setCell ⟨b, 0, none⟩ v') v' (qs ++ [x]) ∧ QMv b v v' w (W2.setCell ⟨b, 0, none⟩ v') := fun v' W2 h1 h2 h3 => by
    have hsz : w.heap.size ≤ (w.alloc (.cells #[.int .i64 x.task, .int .i64 x.due, .int .i64 x.left] 177)).drew.heap.size := by show _ ≤ (World.alloc _ _).heap.size; simp
    have hbw : Box2 (w.alloc (.cells #[.int .i64 x.task, .int .i64 x.due, .int .i64 x.left] 177)).drew b 170 v qFn := box2_drew (H.out.box.alloc _)
    have hb2 := hbw.kept h2 (fun e => Hne.out e.symm)
    have hm : QMv b v v' w W2 := (QMv.of_below (((Below.refl _ w).alloc (Nat.le_refl _) _).drew)).trans (QMv.grown h2 h3)
    have h4 : OwnP B W2 v' (qs ++ [x]) := by unfold OwnP; rw [List.length_append, List.length_singleton, flP_append]; exact h1
    have hne2 : v'.ownBlock ≠ some b := fun e => by
      rcases h3 with h3 | h3
      · exact Hne.out (h3.symm.trans e)
      · have := h3 b e; omega
    refine ⟨hb2.c0, hb2.frozen 0, ⟨hb2.set0 _, h4.kept (grownBy_setC W2 b 0 v') (.inr hne2)⟩, hm.trans (QMv.setBox _ _)⟩
  have Hown := Lib.hid hown
  have Fin := Lib.hid fin
  clear hown fin
  refine wpAnyH_take (i := 0) (v := ?va0) rfl (by kernel_rfl) (by kernel_rfl) (by kernel_rfl) (fun _ _ _ h => h) (.inl ⟨by rfl, ?ya0⟩) hS0 ?_
  case ya0 =>
    intro w' hS
    (clear hS)
    go_simp
    try with_reducible rfl
  refine wpAnyH_take (i := 1) (v := ?va1) rfl (by kernel_rfl) (by kernel_rfl) (by kernel_rfl) (fun _ _ _ h => h) (.inl ⟨by rfl, ?ya1⟩) hS0 ?_
  case ya1 =>
    intro w' hS
    (clear hS)
    go_simp
    try with_reducible rfl
  refine wpAnyH_take (i := 2) (v := ?va2) rfl (by kernel_rfl) (by kernel_rfl) (by kernel_rfl) (fun _ _ _ h => h) (.inl ⟨by rfl, ?ya2⟩) hS0 ?_
  case ya2 =>
    intro w' hS
    (clear hS)
    go_simp
    try with_reducible rfl
  refine wpAnyH_take (i := 3) (v := ?va3) rfl (by kernel_rfl) (by kernel_rfl) (by kernel_rfl) (fun _ _ _ h => h) (.inl ⟨by rfl, ?ya3⟩) hS0 ?_
  case ya3 =>
    intro w' hS
    (clear hS)
    go_simp
    try with_reducible rfl
  refine wpAnyH_take (i := 5) (v := ?va5) rfl (by kernel_rfl) (by kernel_rfl) (by kernel_rfl) (fun _ _ _ h => h) (.inl ⟨by rfl, ?ya5⟩) hS0 ?_
  case ya5 =>
    intro w' hS
    (clear hS)
    go_simp
    try with_reducible rfl
  refine wpAnyH_take (i := 6) (v := ?va6) rfl (by kernel_rfl) (by kernel_rfl) (by kernel_rfl) (fun _ _ _ h => h) (.inl ⟨by rfl, ?ya6⟩) hS0 ?_
  case ya6 =>
    intro w' hS
    (clear hS)
    go_simp
    try with_reducible rfl
  refine wpAnyH_ready (rs := [4, 7]) (by kernel_rfl) (by simp) ?_
  refine AllReadyH.cons rfl (fun K' hK' => ?_) (AllReadyH.cons rfl (fun K' hK' => ?_) AllReadyH.nil)
  · rw [if_pos (by rfl)]
    go_simp
    refine hK'.out _ _ hS0 fun hS1 => ?_
    refine wpAnyH_ready (rs := [7]) (by kernel_rfl) (by simp) ?_
    refine AllReadyH.cons rfl (fun K' hK' => ?_) AllReadyH.nil
    rw [if_pos (by rfl)]
    go_simp
    refine hK'.out _ _ hS0 fun hS2 => ?_
    refine wpAnyH_ready (rs := [8]) (by kernel_rfl) (by simp) ?_
    refine AllReadyH.cons rfl (fun K' hK' => ?_) AllReadyH.nil
    rw [if_pos (by rfl)]
    refine wp_appq_two _ (.tmp 8) (.tmp 11) 168 rfl B 177 i0 (.agg #[.int .i64 0, .int .i64 0, .int .i64 0]) 3 24 Try.underlying168 hi0 hz0 hz1 hz2 rfl (by decide) v qs.length (flP qs) rfl Hown.out ⟨w.heap.size, 0, none⟩ 1 1 (pC x) rfl rfl (pC_src w.drew x _) (pC_one x) (by unfold maxLen; omega) (by omega) (by simp; omega) ?_
    intro v' w2 h1 h2 h3
    obtain ⟨q1, q2, q3⟩ := Fin.out v' w2 h1 h2 h3
    obtain ⟨g', cap', rfl, _, _⟩ := q3.1.own.shape (by simp)
    rw [show (qs ++ [x]).length = qs.length + 1 by simp] at q3
    have Q3 := Lib.hid q3
    clear h1 h2 h3 q3 c0 f0
    refine hK'.out _ _ hS0 fun hS3 => ?_
    refine wpAnyH_take (i := 9) (v := ?vb9) rfl (by kernel_rfl) (by kernel_rfl) (by kernel_rfl) (fun _ _ _ h => h) (.inl ⟨by rfl, ?yb9⟩) hS0 ?_
    case yb9 =>
      intro w' hS
      (clear hS)
      go_simp
      try with_reducible rfl
    refine wpAnyH_take (i := 10) (v := ?vb10) rfl (by kernel_rfl) (by kernel_rfl) (by kernel_rfl) (fun _ _ _ h => h) (.inl ⟨by rfl, ?yb10⟩) hS0 ?_
    case yb10 =>
      intro w' hS
      (clear hS)
      go_simp
      try with_reducible rfl
    refine wpAnyH_ready (rs := [11]) (by kernel_rfl) (by simp) ?_
    refine AllReadyH.cons rfl (fun K' hK' => ?_) AllReadyH.nil
    rw [if_pos (by rfl)]
    go_simp
    refine hK'.out _ _ hS0 fun hS4 => wpAnyH_done (by kernel_rfl) ?_ _
    go_wp2
    go_end0
    exact ⟨⟨_, rfl⟩, _, Q3.out⟩
  · rw [if_pos (by rfl)]
    go_simp
    refine hK'.out _ _ hS0 fun hS1 => ?_
    refine wpAnyH_ready (rs := [4]) (by kernel_rfl) (by simp) ?_
    refine AllReadyH.cons rfl (fun K' hK' => ?_) AllReadyH.nil
    rw [if_pos (by rfl)]
    go_simp
    refine hK'.out _ _ hS0 fun hS2 => ?_
    refine wpAnyH_ready (rs := [8]) (by kernel_rfl) (by simp) ?_
    refine AllReadyH.cons rfl (fun K' hK' => ?_) AllReadyH.nil
    rw [if_pos (by rfl)]
    refine wp_appq_two _ (.tmp 8) (.tmp 11) 168 rfl B 177 i0 (.agg #[.int .i64 0, .int .i64 0, .int .i64 0]) 3 24 Try.underlying168 hi0 hz0 hz1 hz2 rfl (by decide) v qs.length (flP qs) rfl Hown.out ⟨w.heap.size, 0, none⟩ 1 1 (pC x) rfl rfl (pC_src w.drew x _) (pC_one x) (by unfold maxLen; omega) (by omega) (by simp; omega) ?_
    intro v' w2 h1 h2 h3
    obtain ⟨q1, q2, q3⟩ := Fin.out v' w2 h1 h2 h3
    obtain ⟨g', cap', rfl, _, _⟩ := q3.1.own.shape (by simp)
    rw [show (qs ++ [x]).length = qs.length + 1 by simp] at q3
    have Q3 := Lib.hid q3
    clear h1 h2 h3 q3 c0 f0
    refine hK'.out _ _ hS0 fun hS3 => ?_
    refine wpAnyH_take (i := 9) (v := ?vc9) rfl (by kernel_rfl) (by kernel_rfl) (by kernel_rfl) (fun _ _ _ h => h) (.inl ⟨by rfl, ?yc9⟩) hS0 ?_
    case yc9 =>
      intro w' hS
      (clear hS)
      go_simp
      try with_reducible rfl
    refine wpAnyH_take (i := 10) (v := ?vc10) rfl (by kernel_rfl) (by kernel_rfl) (by kernel_rfl) (fun _ _ _ h => h) (.inl ⟨by rfl, ?yc10⟩) hS0 ?_
    case yc10 =>
      intro w' hS
      (clear hS)
      go_simp
      try with_reducible rfl
    refine wpAnyH_ready (rs := [11]) (by kernel_rfl) (by simp) ?_
    refine AllReadyH.cons rfl (fun K' hK' => ?_) AllReadyH.nil
    rw [if_pos (by rfl)]
    go_simp
    refine hK'.out _ _ hS0 fun hS4 => wpAnyH_done (by kernel_rfl) ?_ _
    go_wp2
    go_end0
    exact ⟨⟨_, rfl⟩, _, Q3.out⟩

end Go.Proofs.Ytbhpflhopajbfaa
