/-
  Three rows of a call's own, no two in one block: kept by later calls, grown by appends; a result that holds three such rows: comparisons and marks on it.
  Conditions: none.
-/
import Derived.Test.YtmmpoaphjjpjaaaJobU
import Derived.Maps.AppendAt
namespace Go.Proofs.Ytmmpoaphjjpjaaa
open Go.RowKit Go.Shelf
attribute [local go_sem] Oper.semAt_some

theorem wpListIn_append_own_at {F : Fence} {n : Nat} {P : Program} (w : World) {ops : Array Oper} {rest : List Oper} {o : Oper} {a : Act} {Q : Exit → Act → World → Prop}
    (hg : o.guard = none) (s x : Operand) (t : TypeId) (hop : o.op = Op.call { callee := Callee.builtin Builtin.append, args := #[s, x], argTypes := #[t, t] })
    (base : Nat) (e : TypeId) (i : TypeInfo) (z : Value) (size bytes : Nat) (h1 : P.underlying t = some (.slice e)) (h2 : P.info? e = some i) (h3 : i.zero = some z) (h4 : i.size = size) (h5 : i.bytes = bytes) (h6 : z.cells.size = size) (h7 : 0 < size)
    (v : Value) (k : Nat) (xs : List Value) (hs : a.eval s = v) (hown : w.ownsRow base e size v k xs) (ad : Addr) (m c : Nat) (news : List Value) (hx : a.eval x = .slice (some ad) m c) (hn : news.length = m * size)
    (hc : ∀ j u, news[j]? = some u → w.cell? (ad.add j) = some u) (h1c : ∀ u ∈ news, u.oneCell' = true) (b1 : k + m ≤ maxLen) (b2 : (k + m) * bytes ≤ 140737488355328) (b3 : base ≤ w.heap.size)
    (hK : ∀ v' w', w'.ownsRow base e size v' (k + m) (xs ++ news) → w.grownBy w' v.ownBlock → (v'.ownBlock = v.ownBlock ∨ v'.ownBlock = some w.heap.size) → wpListIn F n P ops Q rest (a.put o.dst v') w') :
    wpListIn F n P ops Q (o :: rest) a w := by
  refine wpListIn_plain hg fun K hK' => ?_
  obtain ⟨v', w', hrun, r1, r2, _, r3⟩ := run_append_own_at (P := P) w base t o.type e i z size bytes h1 h2 h3 h4 h5 h6 h7 v k xs hown ad m c news hn hc h1c b1 b2 b3
  unfold Oper.wpIn
  refine ⟨?_, ?_⟩
  · simp [Oper.about, hop, resolve, Target.leads, Sem.run_pure]
  · rw [Oper.semAt_plain F _ _ (by rw [hop]; intro c hc'; cases hc')]
    simp [execOp, hop, resolve, invoke, builtin, hs, hx, hrun, Result.andThen]
    exact hK' _ _ (hK v' w' r1 r2 r3)

structure Own3 (B : Nat) (W : World) (u v x : Value) (xs ys zs : List Int) : Prop where
  o0 : OwnI B W u xs
  o1 : OwnI B W v ys
  o2 : OwnI B W x zs
  n01 : ∀ k, u.ownBlock = some k → v.ownBlock ≠ some k
  n12 : ∀ k, v.ownBlock = some k → x.ownBlock ≠ some k
  n20 : ∀ k, x.ownBlock = some k → u.ownBlock ≠ some k
section
variable {B : Nat} {W W' : World} {u v x u' : Value} {xs ys zs xs' : List Int}
theorem Own3.rot (h : Own3 B W u v x xs ys zs) : Own3 B W v x u ys zs xs := ⟨h.o1, h.o2, h.o0, h.n12, h.n20, h.n01⟩
theorem Own3.below (h : Own3 B W u v x xs ys zs) (hb : Below W.heap.size W W') : Own3 B W' u v x xs ys zs := ⟨h.o0.below hb, h.o1.below hb, h.o2.below hb, h.n01, h.n12, h.n20⟩
theorem Own3.base {B' : Nat} (h : Own3 B W u v x xs ys zs) (hB : B' ≤ B) : Own3 B' W u v x xs ys zs := ⟨h.o0.base hB, h.o1.base hB, h.o2.base hB, h.n01, h.n12, h.n20⟩
theorem own_ne {v : Value} {row : Option Nat} (h : ∀ k, row = some k → v.ownBlock ≠ some k) : v.ownBlock = none ∨ v.ownBlock ≠ row := by
  rcases e : v.ownBlock with _ | k
  · exact .inl rfl
  · exact .inr fun h' => h k h'.symm e
theorem Own3.other (h : Own3 B W u v x xs ys zs) {b j : Nat} (hb : b < B) (y : Value) : Own3 B (W.setCell ⟨b, j, none⟩ y) u v x xs ys zs :=
  ⟨h.o0.kept (grownBy_setJ _ _ _ _) (.inr fun e => by have := (h.o0.blk _ e).1; omega), h.o1.kept (grownBy_setJ _ _ _ _) (.inr fun e => by have := (h.o1.blk _ e).1; omega), h.o2.kept (grownBy_setJ _ _ _ _) (.inr fun e => by have := (h.o2.blk _ e).1; omega), h.n01, h.n12, h.n20⟩
theorem Own3.grow (h : Own3 B W u v x xs ys zs) (ho : OwnI B W' u' xs') (hg : W.grownBy W' u.ownBlock) (hat : u'.ownBlock = u.ownBlock ∨ ∀ k, u'.ownBlock = some k → W.heap.size ≤ k) : Own3 B W' u' v x xs' ys zs := by
  refine ⟨ho, h.o1.kept hg (own_ne h.n01), h.o2.kept hg (own_ne fun k e e' => h.n20 k e' e), ?_, h.n12, ?_⟩
  · intro k e e'
    rcases hat with ha | ha
    · exact h.n01 k (ha ▸ e) e'
    · have := ha k e; have := (h.o1.blk k e').2; omega
  · intro k e e'
    rcases hat with ha | ha
    · exact h.n20 k e (ha ▸ e')
    · have := ha k e'; have := (h.o2.blk k e).2; omega
theorem Own3.appended (h : Own3 B W u v x xs ys zs) {tmp : Obj} {y : Int} (ho : W'.ownsRow B 2 1 u' (xs.length + 1) (xs.map (Value.int .i64) ++ [.int .i64 y])) (hg : (W.alloc tmp).grownBy W' u.ownBlock) (hat : u'.ownBlock = u.ownBlock ∨ u'.ownBlock = some (W.alloc tmp).heap.size) :
    Own3 B W' u' v x (xs ++ [y]) ys zs :=
  h.grow (ownI_snoc ho) ((World.grownBy_alloc _ _ _).trans hg) (hat.imp id fun e k e' => by rw [e] at e'; simp at e'; omega)
theorem Own3.jobs (h : Own3 B W u v x xs ys zs) : Jobs3 W.heap.size W u v x xs ys zs := ⟨h.o0.ints, h.o1.ints, h.o2.ints⟩
theorem Own3.chg (h : Own3 B W u v x xs ys zs) {tmp : Obj} {b j : Nat} {y : Value} (hg : (W.alloc tmp).grownBy W' u.ownBlock) : Chg (fun k => k = b ∨ B ≤ k) W (W'.setCell ⟨b, j, none⟩ y) :=
  ((Chg.alloc _ W tmp).trans (Chg.grown hg (fun k e => .inr (h.o0.blk k e).1))).trans (Chg.grown (grownBy_setJ _ _ _ _) (fun k e => by cases e; exact .inl rfl))
theorem box3_alloc_kept {b : Nat} {t : TypeId} {p q r : Value} (hb : Box3 W b t p q r) (h : Own3 B W u v x xs ys zs) (hbB : b < B) {tmp : Obj} (hg : (W.alloc tmp).grownBy W' u.ownBlock) : Box3 W' b t p q r :=
  (hb.alloc tmp).kept hg (fun e => by have := (h.o0.blk b e.symm).1; omega)
end
theorem own3_Own {β : Type} (B b : Nat) (t : TypeId) (f g k : β → List Int) : Own (fun s W => ∃ u v x, Box3 W b t u v x ∧ Own3 B W u v x (f s) (g s) (k s)) := by
  rintro s X Y row ⟨u, v, x, hb, h⟩ hg hrow
  exact ⟨u, v, x, box3_own b t (fun (_ : Unit) => u) (fun _ => v) (fun _ => x) () X Y row hb hg hrow, ownI_Own B u (fun (_ : Unit) => f s) () X Y row h.o0 hg hrow, ownI_Own B v (fun (_ : Unit) => g s) () X Y row h.o1 hg hrow, ownI_Own B x (fun (_ : Unit) => k s) () X Y row h.o2 hg hrow, h.n01, h.n12, h.n20⟩

/-- three rows in blocks from lo on and below hi, no two in one block -/
structure Seg3 (lo hi : Nat) (W : World) (u v x : Value) (xs ys zs : List Int) : Prop where
  own : Own3 lo W u v x xs ys zs
  t0 : ∀ k, u.ownBlock = some k → k < hi
  t1 : ∀ k, v.ownBlock = some k → k < hi
  t2 : ∀ k, x.ownBlock = some k → k < hi
  le : hi ≤ W.heap.size
section
variable {lo hi : Nat} {W W' : World} {u v x y : Value} {xs ys zs : List Int}
theorem Seg3.new (h : Own3 lo W u v x xs ys zs) : Seg3 lo W.heap.size W u v x xs ys zs := ⟨h, fun k e => (h.o0.blk k e).2, fun k e => (h.o1.blk k e).2, fun k e => (h.o2.blk k e).2, Nat.le_refl _⟩
theorem Seg3.below (h : Seg3 lo hi W u v x xs ys zs) (hb : Below W.heap.size W W') : Seg3 lo hi W' u v x xs ys zs := ⟨h.own.below hb, h.t0, h.t1, h.t2, Nat.le_trans h.le hb.size⟩
theorem Seg3.outside {l r : Nat} (h : Seg3 lo hi W u v x xs ys zs) (ho : Out l r W W') (ha : hi ≤ l ∨ r ≤ lo) : Seg3 lo hi W' u v x xs ys zs := by
  have f : ∀ {v : Value} {zs : List Int}, OwnI lo W v zs → (∀ k, v.ownBlock = some k → k < hi) → OwnI lo W' v zs := fun o t => o.of_block fun k hk => ho.same k (by have h1 := (o.blk k hk).1; have h2 := t k hk; omega) (o.blk k hk).2
  exact ⟨⟨f h.own.o0 h.t0, f h.own.o1 h.t1, f h.own.o2 h.t2, h.own.n01, h.own.n12, h.own.n20⟩, h.t0, h.t1, h.t2, Nat.le_trans h.le ho.size⟩
theorem Seg3.kept (h : Seg3 lo hi W u v x xs ys zs) (hg : W.grownBy W' y.ownBlock) (hu : ∀ k, y.ownBlock = some k → hi ≤ k ∨ k < lo) : Seg3 lo hi W' u v x xs ys zs := by
  have f : ∀ {v : Value} {zs : List Int}, OwnI lo W v zs → (∀ k, v.ownBlock = some k → k < hi) → OwnI lo W' v zs := fun o t => o.kept hg (own_ne fun k e e' => by have h1 := (o.blk k e').1; have h2 := t k e'; rcases hu k e with h | h <;> omega)
  exact ⟨⟨f h.own.o0 h.t0, f h.own.o1 h.t1, f h.own.o2 h.t2, h.own.n01, h.own.n12, h.own.n20⟩, h.t0, h.t1, h.t2, Nat.le_trans h.le hg.size⟩
theorem Seg3.jobs (h : Seg3 lo hi W u v x xs ys zs) : Jobs3 W.heap.size W u v x xs ys zs := h.own.jobs
theorem Seg3.rot (h : Seg3 lo hi W u v x xs ys zs) : Seg3 lo hi W v x u ys zs xs := ⟨h.own.rot, h.t1, h.t2, h.t0, h.le⟩
theorem Seg3.marked {xs' : List Int} (h : Seg3 lo hi W u v x xs ys zs) (ho : OwnI lo W' u xs') (hg : W.grownBy W' u.ownBlock) : Seg3 lo hi W' u v x xs' ys zs ∧ Out lo hi W W' :=
  ⟨⟨h.own.grow ho hg (.inl rfl), h.t0, h.t1, h.t2, Nat.le_trans h.le hg.size⟩, Out.grown hg fun k e => ⟨(h.own.o0.blk k e).1, h.t0 k e⟩⟩
end
/-- three rows of its own in a call's answer -/
def Gives3 (w : World) (xs ys zs : List Int) (mk : Value → Value → Value → Value) (e : Ending) (w' : World) : Prop :=
  ∃ u v x, e = .returned (mk u v x) ∧ Own3 w.heap.size w' u v x xs ys zs ∧ Below w.heap.size w w'

set_option maxRecDepth 100000 in
set_option maxHeartbeats 4000000 in
theorem markJobs3_c (lo hi : Nat) (u v x : Value) (xs ys zs : List Int) (k : Int) (w : World) (g : Seg3 lo hi w u v x xs ys zs)
    (h1 : xs.length * 8 ≤ 140737488351232) (h2 : ys.length * 8 ≤ 140737488351232) (h3 : zs.length * 8 ≤ 140737488351232) (hk0 : 0 ≤ k) (hk1 : k + xs.length + ys.length ≤ 1099511627776) :
    Calls Try.prog 40 #[.agg #[u, v, x], .int .i64 k] w fun e w' => e = .returned (.int .i64 (k + xs.length + ys.length + zs.length)) ∧ Seg3 lo hi w' u v x (ups k xs.length) (ups (k + xs.length) ys.length) (ups (k + xs.length + ys.length) zs.length) ∧ Out lo hi w w' := by
  obtain ⟨a1, c1, rfl⟩ := g.own.o0.ints.shape
  obtain ⟨a2, c2, rfl⟩ := g.own.o1.ints.shape
  obtain ⟨a3, c3, rfl⟩ := g.own.o2.ints.shape
  have hhi : hi ≤ w.heap.size := g.le
  go_enter Try.func40, Try.ntmps40
  go_wp2_with fail
  obtain ⟨W0, hW0⟩ : ∃ W0, (w.alloc (.cells #[.slice a1 xs.length c1, .slice a2 ys.length c2, .slice a3 zs.length c3] 41)) = W0 := ⟨_, rfl⟩
  have bA : Box3 W0 w.heap.size 41 (.slice a1 xs.length c1) (.slice a2 ys.length c2) (.slice a3 zs.length c3) := by rw [← hW0]; exact Box3.new w _ _ _ _
  have hO : Out lo hi w W0 := by rw [← hW0]; exact Out.alloc _ _ _ _
  have hb : Below w.heap.size w W0 := by rw [← hW0]; exact (Below.refl _ _).alloc (Nat.le_refl _) _
  replace g := g.below hb
  rw [hW0]
  clear hW0 hb
  refine (markInt64S_c _ _ _ k _ g.own.o0 h1 (by omega) (by omega)).mono ?_
  rintro e W1 ⟨rfl, ho, hg⟩
  obtain ⟨g', o'⟩ := g.marked ho hg
  replace bA := bA.outside o' (by omega)
  replace hO := hO.trans o'
  replace g := g'.rot
  clear ho hg g' o'
  have k1 := bA.c1
  go_wp2_with fail
  refine (markInt64S_c _ _ _ (k + xs.length) _ g.own.o0 h2 (by omega) (by omega)).mono ?_
  rintro e W2 ⟨rfl, ho, hg⟩
  obtain ⟨g', o'⟩ := g.marked ho hg
  replace bA := bA.outside o' (by omega)
  replace hO := hO.trans o'
  replace g := g'.rot
  clear ho hg g' o' k1
  have k1 := bA.c2
  go_wp2_with fail
  refine (markInt64S_c _ _ _ (k + xs.length + ys.length) _ g.own.o0 h3 (by omega) (by omega)).mono ?_
  rintro e W3 ⟨rfl, ho, hg⟩
  obtain ⟨g', o'⟩ := g.marked ho hg
  replace hO := hO.trans o'
  replace g := g'.rot
  clear ho hg g' o' k1
  go_wp2
  go_ret
  exact ⟨rfl, g, hO⟩

end Go.Proofs.Ytmmpoaphjjpjaaa
