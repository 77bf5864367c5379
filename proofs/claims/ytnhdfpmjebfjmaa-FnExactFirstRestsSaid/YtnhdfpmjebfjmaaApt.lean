/-
  The program's search for first rests: extendApart, over a caller that keeps its word.
-/
import Derived.Test.YtnhdfpmjebfjmaaExt
import Derived.Test.YtnhdfpmjebfjmaaIter
import Derived.WalkMore
namespace Go.Proofs.Ytnhdfpmjebfjmaa
open Go.RowKit Go.Shelf
attribute [local go_sem] Oper.semAt_some

section
variable {F : Fence} {n : Nat} {P : Program} {Q : Exit → Act → World → Prop} {b : Frame} {a : Act} {k : List Item} {cs : List Frame} {w : World}
theorem stepA_scope {c : Code} : step P (lone (b.atR a (.code (.scope c) :: k)) cs w) = .next (lone (b.atR a (.code c :: .inScope c :: k)) cs w) := step_lone_go (by simp [stepG, stepG.exec, Frame.atR])
theorem stepA_inScope {c : Code} : step P (lone (b.atR a (.inScope c :: k)) cs w) = .next (lone (b.atR a k) cs w) := step_lone_go (by simp [stepG, stepG.exec, Frame.atR])
theorem wpIn_scopeA {c : Code} (h : c.wpIn F n P (Exit.noGoto Q) a w) : (Code.scope c).wpIn F n P Q a w := by
  intro b k cs hro hb hr
  have h0 : (lone (b.atR a (.code (.scope c) :: k)) cs w).fenced P F := fenced_calm hb hr rfl
  obtain ⟨e, a₁, w₁, hq, harr⟩ := h b (.inScope c :: k) cs hro hb hr
  cases e with
  | normal => exact ⟨.normal, a₁, w₁, hq, .head h0 stepA_scope (StepsIn.trans harr (.one (fenced_calm hb hr rfl) stepA_inScope))⟩
  | exit id =>
    have hx : exitTo id (.inScope c :: k) = exitTo id k := by simp [exitTo]
    exact ⟨.exit id, a₁, w₁, hq, fun k' hk => .head h0 stepA_scope (harr.1 k' (by rw [hx]; exact hk)),
      fun hr' hk => let ⟨k₁, h1, h2⟩ := harr.2 hr' (by rw [hx]; exact hk); ⟨k₁, h1, .head h0 stepA_scope h2⟩⟩
  | goto l => exact hq.elim
  | ret => exact ⟨_, a₁, w₁, hq, .of_steps (.one h0 stepA_scope) harr⟩
  | panic ch => exact ⟨_, a₁, w₁, hq, .of_steps (.one h0 stepA_scope) harr⟩
  | outgrown => exact ⟨_, a₁, w₁, hq, .of_steps (.one h0 stepA_scope) harr⟩
end

/-- an append to an own row: in place, or in a new block that leaves the old one as it was -/
theorem app_two {P : Program} (w : World) (base : Nat) (t ty e : TypeId) (i : TypeInfo) (z : Value) (size bytes : Nat) (ht : P.underlying t = some (.slice e)) (hi : P.info? e = some i) (hz : i.zero = some z)
    (hsize : i.size = size) (hby : i.bytes = bytes) (hzs : z.cells.size = size) (hsz : 0 < size)
    (g n cap : Nat) (xs : List Value) (hown : w.ownsRow base e size (.slice (some ⟨g, 0, none⟩) n cap) n xs)
    (a : Addr) (m c : Nat) (news : List Value) (hl : news.length = m * size) (hnews : ∀ j u, news[j]? = some u → w.cell? (a.add j) = some u) (h1 : ∀ u ∈ news, u.oneCell' = true)
    (h63 : n + m ≤ maxLen) (hbytes : (n + m) * bytes ≤ 140737488355328) (hbase : base ≤ w.heap.size) :
    ∃ v' w', (Builtin.append_ #[t, t] ty #[.slice (some ⟨g, 0, none⟩) n cap, .slice (some a) m c]).run P w = .ok v' w' ∧ w'.ownsRow base e size v' (n + m) (xs ++ news) ∧
      ((v' = .slice (some ⟨g, 0, none⟩) (n + m) cap ∧ w.grownBy w' (some g)) ∨ (v'.ownBlock = some w.heap.size ∧ w.grownBy w' none)) := by
  obtain ⟨v', w', hr, h2, h3, h4, h5⟩ := run_append_own_at (P := P) w base t ty e i z size bytes ht hi hz hsize hby hzs hsz _ n xs hown a m c news hl hnews h1 h63 hbytes hbase
  have hsmall : n + m ≤ 9223372036854775807 := by simp only [maxLen] at h63; omega
  refine ⟨v', w', hr, h2, ?_⟩
  subst hsize
  subst hby
  rcases hown.2 with ⟨h0, _⟩ | ⟨g2, cap2, cur, e2, hbg, hg, hnc, hcm, hcs, htake⟩
  · cases h0
  · cases e2
    by_cases hroom : n + m ≤ cap
    · have hfit : n * i.size + news.length ≤ cur.size := by rw [hl, hcs, ← Nat.add_mul]; exact Nat.mul_le_mul_right _ hroom
      have hr2 := run_append_room (P := P) w t ty e i ht hi g n cap cur hg a m c news hl hnews h1 hroom hfit
      rw [hr] at hr2
      injection hr2 with e1 e2
      exact .inl ⟨e1, h3⟩
    · have holds : ∀ j u, xs[j]? = some u → w.cell? ((⟨g, 0, none⟩ : Addr).add j) = some u := World.ownsRow.cells hown (g := g) rfl
      have hr2 := run_append_grow (P := P) w t ty e i z ht hi hz ⟨g, 0, none⟩ n cap xs hown.1 holds a m c news hl hnews (by omega) (by omega) (growslice_fits (by omega) hbytes)
      rw [hr] at hr2
      injection hr2 with e1 e2
      exact .inr ⟨by rw [e1]; rfl, by rw [e2]; exact ⟨rfl, rfl, rfl, by simp, fun k hk _ => heap_alloc_old w.drew _ k hk⟩⟩

theorem wp_app_two {P : Program} (w : World) {o : Oper} {a : Act} {K : Act → World → Prop} {Q : Exit → Act → World → Prop} (s x : Operand) (t : TypeId)
    (ho : o.op = .call { callee := .builtin .append, args := #[s, x], argTypes := #[t, t] })
    (base : Nat) (e : TypeId) (i : TypeInfo) (z : Value) (size bytes : Nat) (ht : P.underlying t = some (.slice e)) (hi : P.info? e = some i) (hz : i.zero = some z)
    (hsize : i.size = size) (hby : i.bytes = bytes) (hzs : z.cells.size = size) (hsz : 0 < size)
    (g n cap : Nat) (xs : List Value) (hs : a.eval s = .slice (some ⟨g, 0, none⟩) n cap) (hown : w.ownsRow base e size (.slice (some ⟨g, 0, none⟩) n cap) n xs)
    (ad : Addr) (m c : Nat) (news : List Value) (hx : a.eval x = .slice (some ad) m c) (hl : news.length = m * size) (hnews : ∀ j u, news[j]? = some u → w.cell? (ad.add j) = some u) (h1 : ∀ u ∈ news, u.oneCell' = true)
    (h63 : n + m ≤ maxLen) (hbytes : (n + m) * bytes ≤ 140737488355328) (hbase : base ≤ w.heap.size)
    (h : ∀ v' w', w'.ownsRow base e size v' (n + m) (xs ++ news) → ((v' = .slice (some ⟨g, 0, none⟩) (n + m) cap ∧ w.grownBy w' (some g)) ∨ (v'.ownBlock = some w.heap.size ∧ w.grownBy w' none)) → K (a.put o.dst v') w') : o.wp P a w K Q := by
  obtain ⟨v', w', hr, h2, h3⟩ := app_two (P := P) w base t o.type e i z size bytes ht hi hz hsize hby hzs hsz g n cap xs hown ad m c news hl hnews h1 h63 hbytes hbase
  unfold Oper.wp execOp
  simp only [ho, resolve, invoke, builtin, Sem.run_bind, Sem.run_pure, Result.andThen_ok, List.map_toArray, List.map_cons, List.map_nil, hs, hx, hr]
  exact h v' w' h2 h3

theorem own_front {W : World} {base : Nat} {e : TypeId} {g n cap : Nat} {xs ys : List Value} (h : W.ownsRow base e 2 (.slice (some ⟨g, 0, none⟩) (n + 1) cap) (n + 1) (xs ++ ys)) (hx : xs.length = n * 2) :
    W.ownsRow base e 2 (.slice (some ⟨g, 0, none⟩) n cap) n xs := by
  obtain ⟨_, h2⟩ := h
  rcases h2 with ⟨h0, _⟩ | ⟨g2, cap2, cur, e2, hbg, hg, hnc, hcm, hcs, htake⟩
  · cases h0
  · cases e2
    refine ⟨hx, .inr ⟨g, cap, cur, rfl, hbg, hg, by omega, hcm, hcs, ?_⟩⟩
    have := congrArg (List.take (n * 2)) htake
    rw [List.take_take, show min (n * 2) ((n + 1) * 2) = n * 2 by omega] at this
    rw [this, ← hx, List.take_left]
theorem ownC_front {B : Nat} {W : World} {g cap : Nat} {p : List (Int × Int)} {c : Int × Int} (h : OwnC B W (.slice (some ⟨g, 0, none⟩) (p.length + 1) cap) (p ++ [c]).length (flat (p ++ [c]))) : OwnC B W (.slice (some ⟨g, 0, none⟩) p.length cap) p.length (flat p) := by
  have e : flat (p ++ [c]) = flat p ++ [c.1, c.2] := by rw [flat_append]; rfl
  unfold OwnC at h ⊢
  rw [List.length_append, List.length_singleton, e, List.map_append] at h
  exact own_front h (by rw [List.length_map, flat_length])

/-- a part of a list of lists -/
def SegA (E : List (List (Int × Int))) (k : Nat) (l : List (List (Int × Int))) : Prop := ∀ i q, l[i]? = some q → E[k + i]? = some q
theorem SegA.left {E : List (List (Int × Int))} {k : Nat} {l l2 : List (List (Int × Int))} (h : SegA E k (l ++ l2)) : SegA E k l := fun i q hq =>
  h i q (by rw [List.getElem?_append_left (List.getElem?_eq_some_iff.1 hq).1]; exact hq)
theorem SegA.right {E : List (List (Int × Int))} {k : Nat} {l l2 : List (List (Int × Int))} (h : SegA E k (l ++ l2)) : SegA E (k + l.length) l2 := fun i q hq => by
  rw [Nat.add_assoc]
  exact h _ q (by rw [List.getElem?_append_right (by omega), Nat.add_sub_cancel_left]; exact hq)
theorem exTo_add (p : List (Int × Int)) (g : Int) (gs : List Int) (k m : Nat) : ∃ l, exTo p g gs (k + m) = exTo p g gs k ++ l := by
  induction m with
  | zero => exact ⟨[], by simp⟩
  | succ m ih =>
    obtain ⟨l, hl⟩ := ih
    exact ⟨_, by rw [← Nat.add_assoc, exTo_succ, hl, List.append_assoc]⟩
theorem exTo_seg {E : List (List (Int × Int))} {k r gN : Nat} {p : List (Int × Int)} {gs : List Int} (h : SegA E k (exTo p (gN : Int) gs gN)) (hr : r < gN) (hf : Rst.fit p ((r : Int), (gN : Int)) = true) :
    SegA E (k + (exTo p (gN : Int) gs r).length) (Rst.ext (p ++ [((r : Int), (gN : Int))]) gs) := by
  obtain ⟨l, hl⟩ := exTo_add p (gN : Int) gs (r + 1) (gN - (r + 1))
  rw [show r + 1 + (gN - (r + 1)) = gN by omega, exTo_succ, if_pos hf] at hl
  rw [hl] at h
  exact h.left.right
theorem exTo_yes {p : List (Int × Int)} {g : Int} {gs : List Int} {k : Nat} (h : Rst.fit p ((k : Int), g) = true) : (exTo p g gs (k + 1)).length = (exTo p g gs k).length + (Rst.ext (p ++ [((k : Int), g)]) gs).length := by
  rw [exTo_succ, if_pos h, List.length_append]
theorem exTo_not {p : List (Int × Int)} {g : Int} {gs : List Int} {k : Nat} (h : Rst.fit p ((k : Int), g) = false) : (exTo p g gs (k + 1)).length = (exTo p g gs k).length := by
  rw [exTo_succ, if_neg (by rw [h]; simp), List.append_nil]

/-- what a caller of the search promises: I k = behind k lists -/
structure CallerA (A L : Nat) (w0 : World) (S0 : Nat → Prop) (E : List (List (Int × Int))) (I : Nat → World → Prop) (Jx : World → Prop) : Prop where
  old : ∀ k W, I k W → Kps S0 w0 W
  oldX : ∀ W, Jx W → Kps S0 w0 W
  move : ∀ k W W', I k W → A ≤ W.heap.size → Below A W W' → I k W'
  round : ∀ k q sv W, E[k]? = some q → A ≤ W.heap.size → OwnC A W sv q.length (flat q) → I k W → YieldAt Fence.wide 9 Try.prog L #[sv] W fun e W' =>
    Kps (fun j => A ≤ j) W W' ∧ ((e = .returned (.bool true) ∧ I (k + 1) W') ∨ (e = .returned (.bool false) ∧ Jx W'))
/-- what the search leaves -/
def ApPost (A : Nat) (I : Nat → World → Prop) (Jx : World → Prop) (k : Nat) (p : List (Int × Int)) (gs : List Int) (cl : Value) (W : World) (e : Ending) (W' : World) : Prop :=
  Kps (fun j => A ≤ j ∧ cl.ownBlock ≠ some j) W W' ∧ ((e = .returned (.bool true) ∧ OwnC A W' cl p.length (flat p) ∧ I (k + (Rst.ext p gs).length) W') ∨ (e = .returned (.bool false) ∧ Jx W'))
/-- what a loop of the search keeps -/
structure ApEnv (A : Nat) (I : Nat → World → Prop) (n : Nat) (p : List (Int × Int)) (cl : Value) (W wr : World) : Prop where
  own : OwnC A wr cl p.length (flat p)
  kps : Kps (fun j => A ≤ j ∧ cl.ownBlock ≠ some j) W wr
  inv : I n wr
  size : A ≤ wr.heap.size
theorem ApEnv.later {A L n : Nat} {w0 : World} {S0 : Nat → Prop} {E : List (List (Int × Int))} {I : Nat → World → Prop} {Jx : World → Prop} {p : List (Int × Int)} {cl : Value} {W wr w' : World} (hC : CallerA A L w0 S0 E I Jx) (h : ApEnv A I n p cl W wr) (hb : Below wr.heap.size wr w') : ApEnv A I n p cl W w' :=
  ⟨h.own.below hb, h.kps.trans (Kps.below hb), hC.move _ _ _ h.inv h.size (hb.mono h.size), Nat.le_trans h.size hb.size⟩
theorem Kps.trans2 {S : Nat → Prop} {X Y Z : World} (h : Kps S X Y) (hs : Y.heap.size ≤ Z.heap.size) (k : ∀ j, S j → j < Y.heap.size → Z.heap[j]? = Y.heap[j]?) : Kps S X Z := ⟨Nat.le_trans h.size hs, fun i hi hl => (k i hi (Nat.lt_of_lt_of_le hl h.size)).trans (h.same i hi hl)⟩

/-- behind the append and the search behind it -/
theorem ApEnv.behind {A n n2 : Nat} {I : Nat → World → Prop} {Jx : World → Prop} {p : List (Int × Int)} {c : Int × Int} {gs : List Int} {g cap : Nat} {W w8 w9 w10 : World} {v9 : Value} {e : Ending}
    (h : ApEnv A I n p (.slice (some ⟨g, 0, none⟩) p.length cap) W w8)
    (ho9 : OwnC A w9 v9 (p ++ [c]).length (flat (p ++ [c]))) (hap : (v9 = .slice (some ⟨g, 0, none⟩) (p.length + 1) cap ∧ w8.grownBy w9 (some g)) ∨ (v9.ownBlock = some w8.heap.size ∧ w8.grownBy w9 none))
    (hp : ApPost A I Jx n2 (p ++ [c]) gs v9 w9 e w10) :
    Kps (fun j => A ≤ j ∧ (Value.slice (some ⟨g, 0, none⟩) p.length cap).ownBlock ≠ some j) w8 w10 ∧
    ((e = .returned (.bool true) ∧ ApEnv A I (n2 + (Rst.ext (p ++ [c]) gs).length) p (.slice (some ⟨g, 0, none⟩) p.length cap) W w10) ∨ (e = .returned (.bool false) ∧ Jx w10)) := by
  obtain ⟨hk, hp⟩ := hp
  have hgb := h.own.blk g rfl
  have hkk : Kps (fun j => A ≤ j ∧ (Value.slice (some ⟨g, 0, none⟩) p.length cap).ownBlock ≠ some j) w8 w10 := by
    rcases hap with ⟨e1, hg⟩ | ⟨e1, hg⟩
    · refine (Kps.grown hg (fun j hj hs => hs.2 hj)).trans2 hk.size fun j hj hl => hk.same j ⟨hj.1, ?_⟩ hl
      rw [e1]; exact hj.2
    · refine ⟨Nat.le_trans hg.size hk.size, fun j hj hl => (hk.same j ⟨hj.1, ?_⟩ (Nat.lt_of_lt_of_le hl hg.size)).trans (hg.block j hl (by simp))⟩
      rw [e1]; intro he; cases he; omega
  refine ⟨hkk, ?_⟩
  rcases hp with ⟨rfl, ho, hi⟩ | ⟨rfl, hj⟩
  · refine .inl ⟨rfl, ⟨?_, h.kps.trans hkk, hi, Nat.le_trans h.size hkk.size⟩⟩
    rcases hap with ⟨e1, hg⟩ | ⟨e1, hg⟩
    · subst e1
      exact ownC_front ho
    · refine h.own.of_block fun j hj => ?_
      cases hj
      exact (hk.same g ⟨hgb.1, by rw [e1]; intro he; cases he; omega⟩ (Nat.lt_of_lt_of_le hgb.2 hg.size)).trans (hg.block g hgb.2 (by simp))
  · exact .inr ⟨rfl, hj⟩

end Go.Proofs.Ytnhdfpmjebfjmaa
