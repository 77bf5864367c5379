/-
  Level turns of the program, third part: turnsByRule.
  Conditions: lists of at most 1048576 elements.
-/
import Derived.Test.YtnhdfpmjebfjmaaLvJ
import Derived.Test.YtnhdfpmjebfjmaaRecs
namespace Go.Proofs.Ytnhdfpmjebfjmaa
open Go.RowKit Go.Shelf
attribute [local go_sem] Oper.semAt_some

/-! ### rows of ranked items -/
/-- THE SLICE VALUE v OWNS n PAIRS, in all the ints xs, in a block from B on. -/
def OwnR (B : Nat) (W : World) (v : Value) (n : Nat) (xs : List Int) : Prop := W.ownsRow B 108 2 v n (xs.map (.int .i64))
section
variable {B B' n : Nat} {W W' : World} {v : Value} {xs : List Int}
theorem OwnR.len (h : OwnR B W v n xs) : xs.length = n * 2 := by have := h.1; simpa using this
theorem OwnR.prs (h : OwnR B W v n xs) : Prs W.heap.size W v n xs := by
  have hl := h.len
  have h' : W.ownsRow B 108 2 v n (xs.map (.int .i64)) := h
  obtain ⟨_, h2⟩ := id h'
  rcases h2 with ⟨rfl, h0⟩ | ⟨g, cap, cur, rfl, hg, hh, hn, hm, hs, ht⟩
  · exact ⟨none, 0, by simp [h0], hl, .inl h0⟩
  · refine ⟨_, cap, rfl, hl, .inr ⟨g, 0, rfl, (Array.getElem?_eq_some_iff.1 hh).1, fun j hj => ?_⟩⟩
    rw [Nat.zero_add, World.ownsRow.cellAt h' j (by omega)]
    simp [getElem?_nth (show j < xs.length by omega)]
theorem OwnR.blk (h : OwnR B W v n xs) : ∀ k, v.ownBlock = some k → B ≤ k ∧ k < W.heap.size := World.ownsRow.lt h
theorem OwnR.kept {row : Option Nat} (h : OwnR B W v n xs) (hg : W.grownBy W' row) (hne : v.ownBlock = none ∨ v.ownBlock ≠ row) : OwnR B W' v n xs := World.ownsRow.kept h hg hne
theorem OwnR.of_block (h : OwnR B W v n xs) (hb : ∀ k, v.ownBlock = some k → W'.heap[k]? = W.heap[k]?) : OwnR B W' v n xs := by
  obtain ⟨h1, h2⟩ := h
  refine ⟨h1, ?_⟩
  rcases h2 with ⟨e, h0⟩ | ⟨g, cap, cur, e, hg, hh, r⟩
  · exact .inl ⟨e, h0⟩
  · exact .inr ⟨g, cap, cur, e, hg, (hb g (by simp [e, Value.ownBlock])).trans hh, r⟩
theorem OwnR.below (h : OwnR B W v n xs) (hb : Below W.heap.size W W') : OwnR B W' v n xs := h.of_block fun k hk => hb.block k (h.blk k hk).2
end
theorem ownR_nil (B : Nat) (W : World) : OwnR B W (.slice none 0 0) 0 [] := World.ownsRow_nil _ _ _ _
theorem ownR_Own {β : Type} (B : Nat) (v : Value) (n : β → Nat) (f : β → List Int) : Own (fun s W => OwnR B W v (n s) (f s)) := fun s X Y row hs hg hrow =>
  hs.of_block fun k hk => hg.block k (hs.blk k hk).2 (fun e' => by
    obtain ⟨o, ho, hc⟩ := hrow k e'.symm
    have hrr : X.ownsRow B 108 2 v (n s) ((f s).map (.int .i64)) := hs
    rcases hrr.2 with ⟨e, _⟩ | ⟨g, cap, cur, e, _, hh, _⟩
    · subst e; simp [Value.ownBlock] at hk
    · subst e
      simp [Value.ownBlock] at hk
      subst hk
      rw [hh] at ho; cases ho; cases hc)
theorem boxRowR_Own {β : Type} (B top : Nat) (t : TypeId) (n : β → Nat) (f : β → List Int) : Own (fun s W => ∃ v, Boxed W B t v ∧ OwnR top W v (n s) (f s)) := by
  rintro s X Y row ⟨v, hv, ho⟩ hg hrow
  exact ⟨v, boxed_own B t (fun (_ : Unit) => v) () X Y row hv hg hrow, ownR_Own top v (fun (_ : Unit) => n s) (fun (_ : Unit) => f s) () X Y row ho hg hrow⟩
theorem ownR_snoc {B : Nat} {W : World} {v : Value} {cs : List (Int × Int)} {x y : Int} (h : W.ownsRow B 108 2 v (cs.length + 1) ((flat cs).map (Value.int .i64) ++ [.int .i64 x, .int .i64 y])) : OwnR B W v (cs ++ [(x, y)]).length (flat (cs ++ [(x, y)])) := by
  rw [flat_append, List.length_append]
  unfold OwnR; rw [List.map_append]; exact h
theorem cell_two_newR (w : World) (x y : Value) (t : TypeId) : ∀ j u, [x, y][j]? = some u → (w.alloc (.cells #[x, y] t)).cell? ((⟨w.heap.size, 0, none⟩ : Addr).add j) = some u := by
  intro j u hj
  match j, hj with
  | 0, hj =>
    simp at hj
    subst hj
    simp [Addr.add]
  | 1, hj =>
    simp at hj
    subst hj
    simp [Addr.add]
  | j + 2, hj => simp at hj

theorem Try.infoR : (Try.prog.info? 108).map (fun i => (i.zero, i.size, i.bytes)) = some (some (.agg #[.int .i64 0, .int .i64 0]), 2, 16) := by kernel_rfl
theorem info_partsR {P : Program} {t : TypeId} {z : Value} {a b : Nat} (h : (P.info? t).map (fun i => (i.zero, i.size, i.bytes)) = some (some z, a, b)) : ∃ i, P.info? t = some i ∧ i.zero = some z ∧ i.size = a ∧ i.bytes = b := by
  cases e : P.info? t with
  | none => simp [e] at h
  | some i => simp [e] at h; exact ⟨i, rfl, h.1, h.2.1, h.2.2⟩

/-! ### a rule, and what it picks -/
structure RuleOk (rf : Nat) (b : Int) (rk : Int → Int → Int → Int → Int) (my : Int → Int → Int → Int → Bool) : Prop where
  go : ∀ (u s h sl : Int) (w : World), NtB u s h sl → Calls Try.prog rf #[.agg #[.int .i64 u, .int .i64 s, .int .i64 h, .int .i64 sl], .int .i64 b] w fun e w' => e = .returned (.tuple #[.int .i64 (rk u s h sl), .bool (my u s h sl)]) ∧ Below w.heap.size w w'
  ent : ∀ args w, (callFunc rf args).run Try.prog w = .ok (.enter rf args) w
def okR (my : Int → Int → Int → Int → Bool) (ds : List Int) (N : Int) (h : List Int) (n : Nat) (i : Nat) : Bool := my N (nth ds i) (nth h i) n && decide (nth h i < nth ds i)
def rkR (rk : Int → Int → Int → Int → Int) (ds : List Int) (N : Int) (h : List Int) (n : Nat) (i : Nat) : Int := rk N (nth ds i) (nth h i) n
def pickR (rk : Int → Int → Int → Int → Int) (my : Int → Int → Int → Int → Bool) (ds : List Int) (N : Int) (h : List Int) (n : Nat) : Option Nat := pickTo (okR my ds N h n) (rkR rk ds N h n) ds.length
/-- the list of those that may, below k -/
def opnR (ok : Nat → Bool) (rk : Nat → Int) (k : Nat) : List (Int × Int) := ((List.range k).filter ok).map fun (i : Nat) => ((i : Int), rk i)
theorem opnR_yes {ok : Nat → Bool} {rk : Nat → Int} {k : Nat} (h : ok k = true) : opnR ok rk (k + 1) = opnR ok rk k ++ [((k : Int), rk k)] := by
  simp [opnR, List.range_succ, h]
theorem opnR_no {ok : Nat → Bool} {rk : Nat → Int} {k : Nat} (h : ok k = false) : opnR ok rk (k + 1) = opnR ok rk k := by
  simp [opnR, List.range_succ, h]
theorem opnR_len (ok : Nat → Bool) (rk : Nat → Int) (k : Nat) : (opnR ok rk k).length ≤ k := by
  unfold opnR
  rw [List.length_map]
  have := List.length_filter_le ok (List.range k)
  simpa using this
theorem opnR_none {ok : Nat → Bool} {rk : Nat → Int} {k : Nat} (h : (opnR ok rk k).length = 0) : pickTo ok rk k = none := by
  unfold opnR at h
  rw [List.length_map, List.length_eq_zero_iff, List.filter_eq_nil_iff] at h
  exact pickTo_none fun i hi => by have := h i (by simpa using hi); simpa using this
theorem opnR_some {ok : Nat → Bool} {rk : Nat → Int} {k j : Nat} (h : FstLeast (opnR ok rk k) (opnR ok rk k).length j) : ∃ i : Nat, rst (opnR ok rk k) j = i ∧ pickTo ok rk k = some i ∧ i < k := by
  obtain ⟨hj, hm⟩ := h
  have hlen : (opnR ok rk k).length = ((List.range k).filter ok).length := by simp [opnR]
  rw [hlen] at hj
  have hat : ∀ (q : Nat) (hq : q < ((List.range k).filter ok).length), rst (opnR ok rk k) q = (((List.range k).filter ok)[q] : Nat) ∧ gp (opnR ok rk k) q = rk ((List.range k).filter ok)[q] := fun q hq => by
    unfold rst gp opnR
    rw [List.getElem?_map, List.getElem?_eq_getElem hq]
    exact ⟨rfl, rfl⟩
  have hmem : ((List.range k).filter ok)[j] ∈ (List.range k).filter ok := List.getElem_mem hj
  rw [List.mem_filter, List.mem_range] at hmem
  refine ⟨((List.range k).filter ok)[j], (hat j hj).1, pick_filter hj fun i hi => ?_, hmem.1⟩
  have := hm i (by rw [hlen]; exact hi)
  rw [(hat j hj).2, (hat i hi).2] at this
  exact this
theorem fairR (rk : Int → Int → Int → Int → Int) (my : Int → Int → Int → Int → Bool) (ds : List Int) (N : Int) : Fair ds (pickR rk my ds N) := fun h n i hp => by
  obtain ⟨h1, h2, _⟩ := pickTo_some hp
  unfold okR at h2
  rw [Bool.and_eq_true] at h2
  exact ⟨h1, by simpa using h2.2⟩

/-! ### what a round of the loop over the slots knows -/
theorem appendedR {W w1 : World} {top B : Nat} {t : TypeId} {v v' : Value} {n m : Nat} {xs ys : List Int} {tmp : Obj} (hv : Boxed W B t v) (hB : B < top) (hrow : OwnR top W v n xs) (hown' : OwnR top w1 v' m ys) (hgrow : (W.alloc tmp).grownBy w1 v.ownBlock) :
    Boxed w1 B t v ∧ Boxed (w1.setCell ⟨B, 0, none⟩ v') B t v' ∧ OwnR top (w1.setCell ⟨B, 0, none⟩ v') v' m ys ∧ Chg (fun k => k = B ∨ top ≤ k) W (w1.setCell ⟨B, 0, none⟩ v') := by
  have hb1 : Boxed w1 B t v := (hv.alloc tmp).kept hgrow (fun e => by have := (hrow.blk B e.symm).1; omega)
  refine ⟨hb1, hb1.set v', hown'.kept (grownBy_setCell' w1 B v') (.inr fun e => by have := (hown'.blk B e).1; omega), ?_⟩
  exact ((Chg.alloc _ W tmp).trans (Chg.grown hgrow (fun k e => .inr (hrow.blk k e).1))).trans (Chg.setCell _ _ _ _ (.inl rfl))
theorem own_cells {B k : Nat} {W : World} {v : Value} {zs : List Int} (h : OwnI B W v zs) (e : v.ownBlock = some k) : ∃ cur, W.heap[k]? = some (.cells cur 2 (0, 0)) := by
  obtain ⟨_, h2⟩ := h
  rcases h2 with ⟨rfl, _⟩ | ⟨g, cap, cur, rfl, hg, hh, _⟩
  · simp [Value.ownBlock] at e
  · simp [Value.ownBlock] at e
    subst e
    exact ⟨cur, hh⟩
theorem Opens.grownO {B : Nat} {W W' : World} {rs : List Nat} {v : Value} {zs : List Int} (h : Opens W rs) (ho : OwnI B W v zs) (hg : W.grownBy W' v.ownBlock) : Opens W' rs :=
  ⟨h.nodup, fun D hD => (hg.block D (h.lt hD) (fun e => by
    obtain ⟨cur, hc⟩ := own_cells ho e.symm
    rw [h.all D hD] at hc
    cases hc)).trans (h.all D hD)⟩
structure EnvL (w W : World) (rf : Nat) (b : Int) (N K bu bh gh lo : Nat) (u : Value) (ts h : List Int) (rs : List Nat) : Prop where
  ru : Boxed W w.heap.size 83 (.func (.func rf) #[] #[])
  bb : Boxed W (w.heap.size + 1) 2 (.int .i64 b)
  un : Boxed W bu 2 (.int .i64 N)
  hd : Boxed W bh 22 (.slice (some ⟨gh, 0, none⟩) K K)
  row : OwnI w.heap.size W (.slice (some ⟨gh, 0, none⟩) K K) h
  tu : OwnI lo W u ts
  below : Below w.heap.size w W
  op : Opens W rs
  lw : ∀ D ∈ rs, w.heap.size ≤ D
  le : lo ≤ W.heap.size
  bl : w.heap.size + 2 ≤ bu ∧ bu < lo ∧ bh < lo ∧ gh < lo ∧ w.heap.size + 2 ≤ gh ∧ w.heap.size + 2 ≤ bh
  ne : bu ≠ gh ∧ bh ≠ gh
section
variable {w W W' : World} {rf : Nat} {b : Int} {N K bu bh gh lo : Nat} {u : Value} {ts h : List Int} {rs : List Nat}
theorem EnvL.later (E : EnvL w W rf b N K bu bh gh lo u ts h rs) (hb : Below W.heap.size W W') : EnvL w W' rf b N K bu bh gh lo u ts h rs :=
  ⟨boxed_later E.ru hb, boxed_later E.bb hb, boxed_later E.un hb, boxed_later E.hd hb, E.row.below hb, E.tu.below hb, E.below.trans (hb.mono E.below.size), E.op.below hb, E.lw, Nat.le_trans E.le hb.size, E.bl, E.ne⟩
theorem EnvL.recd (E : EnvL w W rf b N K bu bh gh lo u ts h rs) {D B : Nat} (hD : W.heap[D]? = some (.deferred (some []))) (hn : ∀ E ∈ rs, E < B) (hB : B ≤ D) (hw : w.heap.size ≤ D) : EnvL w W rf b N K bu bh gh lo u ts h (D :: rs) :=
  { E with op := E.op.cons hD hn hB, lw := fun F hF => by rcases List.mem_cons.1 hF with rfl | hF; exact hw; exact E.lw F hF }
theorem EnvL.nb (E : EnvL w W rf b N K bu bh gh lo u ts h rs) : u.ownBlock ≠ some gh := fun e => by have := (E.tu.blk gh e).1; have := E.bl; omega
/-- a turn more of the task i in the list of those had -/
theorem EnvL.store (E : EnvL w W rf b N K bu bh gh lo u ts h rs) (i : Nat) (x : Int) : EnvL w (W.setCell ⟨gh, i, none⟩ (.int .i64 x)) rf b N K bu bh gh lo u ts (h.set i x) rs := by
  obtain ⟨r1, r2⟩ := E.row.stored i x
  have hb := E.bl
  have hn := E.ne
  refine ⟨E.ru.kept r2 (by simp; omega), E.bb.kept r2 (by simp; omega), E.un.kept r2 (by simpa using hn.1), E.hd.kept r2 (by simpa using hn.2), r1, E.tu.kept r2 (.inr E.nb), ?_, E.op.setCell _ _, E.lw, ?_, hb, hn⟩
  · exact E.below.grown r2 E.below.size (fun j e => by have h1 : gh = j := (by simpa using e); omega)
  · exact Nat.le_trans E.le r2.size
/-- a slot more -/
theorem EnvL.append (E : EnvL w W rf b N K bu bh gh lo u ts h rs) {v' : Value} {ts' : List Int} (hg : W.grownBy W' u.ownBlock) (ho : OwnI lo W' v' ts') : EnvL w W' rf b N K bu bh gh lo v' ts' h rs := by
  have hb := E.bl
  have hn := E.ne
  have hk : ∀ k, k < lo → some k ≠ u.ownBlock := fun k hk e => by have := (E.tu.blk k e.symm).1; omega
  refine ⟨E.ru.kept hg (hk _ (by omega)), E.bb.kept hg (hk _ (by omega)), E.un.kept hg (hk _ (by omega)), E.hd.kept hg (hk _ (by omega)), E.row.kept hg (.inr (hk gh (by omega))), ho, ?_, E.op.grownO E.tu hg, E.lw, Nat.le_trans E.le hg.size, hb, hn⟩
  exact E.below.grown hg E.below.size (fun j e => by have := (E.tu.blk j e).1; omega)
end

/-- the loop over the slots: what holds ahead of each -/
def InvT (pick : List Int → Nat → Option Nat) (a : Option Addr) (cap : Nat) (w : World) (rf : Nat) (b : Int) (N K bu bh gh lo : Nat) (a' : Act) (W : World) : Prop :=
  ∃ (k : Nat) (u : Value) (ts h : List Int) (rs : List Nat) (u11 u12 u13 u14 u15 u16 u17 u18 u26 u27 u28 u29 u30 u31 u32 u33 u34 u35 u36 u37 u38 u39 u40 u41 u42 u43 u44 u45 u46 u47 u48 u49 u50 u51 u52 u53 u54 u55 u56 u57 u58 u59 u60 u61 u62 u63 u64 u65 u66 u67 u68 u69 u70 u71 u72 u73 u74 u75 u76 u77 u78 u79 u80 u81 : Value), (k ≤ N ∧ rs.length = k ∧ runTo pick K k = some (ts, h) ∧ EnvL w W rf b N K bu bh gh lo u ts h rs) ∧ a' = { tmps := #[.slice a K cap, .func (.func rf) #[] #[], .int .i64 b, undef, .pointer (some ⟨w.heap.size, 0, none⟩), .pointer (some ⟨w.heap.size + 1, 0, none⟩), .slice none 0 0, .bool false, .pointer (some ⟨bu, 0, none⟩), .pointer (some ⟨bh, 0, none⟩), u, u11, u12, u13, u14, u15, u16, u17, u18, .slice a K cap, .int .i64 N, .slice a K cap, .int .i64 K, .slice (some ⟨gh, 0, none⟩) K K, .int .i64 N, .int .i64 k, u26, u27, u28, u29, u30, u31, u32, u33, u34, u35, u36, u37, u38, u39, u40, u41, u42, u43, u44, u45, u46, u47, u48, u49, u50, u51, u52, u53, u54, u55, u56, u57, u58, u59, u60, u61, u62, u63, u64, u65, u66, u67, u68, u69, u70, u71, u72, u73, u74, u75, u76, u77, u78, u79, u80, u81], defers := rs.map recD }
theorem InvT.elim {pick : List Int → Nat → Option Nat} {a : Option Addr} {cap : Nat} {w : World} {rf : Nat} {b : Int} {N K bu bh gh lo : Nat} {a' : Act} {W : World} {p : Act → Prop} (hI : InvT pick a cap w rf b N K bu bh gh lo a' W)
    (hp : ∀ (k : Nat) (u : Value) (ts h : List Int) (rs : List Nat) (u11 u12 u13 u14 u15 u16 u17 u18 u26 u27 u28 u29 u30 u31 u32 u33 u34 u35 u36 u37 u38 u39 u40 u41 u42 u43 u44 u45 u46 u47 u48 u49 u50 u51 u52 u53 u54 u55 u56 u57 u58 u59 u60 u61 u62 u63 u64 u65 u66 u67 u68 u69 u70 u71 u72 u73 u74 u75 u76 u77 u78 u79 u80 u81 : Value), (k ≤ N ∧ rs.length = k ∧ runTo pick K k = some (ts, h) ∧ EnvL w W rf b N K bu bh gh lo u ts h rs) → p { tmps := #[.slice a K cap, .func (.func rf) #[] #[], .int .i64 b, undef, .pointer (some ⟨w.heap.size, 0, none⟩), .pointer (some ⟨w.heap.size + 1, 0, none⟩), .slice none 0 0, .bool false, .pointer (some ⟨bu, 0, none⟩), .pointer (some ⟨bh, 0, none⟩), u, u11, u12, u13, u14, u15, u16, u17, u18, .slice a K cap, .int .i64 N, .slice a K cap, .int .i64 K, .slice (some ⟨gh, 0, none⟩) K K, .int .i64 N, .int .i64 k, u26, u27, u28, u29, u30, u31, u32, u33, u34, u35, u36, u37, u38, u39, u40, u41, u42, u43, u44, u45, u46, u47, u48, u49, u50, u51, u52, u53, u54, u55, u56, u57, u58, u59, u60, u61, u62, u63, u64, u65, u66, u67, u68, u69, u70, u71, u72, u73, u74, u75, u76, u77, u78, u79, u80, u81], defers := rs.map recD }) : p a' :=
  Exists.elim hI fun k hI => Exists.elim hI fun u hI => Exists.elim hI fun ts hI => Exists.elim hI fun h hI => Exists.elim hI fun rs hI => Exists.elim hI fun u11 hI => Exists.elim hI fun u12 hI => Exists.elim hI fun u13 hI => Exists.elim hI fun u14 hI => Exists.elim hI fun u15 hI => Exists.elim hI fun u16 hI => Exists.elim hI fun u17 hI => Exists.elim hI fun u18 hI => Exists.elim hI fun u26 hI => Exists.elim hI fun u27 hI => Exists.elim hI fun u28 hI => Exists.elim hI fun u29 hI => Exists.elim hI fun u30 hI => Exists.elim hI fun u31 hI => Exists.elim hI fun u32 hI => Exists.elim hI fun u33 hI => Exists.elim hI fun u34 hI => Exists.elim hI fun u35 hI => Exists.elim hI fun u36 hI => Exists.elim hI fun u37 hI => Exists.elim hI fun u38 hI => Exists.elim hI fun u39 hI => Exists.elim hI fun u40 hI => Exists.elim hI fun u41 hI => Exists.elim hI fun u42 hI => Exists.elim hI fun u43 hI => Exists.elim hI fun u44 hI => Exists.elim hI fun u45 hI => Exists.elim hI fun u46 hI => Exists.elim hI fun u47 hI => Exists.elim hI fun u48 hI => Exists.elim hI fun u49 hI => Exists.elim hI fun u50 hI => Exists.elim hI fun u51 hI => Exists.elim hI fun u52 hI => Exists.elim hI fun u53 hI => Exists.elim hI fun u54 hI => Exists.elim hI fun u55 hI => Exists.elim hI fun u56 hI => Exists.elim hI fun u57 hI => Exists.elim hI fun u58 hI => Exists.elim hI fun u59 hI => Exists.elim hI fun u60 hI => Exists.elim hI fun u61 hI => Exists.elim hI fun u62 hI => Exists.elim hI fun u63 hI => Exists.elim hI fun u64 hI => Exists.elim hI fun u65 hI => Exists.elim hI fun u66 hI => Exists.elim hI fun u67 hI => Exists.elim hI fun u68 hI => Exists.elim hI fun u69 hI => Exists.elim hI fun u70 hI => Exists.elim hI fun u71 hI => Exists.elim hI fun u72 hI => Exists.elim hI fun u73 hI => Exists.elim hI fun u74 hI => Exists.elim hI fun u75 hI => Exists.elim hI fun u76 hI => Exists.elim hI fun u77 hI => Exists.elim hI fun u78 hI => Exists.elim hI fun u79 hI => Exists.elim hI fun u80 hI => Exists.elim hI fun u81 hI => by
    obtain ⟨hf, rfl⟩ := hI
    exact hp _ _ _ _ _ _ _ _ _ _ _ _ _ _ _ _ _ _ _ _ _ _ _ _ _ _ _ _ _ _ _ _ _ _ _ _ _ _ _ _ _ _ _ _ _ _ _ _ _ _ _ _ _ _ _ _ _ _ _ _ _ _ _ _ _ _ _ _ _ hf

set_option maxRecDepth 100000 in
set_option maxHeartbeats 16000000 in
theorem turnsByRule_c (rf : Nat) (rk : Int → Int → Int → Int → Int) (my : Int → Int → Int → Int → Bool) (c0 : Value) (ds : List Int) (N : Nat) (b : Int) (w : World) (hI : Ints w.heap.size w c0 ds) (hD : Dso ds N) (hR : RuleOk rf b rk my) :
    Calls Try.prog 68 #[c0, .func (.func rf) #[] #[], .int .i64 b] w (GivesI w (runL (pickR rk my ds N) ds.length N) fun v => .tuple #[v, .bool (runB (pickR rk my ds N) ds.length N)]) := by
  obtain ⟨a, cap, rfl⟩ := hI.shape
  obtain ⟨i0, hi, hz0, hz1, hz2⟩ := info_parts Try.infoI2
  obtain ⟨ir, hr0, hr1, hr2, hr3⟩ := info_partsR Try.infoR
  have HD := Lib.hid hD
  have hlen := hD.len
  have hn := hD.n
  have hfw : Try.prog.follows Departure.mixedOrders = true := by kernel_rfl
  have Hsum := Lib.hid hD.sum
  obtain ⟨K, hK⟩ : ∃ K, ds.length = K := ⟨_, rfl⟩
  clear hD
  rw [hK] at hlen hI ⊢
  have HI := Lib.hid hI
  clear hI
  have HK := Lib.hid hK
  clear hK
  obtain ⟨Wr, hWr⟩ : ∃ Wr, (w.alloc (.cells #[.func (.func rf) #[] #[]] 83)).alloc (.cells #[.int .i64 b] 2) = Wr := ⟨_, rfl⟩
  have hBr : Below w.heap.size w Wr := by rw [← hWr]; exact ((Below.refl _ w).alloc (Nat.le_refl _) _).alloc (by simp) _
  have hsr : w.heap.size + 2 ≤ Wr.heap.size := by rw [← hWr]; simp
  have bRu : Boxed Wr w.heap.size 83 (.func (.func rf) #[] #[]) := by rw [← hWr]; exact (Boxed.new _ _ _).alloc _
  have bB : Boxed Wr (w.heap.size + 1) 2 (.int .i64 b) := by rw [← hWr]; refine boxed_at ?_; simp
  refine (callsIn_wide (n := 9)).1 ?_
  refine callsIn_of_wp_marks Try.func68 rfl trivial ?_ rfl
  simp only [Try.ntmps68, List.size_toArray, List.length_cons, List.length_nil, Nat.reduceAdd, Nat.reduceSub, Array.replicate_succ, Array.replicate_zero, List.push_toArray, List.append_toArray, List.nil_append, List.cons_append]
  gi_wp2_with fail
  try rw [hWr]
  clear hWr
  refine ⟨trivial, (callsIn_wide.2 (unitsOf_c _ ds Wr (HI.out.later hBr) (by rw [HK.out]; omega) HD.out.el)).mono ?_⟩
  rintro e w1 ⟨he, hb1⟩
  rw [Hsum.out] at he
  subst he
  have bRu1 := boxed_later bRu hb1
  have bB1 := boxed_later bB hb1
  have hB1 := hBr.trans (hb1.mono hBr.size)
  have hs1 : w.heap.size + 2 ≤ w1.heap.size := by have := hb1.size; omega
  obtain ⟨w2, hw2⟩ : ∃ w2, w1.alloc (.cells #[.int .i64 N] 2) = w2 := ⟨_, rfl⟩
  have hb2 : Below w1.heap.size w1 w2 := by rw [← hw2]; exact (Below.refl _ _).alloc (Nat.le_refl _) _
  have bU2 : Boxed w2 w1.heap.size 2 (.int .i64 N) := by rw [← hw2]; exact Boxed.new _ _ _
  have hs2 : w1.heap.size + 1 = w2.heap.size := by rw [← hw2]; simp
  have bRu2 := boxed_later bRu1 hb2
  have bB2 := boxed_later bB1 hb2
  have hB2 := hB1.trans (hb2.mono hB1.size)
  have HS2 := Lib.hid hs2
  have hs2' : w.heap.size + 3 ≤ w2.heap.size := by omega
  clear bRu bB hBr hsr hb1 bRu1 bB1 hB1 hb2 hs2
  gi_wp2_with (gi_at_make; refine makeIn_full _ rfl _ _ 22 rfl w.heap.size 2 i0 (.int .i64 0) 1 Try.underlying22 hi hz0 hz1 .i64 .i64 _ _ K rfl rfl rfl rfl ?c1 ?c2 ?c3 ?_)
  case c1 => rw [hz2]; omega
  case c2 => unfold maxLen; omega
  case c3 => exact hB2.size
  intro w3 hown hgrow
  have ho3 := ownI_made hown
  have bRu3 := bRu2.kept hgrow (by simp)
  have bB3 := bB2.kept hgrow (by simp)
  have bU3 := bU2.kept hgrow (by simp)
  have hB3 : Below w.heap.size w w3 := hB2.grown hgrow hB2.size (by simp)
  have hs3 : w2.heap.size ≤ w3.heap.size := hgrow.size
  have hgl : w2.heap.size < w3.heap.size := (ho3.blk _ rfl).2
  have hs2 := HS2.out
  obtain ⟨gh, hgh⟩ : ∃ gh, w2.heap.size = gh := ⟨_, rfl⟩
  obtain ⟨bu, hbu⟩ : ∃ bu, w1.heap.size = bu := ⟨_, rfl⟩
  rw [hgh] at hs2 hs2' hs3 hgl ho3 ⊢
  rw [hbu] at hs1 hs2 bU3 ⊢
  obtain ⟨w4, hw4⟩ : ∃ w4, w3.alloc (.cells #[.slice (some ⟨gh, 0, none⟩) K K] 22) = w4 := ⟨_, rfl⟩
  have hb4 : Below w3.heap.size w3 w4 := by rw [← hw4]; exact (Below.refl _ _).alloc (Nat.le_refl _) _
  have bH4 : Boxed w4 w3.heap.size 22 (.slice (some ⟨gh, 0, none⟩) K K) := by rw [← hw4]; exact Boxed.new _ _ _
  have hs4 : w3.heap.size + 1 ≤ w4.heap.size := by rw [← hw4]; simp
  obtain ⟨bh, hbh⟩ : ∃ bh, w3.heap.size = bh := ⟨_, rfl⟩
  have E4 : EnvL w w4 rf b N K bu bh gh (bh + 1) (.slice none 0 0) [] (List.replicate K 0) [] :=
    ⟨boxed_later bRu3 hb4, boxed_later bB3 hb4, boxed_later bU3 hb4, hbh ▸ bH4, ho3.below hb4, ownI_nil _ _, hB3.trans (hb4.mono hB3.size), Opens.nil _, by simp, by omega, by omega, by omega⟩
  have cU := E4.un.cell
  clear hown hgrow bRu2 bB2 bU2 hB2 bRu3 bB3 bU3 hB3 hb4 bH4 hs2 ho3 hw2 HS2
  clear hgh hbu
  gi_wp2
  try rw [hbh]
  clear hbh
  refine wpIn_loop (InvT (pickR rk my ds N) a cap w rf b N K bu bh gh (bh + 1)) (fun a' _ => N - a'.defers.length) ?start ?round
  case start => exact ⟨0, _, _, _, [], _, _, _, _, _, _, _, _, _, _, _, _, _, _, _, _, _, _, _, _, _, _, _, _, _, _, _, _, _, _, _, _, _, _, _, _, _, _, _, _, _, _, _, _, _, _, _, _, _, _, _, _, _, _, _, _, _, _, _, _, _, _, _, _, ⟨Nat.zero_le _, rfl, rfl, E4⟩, rfl⟩
  case round =>
    intro a' W hA
    apply InvT.elim hA
    clear hA a'
    intro k u ts h rs u11 u12 u13 u14 u15 u16 u17 u18 u26 u27 u28 u29 u30 u31 u32 u33 u34 u35 u36 u37 u38 u39 u40 u41 u42 u43 u44 u45 u46 u47 u48 u49 u50 u51 u52 u53 u54 u55 u56 u57 u58 u59 u60 u61 u62 u63 u64 u65 u66 u67 u68 u69 u70 u71 u72 u73 u74 u75 u76 u77 u78 u79 u80 u81 ⟨hk, hrl, hrun, E⟩
    dsimp only
    clear E4 cU hw4
    have Hrl := Lib.hid hrl
    have Hrun := Lib.hid hrun
    have HR := Lib.hid hR
    have hHad : Had ds k ts h := by have hr2 := hrun; rw [← HK.out] at hr2; exact run_had HD.out.zero (fairR rk my ds N) hr2
    have HH := Lib.hid hHad
    have hhl : h.length = K := by rw [hHad.hl]; exact HK.out
    have Hhl := Lib.hid hhl
    have hsE := E.below.size
    have hbE := E.bl
    have hnE := E.ne
    have hleE := E.le
    clear hrl hrun hR hHad hhl
    by_cases hlt : k < N
    · have hkN : (k : Int) < (N : Int) := by omega
      gi_wp2_with (first | (gi_at_call 88; refine (callsIn_wide.2 (numbered_c _ _ _ _)).mono ?_; rintro e w' ⟨rfl, rfl⟩) | (refine ⟨trivial, ?_⟩; gi_at_call 88; refine (callsIn_wide.2 (numbered_c _ _ _ _)).mono ?_; rintro e w' ⟨rfl, rfl⟩))
      obtain ⟨W4, hW5⟩ : ∃ W4, (((W.alloc (.cells #[.int .i64 k] 2)).alloc (.cells #[.slice none 0 0] 103)).alloc (.cells #[.slice a K cap] 22)) = W4 := ⟨_, rfl⟩
      have hB5 : Below W.heap.size W W4 := by rw [← hW5]; exact ((((Below.refl _ W).alloc (Nat.le_refl _) _).alloc (by simp; try omega) _).alloc (by simp; try omega) _)
      have hs5 : W.heap.size + 3 ≤ W4.heap.size := by rw [← hW5]; simp
      have bS : Boxed W4 (W.heap.size) 2 (.int .i64 k) := by rw [← hW5]; repeat first | (refine boxed_at ?_; (simp; done)) | refine Boxed.alloc ?_ _
      have bO : Boxed W4 (W.heap.size + 1) 103 (.slice none 0 0) := by rw [← hW5]; repeat first | (refine boxed_at ?_; (simp; done)) | refine Boxed.alloc ?_ _
      have bN : Boxed W4 (W.heap.size + 1 + 1) 22 (.slice a K cap) := by rw [← hW5]; repeat first | (refine boxed_at ?_; (simp; done)) | refine Boxed.alloc ?_ _
      rw [hW5]
      clear hW5
      have E4 := E.later hB5
      have hltE : ∀ D ∈ rs, D < W.heap.size := fun D hD => E.op.lt hD
      have HLT := Lib.hid hltE
      have hsW := E.below.size
      clear hltE
      refine range_outA rfl (by omega) rfl trivial (enters_of Try.func111 (by kernel_rfl) rfl) (numbered_at Fence.wide 8 trivial rfl (by omega) (W.heap.size + 1 + 1) w.heap.size _ ds (by rw [HK.out]; omega) W4 bN (by omega) (HI.out.below E4.below)) (fun b hb => by omega) (fun _ => rfl)
        (fun i V => (∃ v, Boxed V (W.heap.size + 1) 103 v ∧ OwnR (W4.heap.size + 2) V v (opnR (okR my ds N h k) (rkR rk ds N h k) i).length (flat (opnR (okR my ds N h k) (rkR rk ds N h k) i))) ∧ Boxed V W.heap.size 2 (.int .i64 k) ∧ Below W.heap.size W V)
        (fun _ _ _ => False)
        (OwnFrom.and (Own.from (boxRowR_Own _ _ _ _ _) _) (OwnFrom.and (Own.from (boxed_own _ _ _) _) (ownFrom_below (Nat.le_refl _) (by omega))))
        (fun _ _ _ _ _ hs _ _ => hs)
        ⟨⟨_, bO, ownR_nil _ _⟩, bS, hB5⟩ ?a1 ?assign ?body ?done ?stop
      case assign =>
        intro l i V K' hi hK
        simp only [numAt]
        gi_wp2
        exact hK
      case body =>
        rintro l i V hl hr ⟨⟨v, bO1, ho1⟩, bS1, hB1⟩ hi hsV
        have hi2 : i < K := by rw [HK.out] at hi; exact hi
        clear hr bO bS bN E4
        have EV := E.later hB1
        have hhi := HH.out.bd i hi
        have hdi := HD.out.el i hi
        have hnb : ∀ x, Band (fun b => b < w.heap.size) W4.heap.size (W4.heap.size + 2 + 0) x → ¬ (x = W.heap.size + 1 ∨ W4.heap.size + 2 ≤ x) := fun x hx => by rcases hx with hx | hx <;> omega
        have Hnb := Lib.hid hnb
        obtain ⟨rank, hrank⟩ : ∃ x, rk N (nth ds i) (nth h i) k = x := ⟨_, rfl⟩
        obtain ⟨m, hmy⟩ : ∃ x, my N (nth ds i) (nth h i) k = x := ⟨_, rfl⟩
        have Hrank := Lib.hid hrank
        have Hmy := Lib.hid hmy
        have Hgo := Lib.hid (HR.out.go N (nth ds i) (nth h i) k)
        have hent := HR.out.ent
        have hii : (i : Int) < (K : Int) := by omega
        clear hrank hmy hnb
        gi_wp2_with fail
        refine wpIn_region_held (S := fun w' => Below V.heap.size V w') hfw (by kernel_rfl) (fun ⟨_, _, h⟩ => h) (Below.refl _ _).drew ?_
        intro hS0
        refine wpAnyH_take (i := 0) (v := ?vr10) rfl (by kernel_rfl) (by kernel_rfl) (by kernel_rfl) (fun _ _ _ h => h) (.inl ⟨by rfl, ?yr10⟩) hS0 ?_
        case yr10 =>
          intro w' hS
          (have q0 := (EV.later hS).ru.cell; have q1 := (EV.later hS).un.cell; have q2 := (EV.later hS).hd.cell; have q3 := (EV.later hS).row.cellAt (j := i) (by rw [Hhl.out]; exact hi2); have q4 := (boxed_later bS1 hS).cell; have q5 := (EV.later hS).bb.cell; clear hS)
          go_simp
          try with_reducible rfl
        refine wpAnyH_take (i := 1) (v := ?vr11) rfl (by kernel_rfl) (by kernel_rfl) (by kernel_rfl) (fun _ _ _ h => h) (.inl ⟨by rfl, ?yr11⟩) hS0 ?_
        case yr11 =>
          intro w' hS
          (have q0 := (EV.later hS).ru.cell; have q1 := (EV.later hS).un.cell; have q2 := (EV.later hS).hd.cell; have q3 := (EV.later hS).row.cellAt (j := i) (by rw [Hhl.out]; exact hi2); have q4 := (boxed_later bS1 hS).cell; have q5 := (EV.later hS).bb.cell; clear hS)
          go_simp
          try with_reducible rfl
        refine wpAnyH_take (i := 2) (v := ?vr12) rfl (by kernel_rfl) (by kernel_rfl) (by kernel_rfl) (fun _ _ _ h => h) (.inl ⟨by rfl, ?yr12⟩) hS0 ?_
        case yr12 =>
          intro w' hS
          (have q0 := (EV.later hS).ru.cell; have q1 := (EV.later hS).un.cell; have q2 := (EV.later hS).hd.cell; have q3 := (EV.later hS).row.cellAt (j := i) (by rw [Hhl.out]; exact hi2); have q4 := (boxed_later bS1 hS).cell; have q5 := (EV.later hS).bb.cell; clear hS)
          go_simp
          try with_reducible rfl
        refine wpAnyH_take (i := 3) (v := ?vr13) rfl (by kernel_rfl) (by kernel_rfl) (by kernel_rfl) (fun _ _ _ h => h) (.inl ⟨by rfl, ?yr13⟩) hS0 ?_
        case yr13 =>
          intro w' hS
          (have q0 := (EV.later hS).ru.cell; have q1 := (EV.later hS).un.cell; have q2 := (EV.later hS).hd.cell; have q3 := (EV.later hS).row.cellAt (j := i) (by rw [Hhl.out]; exact hi2); have q4 := (boxed_later bS1 hS).cell; have q5 := (EV.later hS).bb.cell; clear hS)
          go_simp
          try with_reducible rfl
        refine wpAnyH_take (i := 4) (v := ?vr14) rfl (by kernel_rfl) (by kernel_rfl) (by kernel_rfl) (fun _ _ _ h => h) (.inl ⟨by rfl, ?yr14⟩) hS0 ?_
        case yr14 =>
          intro w' hS
          (have q0 := (EV.later hS).ru.cell; have q1 := (EV.later hS).un.cell; have q2 := (EV.later hS).hd.cell; have q3 := (EV.later hS).row.cellAt (j := i) (by rw [Hhl.out]; exact hi2); have q4 := (boxed_later bS1 hS).cell; have q5 := (EV.later hS).bb.cell; clear hS)
          go_simp
          try with_reducible rfl
        refine wpAnyH_take (i := 5) (v := ?vr15) rfl (by kernel_rfl) (by kernel_rfl) (by kernel_rfl) (fun _ _ _ h => h) (.inl ⟨by rfl, ?yr15⟩) hS0 ?_
        case yr15 =>
          intro w' hS
          (have q0 := (EV.later hS).ru.cell; have q1 := (EV.later hS).un.cell; have q2 := (EV.later hS).hd.cell; have q3 := (EV.later hS).row.cellAt (j := i) (by rw [Hhl.out]; exact hi2); have q4 := (boxed_later bS1 hS).cell; have q5 := (EV.later hS).bb.cell; clear hS)
          go_simp
          try with_reducible rfl
        refine wpAnyH_take (i := 6) (v := ?vr16) rfl (by kernel_rfl) (by kernel_rfl) (by kernel_rfl) (fun _ _ _ h => h) (.inl ⟨by rfl, ?yr16⟩) hS0 ?_
        case yr16 =>
          intro w' hS
          (have q0 := (EV.later hS).ru.cell; have q1 := (EV.later hS).un.cell; have q2 := (EV.later hS).hd.cell; have q3 := (EV.later hS).row.cellAt (j := i) (by rw [Hhl.out]; exact hi2); have q4 := (boxed_later bS1 hS).cell; have q5 := (EV.later hS).bb.cell; clear hS)
          go_simp
          try with_reducible rfl
        refine wpAnyH_take (i := 7) (v := ?vr17) rfl (by kernel_rfl) (by kernel_rfl) (by kernel_rfl) (fun _ _ _ h => h) (.inl ⟨by rfl, ?yr17⟩) hS0 ?_
        case yr17 =>
          intro w' hS
          (have q0 := (EV.later hS).ru.cell; have q1 := (EV.later hS).un.cell; have q2 := (EV.later hS).hd.cell; have q3 := (EV.later hS).row.cellAt (j := i) (by rw [Hhl.out]; exact hi2); have q4 := (boxed_later bS1 hS).cell; have q5 := (EV.later hS).bb.cell; clear hS)
          go_simp
          try with_reducible rfl
        refine wpAnyH_take (i := 8) (v := ?vr18) rfl (by kernel_rfl) (by kernel_rfl) (by kernel_rfl) (fun _ _ _ h => h) (.inl ⟨by rfl, ?yr18⟩) hS0 ?_
        case yr18 =>
          intro w' hS
          (have q0 := (EV.later hS).ru.cell; have q1 := (EV.later hS).un.cell; have q2 := (EV.later hS).hd.cell; have q3 := (EV.later hS).row.cellAt (j := i) (by rw [Hhl.out]; exact hi2); have q4 := (boxed_later bS1 hS).cell; have q5 := (EV.later hS).bb.cell; clear hS)
          go_simp
          try with_reducible rfl
        refine wpAnyH_take (i := 9) (v := ?vr19) rfl (by kernel_rfl) (by kernel_rfl) (by kernel_rfl) (fun _ _ _ h => h) (.inl ⟨by rfl, ?yr19⟩) hS0 ?_
        case yr19 =>
          intro w' hS
          (have q0 := (EV.later hS).ru.cell; have q1 := (EV.later hS).un.cell; have q2 := (EV.later hS).hd.cell; have q3 := (EV.later hS).row.cellAt (j := i) (by rw [Hhl.out]; exact hi2); have q4 := (boxed_later bS1 hS).cell; have q5 := (EV.later hS).bb.cell; clear hS)
          go_simp
          try with_reducible rfl
        refine wpAnyH_ready (rs := [10]) (by kernel_rfl) (by simp) ?_
        refine AllReadyH.cons rfl (fun K' hK' => ?_) AllReadyH.nil
        rw [if_pos (by rfl)]
        go_simp
        refine (Hgo.out _ ⟨by omega, by omega, by omega, by omega⟩).mono ?_
        rintro e w9 ⟨he, hb9⟩
        rw [Hrank.out, Hmy.out] at he
        subst he
        have hb8 : Below V.heap.size V w9 := (Below.refl V.heap.size V).drew.trans hb9
        refine hK'.out _ _ hb8 fun hS1 => ?_
        refine wpAnyH_take (i := 11) (v := ?vr211) rfl (by kernel_rfl) (by kernel_rfl) (by kernel_rfl) (fun _ _ _ h => h) (.inl ⟨by rfl, ?yr211⟩) hS1 ?_
        case yr211 =>
          intro w' hS
          (clear hS)
          go_simp
          try with_reducible rfl
        refine wpAnyH_take (i := 12) (v := ?vr212) rfl (by kernel_rfl) (by kernel_rfl) (by kernel_rfl) (fun _ _ _ h => h) (.inl ⟨by rfl, ?yr212⟩) hS1 ?_
        case yr212 =>
          intro w' hS
          (clear hS)
          go_simp
          try with_reducible rfl
        refine wpAnyH_take (i := 13) (v := ?vr213) rfl (by kernel_rfl) (by kernel_rfl) (by kernel_rfl) (fun _ _ _ h => h) (.inl ⟨by rfl, ?yr213⟩) hS1 ?_
        case yr213 =>
          intro w' hS
          (clear hS)
          go_simp
          try with_reducible rfl
        refine wpAnyH_take (i := 14) (v := ?vr214) rfl (by kernel_rfl) (by kernel_rfl) (by kernel_rfl) (fun _ _ _ h => h) (.inl ⟨by rfl, ?yr214⟩) hS1 ?_
        case yr214 =>
          intro w' hS
          (clear hS)
          go_simp
          try with_reducible rfl
        refine wpAnyH_take (i := 15) (v := ?vr215) rfl (by kernel_rfl) (by kernel_rfl) (by kernel_rfl) (fun _ _ _ h => h) (.inl ⟨by rfl, ?yr215⟩) hS1 ?_
        case yr215 =>
          intro w' hS
          (clear hS)
          go_simp
          try with_reducible rfl
        refine wpAnyH_done (by kernel_rfl) ?_ _
        have E9 := EV.later hb8
        have bO9 := boxed_later bO1 hb8
        have ho9 := ho1.below hb8
        have bS9 := boxed_later bS1 hb8
        have hB9 := hB1.trans (hb8.mono hB1.size)
        have hk9 : Kps (Band (fun b => b < w.heap.size) W4.heap.size (W4.heap.size + 2 + 0)) V w9 := Kps.below hb8
        have hV9 := hb8.size
        have q2 := E9.hd.cell
        have q3 := E9.row.cellAt (j := i) (by rw [Hhl.out]; exact hi2)
        clear hS0 hS1 hb9 hb8 hK' bO1 ho1 bS1 hB1 EV hent Hgo
        cases m
        · have hokf : okR my ds N h k i = false := by unfold okR; rw [Hmy.out]; rfl
          have Hn := Lib.hid (opnR_no (rk := rkR rk ds N h k) hokf)
          clear hokf
          gi_wp2
          exact ⟨hk9, ⟨v, bO9, by rw [Hn.out]; exact ho9⟩, bS9, hB9⟩
        · by_cases hhd : nth h i < nth ds i
          · have hokt : okR my ds N h k i = true := by unfold okR; rw [Hmy.out, decide_eq_true hhd]; rfl
            have hrr : rkR rk ds N h k i = rank := Hrank.out
            have hy := opnR_yes (rk := rkR rk ds N h k) hokt
            rw [hrr] at hy
            have Hn := Lib.hid hy
            have hol := opnR_len (okR my ds N h k) (rkR rk ds N h k) i
            obtain ⟨cs, hcs⟩ : ∃ cs, opnR (okR my ds N h k) (rkR rk ds N h k) i = cs := ⟨_, rfl⟩
            rw [hcs] at ho9 hol
            have Hcs := Lib.hid hcs
            have cO := bO9.cell
            clear hokt hrr hy hcs
            gi_wp2_with (gi_at_builtin; refine wpListIn_append_own _ rfl _ _ 103 rfl (W4.heap.size + 2) 108 ir (.agg #[.int .i64 0, .int .i64 0]) 2 16 Try.underlying103 hr0 hr1 hr2 hr3 rfl (by decide) _ _ _ rfl (World.ownsRow.alloc ho9 _) ⟨w9.heap.size, 0, none⟩ 1 1 [.int .i64 i, .int .i64 rank] rfl rfl (cell_two_newR _ _ _ _) (by simp [Value.oneCell']) (by unfold maxLen; omega) (by omega) (by simp; omega) ?_)
            intro v' w1 hown' hgrow _
            have ho2 := ownR_snoc hown'
            obtain ⟨c2, hc2⟩ : ∃ c2, cs ++ [((i : Int), rank)] = c2 := ⟨_, rfl⟩
            rw [hc2] at ho2
            have Hc2 := Lib.hid hc2
            clear hc2
            obtain ⟨r1, r2, r3, r4⟩ := appendedR bO9 (by omega) ho9 ho2 hgrow
            obtain ⟨a', c', rfl⟩ := ho2.prs.shape
            have c1 := r1.cell
            have f1 := r1.frozen
            clear hown' hgrow cO q2 q3
            gi_wp2
            exact ⟨hk9.trans (r4.kps Hnb.out), ⟨_, r2, by rw [Hn.out, Hcs.out, Hc2.out]; exact r3⟩, r4.boxed (by omega) bS9, r4.below hB9 (fun k hk => by omega) hB9.size⟩
          · have hokf : okR my ds N h k i = false := by unfold okR; rw [decide_eq_false hhd]; simp
            have Hn := Lib.hid (opnR_no (rk := rkR rk ds N h k) hokf)
            clear hokf
            gi_wp2
            exact ⟨hk9, ⟨v, bO9, by rw [Hn.out]; exact ho9⟩, bS9, hB9⟩
      case done =>
        rintro D V hDr ⟨⟨v, bO1, ho1⟩, bS1, hB1⟩ hKD
        have E1 := (E.later hB1).recd hKD HLT.out (by omega) (by omega)
        clear bO bS bN E4 E hKD bS1
        rw [HK.out] at ho1
        have hol := opnR_len (okR my ds N h k) (rkR rk ds N h k) K
        obtain ⟨cs, hcs⟩ : ∃ cs, opnR (okR my ds N h k) (rkR rk ds N h k) K = cs := ⟨_, rfl⟩
        rw [hcs] at ho1 hol
        have Hcs := Lib.hid hcs
        clear hcs
        obtain ⟨av, cv, rfl⟩ := ho1.prs.shape
        have cO := bO1.cell
        gi_wp2_with fail
        refine ⟨trivial, (callsIn_wide.2 (least_c _ cs V ho1.prs (by omega))).mono ?_⟩
        rintro e V2 ⟨⟨h0, rfl⟩ | ⟨j, hj, rfl⟩, hb2⟩
        · have hn : pickR rk my ds N h k = none := by unfold pickR; rw [HK.out]; exact opnR_none (by rw [Hcs.out]; exact h0)
          have hst := runTo_none (runTo_stop Hrun.out hn) (show k + 1 ≤ N by omega)
          have Hl := Lib.hid (show runL (pickR rk my ds N) K N = [] ∧ runB (pickR rk my ds N) K N = false by unfold runL runB; rw [hst]; exact ⟨rfl, rfl⟩)
          have hb3 : Below V2.heap.size V2 (V2.alloc (.cells #[.int .i64 0, .int .i64 0] 108)) := (Below.refl _ _).alloc (Nat.le_refl _) _
          have E3 := (E1.later hb2).later hb3
          clear hn hst E1 hb2 hb3 bO1 ho1 cO h0
          gi_wp2
          show bodyPostM _ _ _ _ _ .ret { tmps := _, defers := (D :: rs).map recD } _
          refine retMs E3.op ⟨_, results_tmp2 rfl _ _ _, ?_⟩
          refine ⟨.slice none 0 0, ?_, ?_, below_shutAll E3.below E3.lw⟩
          · rw [Hl.out.2]; rfl
          · rw [Hl.out.1]; exact ownI_nil _ _
        · obtain ⟨i, hri, hpi, hiK⟩ := opnR_some (ok := okR my ds N h k) (rk := rkR rk ds N h k) (k := K) (j := j) (by rw [Hcs.out]; exact hj)
          rw [Hcs.out] at hri
          rw [hri]
          have hpick : pickR rk my ds N h k = some i := by unfold pickR; rw [HK.out]; exact hpi
          have Hnx := Lib.hid (runTo_next Hrun.out hpick)
          obtain ⟨V3, hV3⟩ : ∃ V3, V2.alloc (.cells #[.int .i64 i, .int .i64 (gp cs j)] 108) = V3 := ⟨_, rfl⟩
          have hb3 : Below V2.heap.size V2 V3 := by rw [← hV3]; exact (Below.refl _ _).alloc (Nat.le_refl _) _
          have bF : Box2 V3 V2.heap.size 108 (.int .i64 i) (.int .i64 (gp cs j)) := by rw [← hV3]; exact Box2.new _ _ _ _
          have E2 := E1.later hb2
          have E3 := E2.later hb3
          have hnu : u.ownBlock ≠ some V2.heap.size := fun e => by have := (E2.tu.blk _ e).2; omega
          have kF := bF.c0
          have htl : ts.length ≤ 60 := by have := HH.out.len; omega
          have hhi := HH.out.bd i (by rw [HK.out]; exact hiK)
          have hdi := HD.out.el i (by rw [HK.out]; exact hiK)
          have hii : (i : Int) < (K : Int) := by omega
          have hsz3 : bh + 1 ≤ V3.heap.size := E3.le
          clear hri hpi hpick hj E1 E2 hb2 hb3 bO1 ho1 cO
          gi_wp2_with (gi_at_builtin; refine wpListIn_append_own _ rfl _ _ 22 rfl (bh + 1) 2 i0 (.int .i64 0) 1 8 Try.underlying22 hi hz0 hz1 hz2 rfl (by decide) _ _ _ rfl (World.ownsRow.alloc E3.tu _) ⟨V3.heap.size, 0, none⟩ 1 1 [.int .i64 i] rfl rfl (Go.cell_one_new _ _ _) (by simp [Value.oneCell']) (by unfold maxLen; omega) (by omega) (by simp; omega) ?_)
          intro v' w5 hown' hgrow _
          have ho2 := ownI_snoc hown'
          have hgr : V3.grownBy w5 u.ownBlock := (World.grownBy_alloc _ _ _).trans hgrow
          have E5 := E3.append hgr ho2
          have bF5 := bF.kept hgr (fun e => hnu e.symm)
          have k5 := bF5.c0
          have q2 := E5.hd.cell
          have q3 := E5.row.cellAt (j := i) (by rw [Hhl.out]; exact hiK)
          have f3 := E5.row.frozen i
          have E6 := E5.store i (nth h i + 1)
          clear hown' hgrow hgr E3 bF kF hV3 ho2
          gi_wp2
          have hk1 : (k : Int) + 1 = ((k + 1 : Nat) : Int) := by simp
          rw [hk1]
          refine ⟨⟨k + 1, v', _, _, D :: rs, _, _, _, _, _, _, _, _, _, _, _, _, _, _, _, _, _, _, _, _, _, _, _, _, _, _, _, _, _, _, _, _, _, _, _, _, _, _, _, _, _, _, _, _, _, _, _, _, _, _, _, _, _, _, _, _, _, _, _, _, _, _, _, _, ⟨by omega, by rw [List.length_cons, Hrl.out], Hnx.out, E6⟩, rfl⟩, ?_⟩
          simp only [List.length_cons, List.length_map, Hrl.out]; omega
      case stop =>
        rintro D c k W hD hk h
        exact h.elim
    · obtain rfl : k = N := by omega
      have hkN : ¬ (k : Int) < (k : Int) := by omega
      have Hl := Lib.hid (show runL (pickR rk my ds k) K k = ts ∧ runB (pickR rk my ds k) K k = true by unfold runL runB; rw [Hrun.out]; exact ⟨rfl, rfl⟩)
      clear hkN
      gi_wp2
      refine retMs E.op ⟨_, results_tmp2 rfl _ _ _, ?_⟩
      refine ⟨u, ?_, ?_, below_shutAll E.below E.lw⟩
      · rw [Hl.out.2]; rfl
      · rw [Hl.out.1]; exact (E.tu.base (by omega)).shutAll E.op

end Go.Proofs.Ytnhdfpmjebfjmaa
