/-
  The program's search for safe states: isSafe.
  Conditions: a ground and tasks, as many as places, with at most 20000 states.
-/
import Derived.WalkMore
import Derived.Maps.Range
import Derived.Test.YtgndbifcncklgaaSfp
namespace Go.Proofs.Ytgndbifcncklgaa
open Go.RowKit Go.Shelf
attribute [local go_sem] Oper.semAt_some

/-! ### rows of states -/
/-- the cells of a list of states -/
def flW : List Wst → List Value
  | [] => []
  | x :: xs => (wC x).toList ++ flW xs
theorem flW_length : ∀ xs : List Wst, (flW xs).length = xs.length * 9
  | [] => rfl
  | x :: xs => by simp [flW, wC, flW_length xs]; omega
theorem flW_append : ∀ xs ys : List Wst, flW (xs ++ ys) = flW xs ++ flW ys
  | [], ys => rfl
  | x :: xs, ys => by simp [flW, flW_append xs ys]
def OwnW (B : Nat) (W : World) (v : Value) (us : List Wst) : Prop := W.ownsRow B 66 9 v us.length (flW us)
theorem ownW_nil (B : Nat) (W : World) : OwnW B W (.slice none 0 0) [] := World.ownsRow_nil _ _ _ _
section
variable {B g n cap : Nat} {W W' : World} {v : Value} {us : List Wst}
theorem OwnW.blk (h : OwnW B W v us) : ∀ k, v.ownBlock = some k → B ≤ k ∧ k < W.heap.size := World.ownsRow.lt h
theorem OwnW.kept {row : Option Nat} (h : OwnW B W v us) (hg : W.grownBy W' row) (hne : v.ownBlock = none ∨ v.ownBlock ≠ row) : OwnW B W' v us := World.ownsRow.kept h hg hne
theorem OwnW.later (h : OwnW B W v us) (hb : Below W.heap.size W W') : OwnW B W' v us := by
  obtain ⟨h1, h2⟩ := id h
  refine ⟨h1, ?_⟩
  rcases h2 with h0 | ⟨g, cap, cur, e, hg, hh, r⟩
  · exact .inl h0
  · exact .inr ⟨g, cap, cur, e, hg, (hb.block g (h.blk g (by simp [e, Value.ownBlock])).2).trans hh, r⟩
theorem OwnW.shape (h : OwnW B W v us) (h0 : 0 < us.length) : ∃ g cap, v = .slice (some ⟨g, 0, none⟩) us.length cap ∧ B ≤ g ∧ g < W.heap.size := by
  have hb := h.blk
  obtain ⟨_, h2⟩ := h
  rcases h2 with ⟨_, e⟩ | ⟨g, cap, cur, e, hg, hh, _⟩
  · omega
  · exact ⟨g, cap, e, hg, (hb g (by simp [e, Value.ownBlock])).2⟩
theorem OwnW.len (h : OwnW B W v us) : ∃ a c, v = .slice a us.length c := by
  obtain ⟨_, h2⟩ := h
  rcases h2 with ⟨e, e2⟩ | ⟨g, cap, cur, e, _⟩
  · exact ⟨none, 0, by rw [e, e2]⟩
  · exact ⟨_, _, e⟩
theorem OwnW.cells (h : OwnW B W (.slice (some ⟨g, 0, none⟩) n cap) us) : (∃ cs, W.heap[g]? = some (.cells cs 66 (0, 0))) ∧ us.length ≤ cap := by
  obtain ⟨_, h2⟩ := h
  rcases h2 with ⟨e, _⟩ | ⟨g', cap', cur, e, _, hh, hn, hm, hs, ht⟩
  · simp at e
  · simp only [Value.slice.injEq, Option.some.injEq, Addr.mk.injEq, and_true] at e
    obtain ⟨rfl, rfl, rfl⟩ := e
    exact ⟨⟨cur, hh⟩, by omega⟩
/-- the top of the row -/
theorem OwnW.pop {x : Wst} (h : OwnW B W (.slice (some ⟨g, 0, none⟩) (us.length + 1) cap) (us ++ [x])) : OwnW B W (.slice (some ⟨g, 0, none⟩) us.length cap) us := by
  have h' : W.ownsRow B 66 9 (.slice (some ⟨g, 0, none⟩) (us.length + 1) cap) (us.length + 1) (flW us ++ (wC x).toList) := by
    have h2 := h
    unfold OwnW at h2
    rw [flW_append, List.length_append] at h2
    simpa [flW] using h2
  exact ownsRow_pop (flW_length us) h'
theorem OwnW.top {x : Wst} (h : OwnW B W (.slice (some ⟨g, 0, none⟩) (us.length + 1) cap) (us ++ [x])) {i : Nat} (hi : i < 9) : W.cell? ⟨g, us.length * 9 + i, none⟩ = (wC x)[i]? := by
  have h2 : W.ownsRow B 66 9 (.slice (some ⟨g, 0, none⟩) (us.length + 1) cap) (us.length + 1) (flW us ++ (wC x).toList) := by
    have h2 := h
    unfold OwnW at h2
    rw [flW_append, List.length_append] at h2
    simpa [flW] using h2
  rw [World.ownsRow.cellAt h2 _ (by omega), List.getElem?_append_right (by rw [flW_length]; omega), flW_length, Nat.add_sub_cancel_left]
  simp
end

/-! ### the machine -/
/-- what lies in the scope of isSafe -/
noncomputable def sfBody : Code := match Try.f56.body with | some (.seq _ (.scope c)) => c | _ => .skip
/-- .. behind a label -/
noncomputable def sfAt (l : Nat) : Code := (findLabel sfBody l).getD .skip
theorem sf_find {l : Nat} (hl : l = 0 ∨ l = 1 ∨ l = 2) : findLabel sfBody l = some (sfAt l) := by
  rcases hl with rfl | rfl | rfl <;> rfl
/-- .. without the step over the label -/
noncomputable def sfTail (l : Nat) : Code := match sfAt l with | .seq .skip c => c | c => c
/-- what stands in the world, with the walk rows (its top first) and the state y -/
structure MF (w : World) (x : Wst) (b bo mk m9 B : Nat) (zs : List Int) (r : Nat) (K0 : KnW) (K : KnW) (Bc : Nat) (rows : List Wst) (y : Wst) (v : Value) (W : World) : Prop where
  wat : Wat W b zs.length r bo mk
  out : Outl W bo zs m9
  map : KMapW W zs mk Bc K
  box : Wbx W w.heap.size y
  row : OwnW (w.heap.size + 1) W v rows.reverse
  gr : w.grownBy W (some mk)
  cnt : Bc + 2 * unkW zs K + rows.length ≤ B + 2 * unkW zs K0
  mkl : mk < w.heap.size
  bl : b < w.heap.size
  bol : bo < w.heap.size
  iy : IsW zs y
noncomputable def msr (zs : List Int) (K : KnW) (q c : Nat) : Nat := unkW zs K * (3 * zs.length + 10) + 3 * q + c

def InvB (w : World) (x : Wst) (b bo mk m9 B : Nat) (zs : List Int) (r : Nat) (K0 : KnW) (n : Nat) (a' : Act) (W : World) : Prop :=
  ∃ (K : KnW) (Bc : Nat) (ws : List Wst) (y : Wst) (v : Value) (u2 u6 u7 u8 u9 u10 u11 u12 u13 u14 u15 u16 u17 u18 u19 u20 u21 u22 u23 u24 u25 u26 u27 u28 u29 u30 u31 u32 u33 u34 u35 u36 u37 u38 u39 u40 u41 u42 u43 u44 u45 u46 u47 u48 u49 u50 u51 u52 u53 u54 u55 u56 u57 u58 u59 u60 u61 u62 u63 u64 u65 u66 u67 u68 u69 u70 : Value), (MF w x b bo mk m9 B zs r K0 K Bc ws y v W ∧ Bk zs r x K ws y ∧ n = msr zs K (rem_ zs.length ws y) 1) ∧ a' = { tmps := #[.pointer (some ⟨b, 0, none⟩), .agg (wC x), u2, .pointer (some ⟨w.heap.size, 0, none⟩), .bool false, v, u6, u7, u8, u9, u10, u11, u12, u13, u14, u15, u16, u17, u18, u19, u20, u21, u22, u23, u24, u25, u26, u27, u28, u29, u30, u31, u32, u33, u34, u35, u36, u37, u38, u39, u40, u41, u42, u43, u44, u45, u46, u47, u48, u49, u50, u51, u52, u53, u54, u55, u56, u57, u58, u59, u60, u61, u62, u63, u64, u65, u66, u67, u68, u69, u70], defers := [] }
theorem InvB.elim {w : World} {x : Wst} {b bo mk m9 B : Nat} {zs : List Int} {r : Nat} {K0 : KnW} {n : Nat} {a' : Act} {W : World} {p : Act → Prop} (hI : InvB w x b bo mk m9 B zs r K0 n a' W)
    (hp : ∀ (K : KnW) (Bc : Nat) (ws : List Wst) (y : Wst) (v : Value) (u2 u6 u7 u8 u9 u10 u11 u12 u13 u14 u15 u16 u17 u18 u19 u20 u21 u22 u23 u24 u25 u26 u27 u28 u29 u30 u31 u32 u33 u34 u35 u36 u37 u38 u39 u40 u41 u42 u43 u44 u45 u46 u47 u48 u49 u50 u51 u52 u53 u54 u55 u56 u57 u58 u59 u60 u61 u62 u63 u64 u65 u66 u67 u68 u69 u70 : Value), (MF w x b bo mk m9 B zs r K0 K Bc ws y v W ∧ Bk zs r x K ws y ∧ n = msr zs K (rem_ zs.length ws y) 1) → p { tmps := #[.pointer (some ⟨b, 0, none⟩), .agg (wC x), u2, .pointer (some ⟨w.heap.size, 0, none⟩), .bool false, v, u6, u7, u8, u9, u10, u11, u12, u13, u14, u15, u16, u17, u18, u19, u20, u21, u22, u23, u24, u25, u26, u27, u28, u29, u30, u31, u32, u33, u34, u35, u36, u37, u38, u39, u40, u41, u42, u43, u44, u45, u46, u47, u48, u49, u50, u51, u52, u53, u54, u55, u56, u57, u58, u59, u60, u61, u62, u63, u64, u65, u66, u67, u68, u69, u70], defers := [] }) : p a' :=
  Exists.elim hI fun K hI => Exists.elim hI fun Bc hI => Exists.elim hI fun ws hI => Exists.elim hI fun y hI => Exists.elim hI fun v hI => Exists.elim hI fun u2 hI => Exists.elim hI fun u6 hI => Exists.elim hI fun u7 hI => Exists.elim hI fun u8 hI => Exists.elim hI fun u9 hI => Exists.elim hI fun u10 hI => Exists.elim hI fun u11 hI => Exists.elim hI fun u12 hI => Exists.elim hI fun u13 hI => Exists.elim hI fun u14 hI => Exists.elim hI fun u15 hI => Exists.elim hI fun u16 hI => Exists.elim hI fun u17 hI => Exists.elim hI fun u18 hI => Exists.elim hI fun u19 hI => Exists.elim hI fun u20 hI => Exists.elim hI fun u21 hI => Exists.elim hI fun u22 hI => Exists.elim hI fun u23 hI => Exists.elim hI fun u24 hI => Exists.elim hI fun u25 hI => Exists.elim hI fun u26 hI => Exists.elim hI fun u27 hI => Exists.elim hI fun u28 hI => Exists.elim hI fun u29 hI => Exists.elim hI fun u30 hI => Exists.elim hI fun u31 hI => Exists.elim hI fun u32 hI => Exists.elim hI fun u33 hI => Exists.elim hI fun u34 hI => Exists.elim hI fun u35 hI => Exists.elim hI fun u36 hI => Exists.elim hI fun u37 hI => Exists.elim hI fun u38 hI => Exists.elim hI fun u39 hI => Exists.elim hI fun u40 hI => Exists.elim hI fun u41 hI => Exists.elim hI fun u42 hI => Exists.elim hI fun u43 hI => Exists.elim hI fun u44 hI => Exists.elim hI fun u45 hI => Exists.elim hI fun u46 hI => Exists.elim hI fun u47 hI => Exists.elim hI fun u48 hI => Exists.elim hI fun u49 hI => Exists.elim hI fun u50 hI => Exists.elim hI fun u51 hI => Exists.elim hI fun u52 hI => Exists.elim hI fun u53 hI => Exists.elim hI fun u54 hI => Exists.elim hI fun u55 hI => Exists.elim hI fun u56 hI => Exists.elim hI fun u57 hI => Exists.elim hI fun u58 hI => Exists.elim hI fun u59 hI => Exists.elim hI fun u60 hI => Exists.elim hI fun u61 hI => Exists.elim hI fun u62 hI => Exists.elim hI fun u63 hI => Exists.elim hI fun u64 hI => Exists.elim hI fun u65 hI => Exists.elim hI fun u66 hI => Exists.elim hI fun u67 hI => Exists.elim hI fun u68 hI => Exists.elim hI fun u69 hI => Exists.elim hI fun u70 hI => by
    obtain ⟨hf, rfl⟩ := hI
    exact hp _ _ _ _ _ _ _ _ _ _ _ _ _ _ _ _ _ _ _ _ _ _ _ _ _ _ _ _ _ _ _ _ _ _ _ _ _ _ _ _ _ _ _ _ _ _ _ _ _ _ _ _ _ _ _ _ _ _ _ _ _ _ _ _ _ _ _ _ _ _ _ hf
theorem InvB.of {w : World} {x : Wst} {b bo mk m9 B : Nat} {zs : List Int} {r : Nat} {K0 : KnW} {n : Nat} {W : World} (K : KnW) (Bc : Nat) (ws : List Wst) (y : Wst) (v : Value) {u2 u6 u7 u8 u9 u10 u11 u12 u13 u14 u15 u16 u17 u18 u19 u20 u21 u22 u23 u24 u25 u26 u27 u28 u29 u30 u31 u32 u33 u34 u35 u36 u37 u38 u39 u40 u41 u42 u43 u44 u45 u46 u47 u48 u49 u50 u51 u52 u53 u54 u55 u56 u57 u58 u59 u60 u61 u62 u63 u64 u65 u66 u67 u68 u69 u70 : Value} (hf : MF w x b bo mk m9 B zs r K0 K Bc ws y v W ∧ Bk zs r x K ws y ∧ n = msr zs K (rem_ zs.length ws y) 1) : InvB w x b bo mk m9 B zs r K0 n { tmps := #[.pointer (some ⟨b, 0, none⟩), .agg (wC x), u2, .pointer (some ⟨w.heap.size, 0, none⟩), .bool false, v, u6, u7, u8, u9, u10, u11, u12, u13, u14, u15, u16, u17, u18, u19, u20, u21, u22, u23, u24, u25, u26, u27, u28, u29, u30, u31, u32, u33, u34, u35, u36, u37, u38, u39, u40, u41, u42, u43, u44, u45, u46, u47, u48, u49, u50, u51, u52, u53, u54, u55, u56, u57, u58, u59, u60, u61, u62, u63, u64, u65, u66, u67, u68, u69, u70], defers := [] } W :=
  ⟨K, Bc, ws, y, v, u2, u6, u7, u8, u9, u10, u11, u12, u13, u14, u15, u16, u17, u18, u19, u20, u21, u22, u23, u24, u25, u26, u27, u28, u29, u30, u31, u32, u33, u34, u35, u36, u37, u38, u39, u40, u41, u42, u43, u44, u45, u46, u47, u48, u49, u50, u51, u52, u53, u54, u55, u56, u57, u58, u59, u60, u61, u62, u63, u64, u65, u66, u67, u68, u69, u70, hf, rfl⟩

def InvL (w : World) (x : Wst) (b bo mk m9 B : Nat) (zs : List Int) (r : Nat) (K0 : KnW) (n : Nat) (a' : Act) (W : World) : Prop :=
  ∃ (K : KnW) (Bc : Nat) (ws : List Wst) (y : Wst) (v : Value) (pl : Nat) (u2 u7 u8 u9 u10 u11 u12 u13 u14 u15 u16 u17 u18 u19 u20 u21 u22 u23 u24 u25 u26 u27 u28 u29 u30 u31 u32 u33 u34 u35 u36 u37 u38 u39 u40 u41 u42 u43 u44 u45 u46 u47 u48 u49 u50 u51 u52 u53 u54 u55 u56 u57 u58 u59 u60 u61 u62 u63 u64 u65 u66 u67 u68 u69 u70 : Value), (MF w x b bo mk m9 B zs r K0 K Bc (y :: ws) y v W ∧ Lv zs r x K ws y pl ∧ n = msr zs K (rem_ zs.length ws y + (zs.length - pl)) 3) ∧ a' = { tmps := #[.pointer (some ⟨b, 0, none⟩), .agg (wC x), u2, .pointer (some ⟨w.heap.size, 0, none⟩), .bool false, v, .int .i64 (pl : Int), u7, u8, u9, u10, u11, u12, u13, u14, u15, u16, u17, u18, u19, u20, u21, u22, u23, u24, u25, u26, u27, u28, u29, u30, u31, u32, u33, u34, u35, u36, u37, u38, u39, u40, u41, u42, u43, u44, u45, u46, u47, u48, u49, u50, u51, u52, u53, u54, u55, u56, u57, u58, u59, u60, u61, u62, u63, u64, u65, u66, u67, u68, u69, u70], defers := [] }
theorem InvL.elim {w : World} {x : Wst} {b bo mk m9 B : Nat} {zs : List Int} {r : Nat} {K0 : KnW} {n : Nat} {a' : Act} {W : World} {p : Act → Prop} (hI : InvL w x b bo mk m9 B zs r K0 n a' W)
    (hp : ∀ (K : KnW) (Bc : Nat) (ws : List Wst) (y : Wst) (v : Value) (pl : Nat) (u2 u7 u8 u9 u10 u11 u12 u13 u14 u15 u16 u17 u18 u19 u20 u21 u22 u23 u24 u25 u26 u27 u28 u29 u30 u31 u32 u33 u34 u35 u36 u37 u38 u39 u40 u41 u42 u43 u44 u45 u46 u47 u48 u49 u50 u51 u52 u53 u54 u55 u56 u57 u58 u59 u60 u61 u62 u63 u64 u65 u66 u67 u68 u69 u70 : Value), (MF w x b bo mk m9 B zs r K0 K Bc (y :: ws) y v W ∧ Lv zs r x K ws y pl ∧ n = msr zs K (rem_ zs.length ws y + (zs.length - pl)) 3) → p { tmps := #[.pointer (some ⟨b, 0, none⟩), .agg (wC x), u2, .pointer (some ⟨w.heap.size, 0, none⟩), .bool false, v, .int .i64 (pl : Int), u7, u8, u9, u10, u11, u12, u13, u14, u15, u16, u17, u18, u19, u20, u21, u22, u23, u24, u25, u26, u27, u28, u29, u30, u31, u32, u33, u34, u35, u36, u37, u38, u39, u40, u41, u42, u43, u44, u45, u46, u47, u48, u49, u50, u51, u52, u53, u54, u55, u56, u57, u58, u59, u60, u61, u62, u63, u64, u65, u66, u67, u68, u69, u70], defers := [] }) : p a' :=
  Exists.elim hI fun K hI => Exists.elim hI fun Bc hI => Exists.elim hI fun ws hI => Exists.elim hI fun y hI => Exists.elim hI fun v hI => Exists.elim hI fun pl hI => Exists.elim hI fun u2 hI => Exists.elim hI fun u7 hI => Exists.elim hI fun u8 hI => Exists.elim hI fun u9 hI => Exists.elim hI fun u10 hI => Exists.elim hI fun u11 hI => Exists.elim hI fun u12 hI => Exists.elim hI fun u13 hI => Exists.elim hI fun u14 hI => Exists.elim hI fun u15 hI => Exists.elim hI fun u16 hI => Exists.elim hI fun u17 hI => Exists.elim hI fun u18 hI => Exists.elim hI fun u19 hI => Exists.elim hI fun u20 hI => Exists.elim hI fun u21 hI => Exists.elim hI fun u22 hI => Exists.elim hI fun u23 hI => Exists.elim hI fun u24 hI => Exists.elim hI fun u25 hI => Exists.elim hI fun u26 hI => Exists.elim hI fun u27 hI => Exists.elim hI fun u28 hI => Exists.elim hI fun u29 hI => Exists.elim hI fun u30 hI => Exists.elim hI fun u31 hI => Exists.elim hI fun u32 hI => Exists.elim hI fun u33 hI => Exists.elim hI fun u34 hI => Exists.elim hI fun u35 hI => Exists.elim hI fun u36 hI => Exists.elim hI fun u37 hI => Exists.elim hI fun u38 hI => Exists.elim hI fun u39 hI => Exists.elim hI fun u40 hI => Exists.elim hI fun u41 hI => Exists.elim hI fun u42 hI => Exists.elim hI fun u43 hI => Exists.elim hI fun u44 hI => Exists.elim hI fun u45 hI => Exists.elim hI fun u46 hI => Exists.elim hI fun u47 hI => Exists.elim hI fun u48 hI => Exists.elim hI fun u49 hI => Exists.elim hI fun u50 hI => Exists.elim hI fun u51 hI => Exists.elim hI fun u52 hI => Exists.elim hI fun u53 hI => Exists.elim hI fun u54 hI => Exists.elim hI fun u55 hI => Exists.elim hI fun u56 hI => Exists.elim hI fun u57 hI => Exists.elim hI fun u58 hI => Exists.elim hI fun u59 hI => Exists.elim hI fun u60 hI => Exists.elim hI fun u61 hI => Exists.elim hI fun u62 hI => Exists.elim hI fun u63 hI => Exists.elim hI fun u64 hI => Exists.elim hI fun u65 hI => Exists.elim hI fun u66 hI => Exists.elim hI fun u67 hI => Exists.elim hI fun u68 hI => Exists.elim hI fun u69 hI => Exists.elim hI fun u70 hI => by
    obtain ⟨hf, rfl⟩ := hI
    exact hp _ _ _ _ _ _ _ _ _ _ _ _ _ _ _ _ _ _ _ _ _ _ _ _ _ _ _ _ _ _ _ _ _ _ _ _ _ _ _ _ _ _ _ _ _ _ _ _ _ _ _ _ _ _ _ _ _ _ _ _ _ _ _ _ _ _ _ _ _ _ _ hf
theorem InvL.of {w : World} {x : Wst} {b bo mk m9 B : Nat} {zs : List Int} {r : Nat} {K0 : KnW} {n : Nat} {W : World} (K : KnW) (Bc : Nat) (ws : List Wst) (y : Wst) (v : Value) (pl : Nat) {u2 u7 u8 u9 u10 u11 u12 u13 u14 u15 u16 u17 u18 u19 u20 u21 u22 u23 u24 u25 u26 u27 u28 u29 u30 u31 u32 u33 u34 u35 u36 u37 u38 u39 u40 u41 u42 u43 u44 u45 u46 u47 u48 u49 u50 u51 u52 u53 u54 u55 u56 u57 u58 u59 u60 u61 u62 u63 u64 u65 u66 u67 u68 u69 u70 : Value} (hf : MF w x b bo mk m9 B zs r K0 K Bc (y :: ws) y v W ∧ Lv zs r x K ws y pl ∧ n = msr zs K (rem_ zs.length ws y + (zs.length - pl)) 3) : InvL w x b bo mk m9 B zs r K0 n { tmps := #[.pointer (some ⟨b, 0, none⟩), .agg (wC x), u2, .pointer (some ⟨w.heap.size, 0, none⟩), .bool false, v, .int .i64 (pl : Int), u7, u8, u9, u10, u11, u12, u13, u14, u15, u16, u17, u18, u19, u20, u21, u22, u23, u24, u25, u26, u27, u28, u29, u30, u31, u32, u33, u34, u35, u36, u37, u38, u39, u40, u41, u42, u43, u44, u45, u46, u47, u48, u49, u50, u51, u52, u53, u54, u55, u56, u57, u58, u59, u60, u61, u62, u63, u64, u65, u66, u67, u68, u69, u70], defers := [] } W :=
  ⟨K, Bc, ws, y, v, pl, u2, u7, u8, u9, u10, u11, u12, u13, u14, u15, u16, u17, u18, u19, u20, u21, u22, u23, u24, u25, u26, u27, u28, u29, u30, u31, u32, u33, u34, u35, u36, u37, u38, u39, u40, u41, u42, u43, u44, u45, u46, u47, u48, u49, u50, u51, u52, u53, u54, u55, u56, u57, u58, u59, u60, u61, u62, u63, u64, u65, u66, u67, u68, u69, u70, hf, rfl⟩

def InvA (w : World) (x : Wst) (b bo mk m9 B : Nat) (zs : List Int) (r : Nat) (K0 : KnW) (n : Nat) (a' : Act) (W : World) : Prop :=
  ∃ (K : KnW) (Bc : Nat) (ws : List Wst) (y : Wst) (v : Value) (u2 u6 u7 u8 u9 u10 u11 u12 u13 u14 u15 u16 u17 u18 u19 u20 u21 u22 u23 u24 u25 u26 u27 u28 u29 u30 u31 u32 u33 u34 u35 u36 u37 u38 u39 u40 u41 u42 u43 u44 u45 u46 u47 u48 u49 u50 u51 u52 u53 u54 u55 u56 u57 u58 u59 u60 u61 u62 u63 u64 u65 u66 u67 u68 u69 u70 : Value), (MF w x b bo mk m9 B zs r K0 K Bc ws y v W ∧ Arv zs r x K ws y ∧ n = msr zs K (rem_ zs.length ws y) 2) ∧ a' = { tmps := #[.pointer (some ⟨b, 0, none⟩), .agg (wC x), u2, .pointer (some ⟨w.heap.size, 0, none⟩), .bool false, v, u6, u7, u8, u9, u10, u11, u12, u13, u14, u15, u16, u17, u18, u19, u20, u21, u22, u23, u24, u25, u26, u27, u28, u29, u30, u31, u32, u33, u34, u35, u36, u37, u38, u39, u40, u41, u42, u43, u44, u45, u46, u47, u48, u49, u50, u51, u52, u53, u54, u55, u56, u57, u58, u59, u60, u61, u62, u63, u64, u65, u66, u67, u68, u69, u70], defers := [] }
theorem InvA.elim {w : World} {x : Wst} {b bo mk m9 B : Nat} {zs : List Int} {r : Nat} {K0 : KnW} {n : Nat} {a' : Act} {W : World} {p : Act → Prop} (hI : InvA w x b bo mk m9 B zs r K0 n a' W)
    (hp : ∀ (K : KnW) (Bc : Nat) (ws : List Wst) (y : Wst) (v : Value) (u2 u6 u7 u8 u9 u10 u11 u12 u13 u14 u15 u16 u17 u18 u19 u20 u21 u22 u23 u24 u25 u26 u27 u28 u29 u30 u31 u32 u33 u34 u35 u36 u37 u38 u39 u40 u41 u42 u43 u44 u45 u46 u47 u48 u49 u50 u51 u52 u53 u54 u55 u56 u57 u58 u59 u60 u61 u62 u63 u64 u65 u66 u67 u68 u69 u70 : Value), (MF w x b bo mk m9 B zs r K0 K Bc ws y v W ∧ Arv zs r x K ws y ∧ n = msr zs K (rem_ zs.length ws y) 2) → p { tmps := #[.pointer (some ⟨b, 0, none⟩), .agg (wC x), u2, .pointer (some ⟨w.heap.size, 0, none⟩), .bool false, v, u6, u7, u8, u9, u10, u11, u12, u13, u14, u15, u16, u17, u18, u19, u20, u21, u22, u23, u24, u25, u26, u27, u28, u29, u30, u31, u32, u33, u34, u35, u36, u37, u38, u39, u40, u41, u42, u43, u44, u45, u46, u47, u48, u49, u50, u51, u52, u53, u54, u55, u56, u57, u58, u59, u60, u61, u62, u63, u64, u65, u66, u67, u68, u69, u70], defers := [] }) : p a' :=
  Exists.elim hI fun K hI => Exists.elim hI fun Bc hI => Exists.elim hI fun ws hI => Exists.elim hI fun y hI => Exists.elim hI fun v hI => Exists.elim hI fun u2 hI => Exists.elim hI fun u6 hI => Exists.elim hI fun u7 hI => Exists.elim hI fun u8 hI => Exists.elim hI fun u9 hI => Exists.elim hI fun u10 hI => Exists.elim hI fun u11 hI => Exists.elim hI fun u12 hI => Exists.elim hI fun u13 hI => Exists.elim hI fun u14 hI => Exists.elim hI fun u15 hI => Exists.elim hI fun u16 hI => Exists.elim hI fun u17 hI => Exists.elim hI fun u18 hI => Exists.elim hI fun u19 hI => Exists.elim hI fun u20 hI => Exists.elim hI fun u21 hI => Exists.elim hI fun u22 hI => Exists.elim hI fun u23 hI => Exists.elim hI fun u24 hI => Exists.elim hI fun u25 hI => Exists.elim hI fun u26 hI => Exists.elim hI fun u27 hI => Exists.elim hI fun u28 hI => Exists.elim hI fun u29 hI => Exists.elim hI fun u30 hI => Exists.elim hI fun u31 hI => Exists.elim hI fun u32 hI => Exists.elim hI fun u33 hI => Exists.elim hI fun u34 hI => Exists.elim hI fun u35 hI => Exists.elim hI fun u36 hI => Exists.elim hI fun u37 hI => Exists.elim hI fun u38 hI => Exists.elim hI fun u39 hI => Exists.elim hI fun u40 hI => Exists.elim hI fun u41 hI => Exists.elim hI fun u42 hI => Exists.elim hI fun u43 hI => Exists.elim hI fun u44 hI => Exists.elim hI fun u45 hI => Exists.elim hI fun u46 hI => Exists.elim hI fun u47 hI => Exists.elim hI fun u48 hI => Exists.elim hI fun u49 hI => Exists.elim hI fun u50 hI => Exists.elim hI fun u51 hI => Exists.elim hI fun u52 hI => Exists.elim hI fun u53 hI => Exists.elim hI fun u54 hI => Exists.elim hI fun u55 hI => Exists.elim hI fun u56 hI => Exists.elim hI fun u57 hI => Exists.elim hI fun u58 hI => Exists.elim hI fun u59 hI => Exists.elim hI fun u60 hI => Exists.elim hI fun u61 hI => Exists.elim hI fun u62 hI => Exists.elim hI fun u63 hI => Exists.elim hI fun u64 hI => Exists.elim hI fun u65 hI => Exists.elim hI fun u66 hI => Exists.elim hI fun u67 hI => Exists.elim hI fun u68 hI => Exists.elim hI fun u69 hI => Exists.elim hI fun u70 hI => by
    obtain ⟨hf, rfl⟩ := hI
    exact hp _ _ _ _ _ _ _ _ _ _ _ _ _ _ _ _ _ _ _ _ _ _ _ _ _ _ _ _ _ _ _ _ _ _ _ _ _ _ _ _ _ _ _ _ _ _ _ _ _ _ _ _ _ _ _ _ _ _ _ _ _ _ _ _ _ _ _ _ _ _ _ hf
theorem InvA.of {w : World} {x : Wst} {b bo mk m9 B : Nat} {zs : List Int} {r : Nat} {K0 : KnW} {n : Nat} {W : World} (K : KnW) (Bc : Nat) (ws : List Wst) (y : Wst) (v : Value) {u2 u6 u7 u8 u9 u10 u11 u12 u13 u14 u15 u16 u17 u18 u19 u20 u21 u22 u23 u24 u25 u26 u27 u28 u29 u30 u31 u32 u33 u34 u35 u36 u37 u38 u39 u40 u41 u42 u43 u44 u45 u46 u47 u48 u49 u50 u51 u52 u53 u54 u55 u56 u57 u58 u59 u60 u61 u62 u63 u64 u65 u66 u67 u68 u69 u70 : Value} (hf : MF w x b bo mk m9 B zs r K0 K Bc ws y v W ∧ Arv zs r x K ws y ∧ n = msr zs K (rem_ zs.length ws y) 2) : InvA w x b bo mk m9 B zs r K0 n { tmps := #[.pointer (some ⟨b, 0, none⟩), .agg (wC x), u2, .pointer (some ⟨w.heap.size, 0, none⟩), .bool false, v, u6, u7, u8, u9, u10, u11, u12, u13, u14, u15, u16, u17, u18, u19, u20, u21, u22, u23, u24, u25, u26, u27, u28, u29, u30, u31, u32, u33, u34, u35, u36, u37, u38, u39, u40, u41, u42, u43, u44, u45, u46, u47, u48, u49, u50, u51, u52, u53, u54, u55, u56, u57, u58, u59, u60, u61, u62, u63, u64, u65, u66, u67, u68, u69, u70], defers := [] } W :=
  ⟨K, Bc, ws, y, v, u2, u6, u7, u8, u9, u10, u11, u12, u13, u14, u15, u16, u17, u18, u19, u20, u21, u22, u23, u24, u25, u26, u27, u28, u29, u30, u31, u32, u33, u34, u35, u36, u37, u38, u39, u40, u41, u42, u43, u44, u45, u46, u47, u48, u49, u50, u51, u52, u53, u54, u55, u56, u57, u58, u59, u60, u61, u62, u63, u64, u65, u66, u67, u68, u69, u70, hf, rfl⟩

def JF (w : World) (x : Wst) (b bo mk m9 B : Nat) (zs : List Int) (r : Nat) (K0 : KnW) : Nat → Nat → Act → World → Prop
  | 0, n, a, W => InvB w x b bo mk m9 B zs r K0 n a W
  | 1, n, a, W => InvA w x b bo mk m9 B zs r K0 n a W
  | 2, n, a, W => InvL w x b bo mk m9 B zs r K0 n a W
  | _, _, _, _ => False

/-- what is asked at the end: the function returns -/
def endQ (R : Act → World → Prop) : Exit → Act → World → Prop
  | .ret, a, w => R a w
  | _, _, _ => False

theorem below_grown {W W' : World} (h : Below W.heap.size W W') (row : Option Nat) : W.grownBy W' row := ⟨h.os, h.tape, h.output, h.size, fun i hi _ => h.block i hi⟩
theorem MF.turn {w : World} {x : Wst} {b bo mk m9 B : Nat} {zs : List Int} {r : Nat} {K0 K : KnW} {Bc : Nat} {rows : List Wst} {y : Wst} {v : Value} {W : World} (h : MF w x b bo mk m9 B zs r K0 K Bc rows y v W) (z : Wst) (hz : IsW zs z) :
    MF w x b bo mk m9 B zs r K0 K Bc rows z v (store9 W w.heap.size z) := by
  have hg := grownBy_set9 W w.heap.size z
  have hbl := h.bl
  have hbol := h.bol
  have hmkl := h.mkl
  refine ⟨h.wat.kept hg (by simp; omega), h.out.kept hg (by simp; omega), h.map.kept hg (by simp; omega), h.box.stored9 z, h.row.kept hg (.inr ?_), h.gr.andThen hg (fun j e => .inl (by have : w.heap.size = j := (by simpa using e); omega)), h.cnt, h.mkl, h.bl, h.bol, hz⟩
  intro e
  have := (h.row.blk _ e).1
  omega

set_option maxRecDepth 100000 in
set_option maxHeartbeats 16000000 in
theorem back_c (w : World) (x : Wst) (b bo mk m9 B : Nat) (zs : List Int) (r : Nat) (K0 : KnW) (R : Act → World → Prop) (n : Nat) (a : Act) (W : World) (ht : tasksOk zs = true) (hcap : B + 2 * unkW zs K0 < 1000000) (hJ : InvB w x b bo mk m9 B zs r K0 n a W)
    (hQ : ∀ (a : Act) (W : World) (K : KnW) (Bc : Nat) (y : Wst) (v : Value), a.tmps.getD 4 undef = .bool false → a.defers = [] → MF w x b bo mk m9 B zs r K0 K Bc [] y v W → Bk zs r x K [] y → R a W) :
    (sfTail 0).wp Try.prog (jumpN (fun l' a' w' => ∃ n', n' < n ∧ JF w x b bo mk m9 B zs r K0 l' n' a' w') (endQ R)) a W := by
  unfold sfTail sfAt sfBody
  simp only [Try.f56, findLabel, Option.getD, Nat.reduceBEq, Bool.false_eq_true, if_false, if_true, beq_self_eq_true]
  apply InvB.elim hJ
  clear hJ a
  intro K Bc ws y v
  intros
  rename_i hf
  obtain ⟨hM, hB, hn⟩ := hf
  have hx0 := hM.box.c0
  have hrow := hM.row
  have hyp := hM.iy.2.1
  have hl8 := tasksOk_len ht
  cases ws with
  | nil =>
    obtain ⟨av, cv, rfl⟩ := hrow.len
    have Hq := Lib.hid (fun a W => hQ a W K Bc y (.slice av ([] : List Wst).reverse.length cv))
    have HM := Lib.hid hM
    have HB := Lib.hid hB
    clear hQ hM hB hrow
    go_wp2
    show R _ _
    refine Hq.out _ _ ?_ ?_ HM.out HB.out <;> rfl
  | cons top rest =>
    have HM := Lib.hid hM
    have HB := Lib.hid hB
    rw [List.reverse_cons] at hrow
    obtain ⟨g, cap, rfl, hg1, hg2⟩ := hrow.shape (by simp)
    rw [show (rest.reverse ++ [top]).length = rest.reverse.length + 1 by simp] at hrow
    have hlr : rest.reverse.length ≤ 1000000 := by have := hM.cnt; simp only [List.length_cons] at this; rw [List.length_reverse]; omega
    obtain ⟨us, hus⟩ : ∃ us, rest.reverse = us := ⟨_, rfl⟩
    have Hus := Lib.hid hus
    rw [hus] at hrow hlr
    have t0 : W.cell? ⟨g, us.length * 9, none⟩ = some (.int .i64 (top.2 : Int)) := hrow.top (i := 0) (by omega)
    have t1 : W.cell? ⟨g, us.length * 9 + 1, none⟩ = some (.int .u8 (nth top.1 0)) := hrow.top (i := 1) (by omega)
    have t2 : W.cell? ⟨g, us.length * 9 + 2, none⟩ = some (.int .u8 (nth top.1 1)) := hrow.top (i := 2) (by omega)
    have t3 : W.cell? ⟨g, us.length * 9 + 3, none⟩ = some (.int .u8 (nth top.1 2)) := hrow.top (i := 3) (by omega)
    have t4 : W.cell? ⟨g, us.length * 9 + 4, none⟩ = some (.int .u8 (nth top.1 3)) := hrow.top (i := 4) (by omega)
    have t5 : W.cell? ⟨g, us.length * 9 + 5, none⟩ = some (.int .u8 (nth top.1 4)) := hrow.top (i := 5) (by omega)
    have t6 : W.cell? ⟨g, us.length * 9 + 6, none⟩ = some (.int .u8 (nth top.1 5)) := hrow.top (i := 6) (by omega)
    have t7 : W.cell? ⟨g, us.length * 9 + 7, none⟩ = some (.int .u8 (nth top.1 6)) := hrow.top (i := 7) (by omega)
    have t8 : W.cell? ⟨g, us.length * 9 + 8, none⟩ = some (.int .u8 (nth top.1 7)) := hrow.top (i := 8) (by omega)
    have hlen9 : (rest.reverse ++ [top]).length = us.length + 1 := by rw [hus]; simp
    have hM2 := HM.out
    rw [hlen9] at hM2
    have HM2 := Lib.hid hM2
    clear hM2
    rw [hlen9]
    have b0 := hM.box.c0
    have b1 := hM.box.cs (i := 0) (by omega)
    have b2 := hM.box.cs (i := 1) (by omega)
    have b3 := hM.box.cs (i := 2) (by omega)
    have b4 := hM.box.cs (i := 3) (by omega)
    have b5 := hM.box.cs (i := 4) (by omega)
    have b6 := hM.box.cs (i := 5) (by omega)
    have b7 := hM.box.cs (i := 6) (by omega)
    have b8 := hM.box.cs (i := 7) (by omega)
    have f0 := hM.box.frozen 0
    have f1 := hM.box.frozen 1
    have f2 := hM.box.frozen 2
    have f3 := hM.box.frozen 3
    have f4 := hM.box.frozen 4
    have f5 := hM.box.frozen 5
    have f6 := hM.box.frozen 6
    have f7 := hM.box.frozen 7
    have f8 := hM.box.frozen 8
    have hw1 : IntKind.i64.wrap ((us.length : Int) + 1 - 1) = (us.length : Int) := by rw [IntKind.wrap_i64]; omega
    clear hQ hM hB hus hlen9
    have hlt' : msr zs K (rem_ zs.length rest top + (zs.length - (y.2 + 1))) 3 < n := by
      rw [hn]
      unfold msr
      simp only [rem_]
      omega
    have hMt := HM2.out.turn top (HB.out.base.w top (by simp)).2
    have hst : Below w.heap.size w w := Below.refl _ _
    go_wp2_with fail
    refine wp_goto ?_
    refine ⟨_, hlt', ?_⟩
    exact InvL.of K Bc rest top _ (y.2 + 1) ⟨hMt, HB.out.next, rfl⟩

theorem MF.later {w : World} {x : Wst} {b bo mk m9 B : Nat} {zs : List Int} {r : Nat} {K0 K : KnW} {Bc : Nat} {rows : List Wst} {y : Wst} {v : Value} {W W' : World} (h : MF w x b bo mk m9 B zs r K0 K Bc rows y v W) (hb : Below W.heap.size W W') : MF w x b bo mk m9 B zs r K0 K Bc rows y v W' :=
  ⟨h.wat.later hb, h.out.later hb, h.map.later hb, h.box.later hb, h.row.later hb, h.gr.andThen (below_grown hb none) (fun j e => by cases e), h.cnt, h.mkl, h.bl, h.bol, h.iy⟩

set_option maxRecDepth 100000 in
set_option maxHeartbeats 16000000 in
theorem leave_c (w : World) (x : Wst) (b bo mk m9 B : Nat) (zs : List Int) (r : Nat) (K0 : KnW) (R : Act → World → Prop) (n : Nat) (a : Act) (W : World) (ht : tasksOk zs = true) (hn6 : zs.length ≤ 6) (hr : r < 32768) (hcap : B + 2 * unkW zs K0 < 1000000) (hJ : InvL w x b bo mk m9 B zs r K0 n a W)
    (hQ : ∀ (a : Act) (W : World) (K : KnW) (Bc : Nat) (y : Wst) (v : Value), a.tmps.getD 4 undef = .bool false → a.defers = [] → MF w x b bo mk m9 B zs r K0 K Bc [] y v W → Bk zs r x K [] y → R a W) :
    (sfTail 2).wp Try.prog (jumpN (fun l' a' w' => ∃ n', n' < n ∧ JF w x b bo mk m9 B zs r K0 l' n' a' w') (endQ R)) a W := by
  have hback := fun n1 a1 W1 (h : InvB w x b bo mk m9 B zs r K0 n1 a1 W1) => back_c w x b bo mk m9 B zs r K0 R n1 a1 W1 ht hcap h hQ
  unfold sfTail sfAt sfBody at hback ⊢
  simp only [Try.f56, findLabel, Option.getD, Nat.reduceBEq, Bool.false_eq_true, if_false, if_true, beq_self_eq_true] at hback ⊢
  have Hback := Lib.hid hback
  clear hback hQ
  apply InvL.elim hJ
  clear hJ a
  intro K Bc ws y v pl0
  intros
  rename_i hf
  obtain ⟨hM, hL, hn⟩ := hf
  have hl8 := tasksOk_len ht
  have hfw : Try.prog.follows Departure.mixedOrders = true := by kernel_rfl
  go_wp2_with fail
  go_loopw [6] (fun q wr => ∃ pl : Nat, pl0 ≤ pl ∧ q = .int .i64 (pl : Int) ∧ MF w x b bo mk m9 B zs r K0 K Bc (y :: ws) y v wr ∧ Lv zs r x K ws y pl) (fun q _ => zs.length - (intOf q).toNat)
  case atStart => exact ⟨pl0, Nat.le_refl _, rfl, hM, hL⟩
  case round =>
    obtain ⟨pl, hpl, rfl, hMr, hLr⟩ := hrel
    clear hM hL
    have cw0 := hMr.wat.c0
    by_cases hlt : pl < zs.length
    · have hki : (pl : Int) < (zs.length : Int) := by omega
      have hMs := Lib.hid hMr
      have HL := Lib.hid hLr
      have b0 := hMr.box.c0
      have b1 := hMr.box.cs (i := 0) (by omega)
      have b2 := hMr.box.cs (i := 1) (by omega)
      have b3 := hMr.box.cs (i := 2) (by omega)
      have b4 := hMr.box.cs (i := 3) (by omega)
      have b5 := hMr.box.cs (i := 4) (by omega)
      have b6 := hMr.box.cs (i := 5) (by omega)
      have b7 := hMr.box.cs (i := 6) (by omega)
      have b8 := hMr.box.cs (i := 7) (by omega)
      clear hMr hLr
      go_wp2_with fail
      refine (move_c b bo mk m9 zs r y pl _ hMs.out.wat hMs.out.out ht hn6 hr hMs.out.iy.1 hMs.out.iy.2.1 hlt).mono ?_
      rintro e wq ⟨hres, hb⟩
      have hMq := hMs.out.later hb
      clear cw0 b0 b1 b2 b3 b4 b5 b6 b7 b8 hb
      rcases hres with ⟨hmv, rfl⟩ | ⟨hmv, z, rfl⟩
      · obtain ⟨z, hz⟩ : ∃ z, stW zs y pl = z := ⟨_, rfl⟩
        have hiz : IsW zs z := by rw [← hz]; exact hMq.iy.step hmv
        have harr := HL.out.go hmv
        have hz2 : z.2 = pl := by rw [← hz]; rfl
        rw [hz] at harr ⊢
        have hlt2 : msr zs K (rem_ zs.length (y :: ws) z) 2 < n := by
          rw [hn]
          unfold msr
          simp only [rem_, hz2]
          omega
        obtain ⟨W9, hW9⟩ : ∃ W9, wq.alloc (.cells #[.int .i64 (z.2 : Int), .int .u8 (nth z.1 0), .int .u8 (nth z.1 1), .int .u8 (nth z.1 2), .int .u8 (nth z.1 3), .int .u8 (nth z.1 4), .int .u8 (nth z.1 5), .int .u8 (nth z.1 6), .int .u8 (nth z.1 7)] 66) = W9 := ⟨_, rfl⟩
        have hM9 := hMq.later (show Below wq.heap.size wq W9 by rw [← hW9]; exact (Below.refl _ _).alloc (Nat.le_refl _) _)
        have hZ9 : Wbx W9 wq.heap.size z := by rw [← hW9]; exact Wbx.new wq z
        have z0 := hZ9.c0
        have z1 := hZ9.cs (i := 0) (by omega)
        have z2 := hZ9.cs (i := 1) (by omega)
        have z3 := hZ9.cs (i := 2) (by omega)
        have z4 := hZ9.cs (i := 3) (by omega)
        have z5 := hZ9.cs (i := 4) (by omega)
        have z6 := hZ9.cs (i := 5) (by omega)
        have z7 := hZ9.cs (i := 6) (by omega)
        have z8 := hZ9.cs (i := 7) (by omega)
        have y0 := hM9.box.c0
        have y1 := hM9.box.cs (i := 0) (by omega)
        have y2 := hM9.box.cs (i := 1) (by omega)
        have y3 := hM9.box.cs (i := 2) (by omega)
        have y4 := hM9.box.cs (i := 3) (by omega)
        have y5 := hM9.box.cs (i := 4) (by omega)
        have y6 := hM9.box.cs (i := 5) (by omega)
        have y7 := hM9.box.cs (i := 6) (by omega)
        have y8 := hM9.box.cs (i := 7) (by omega)
        have f0 := hM9.box.frozen 0
        have f1 := hM9.box.frozen 1
        have f2 := hM9.box.frozen 2
        have f3 := hM9.box.frozen 3
        have f4 := hM9.box.frozen 4
        have f5 := hM9.box.frozen 5
        have f6 := hM9.box.frozen 6
        have f7 := hM9.box.frozen 7
        have f8 := hM9.box.frozen 8
        have hMt := hM9.turn z hiz
        have Harr := Lib.hid harr
        clear hz hz2 harr hMq hZ9
        unfold wV wC
        go_wp2_with fail
        refine wp_goto ?_
        refine ⟨_, hlt2, ?_⟩
        exact InvA.of K Bc (y :: ws) z v ⟨hMt, Harr.out, rfl⟩
      · obtain ⟨W9, hW9⟩ : ∃ W9, wq.alloc (.cells #[.int .i64 (z.2 : Int), .int .u8 (nth z.1 0), .int .u8 (nth z.1 1), .int .u8 (nth z.1 2), .int .u8 (nth z.1 3), .int .u8 (nth z.1 4), .int .u8 (nth z.1 5), .int .u8 (nth z.1 6), .int .u8 (nth z.1 7)] 66) = W9 := ⟨_, rfl⟩
        have hM9 := hMq.later (show Below wq.heap.size wq W9 by rw [← hW9]; exact (Below.refl _ _).alloc (Nat.le_refl _) _)
        have hsk := HL.out.skip hmv
        clear hMq hmv
        unfold wV wC
        go_wp2_with fail
        go_roundw
        case rel => exact ⟨_, _, _, _, _, _, _, _, _, _, _, _, _, _, _, _, _, _, _, _, _, ⟨pl + 1, by omega, by simp, hM9, hsk⟩, rfl⟩
        case measure => simp [intOf]; omega
    · have hki : ¬ (pl : Int) < (zs.length : Int) := by omega
      have hbk := hLr.done (by omega : zs.length ≤ pl)
      have hky : K y ≠ none := by rw [(hLr.base.w y (by simp)).1]; simp
      have hun := unkW_same (zs := zs) (b := false) hky
      have hM0 : MF w x b bo mk m9 B zs r K0 K Bc (y :: ws) y v wr.drew := hMr.later (Below.refl _ _).drew
      have hMs := Lib.hid hMr
      have Hbk := Lib.hid hbk
      have hcn := hMr.cnt
      obtain ⟨wp', hrun, hMp, hgp⟩ := hM0.map.put ht hMr.iy false (by simp only [List.length_cons] at hcn; omega)
      unfold wV wC at hrun
      clear hMr hLr hbk
      go_wp2_with fail
      clear cw0
      refine wp_region_held_drew (S := fun w' => Wat w' b zs.length r bo mk ∧ Wbx w' w.heap.size y) hfw ⟨hM0.wat, hM0.box⟩ ?_
      intro hS0
      refine wpAnyH_take (i := 0) (v := ?ve10) rfl (by kernel_rfl) (by kernel_rfl) (by kernel_rfl) (fun _ _ _ h => h) (.inl ⟨by first | kernel_rfl | rfl, ?ye10⟩) hS0 ?_
      case ye10 =>
        intro w' hS
        (have k3 := hS.1.c3; have b0 := hS.2.c0; have b1 := hS.2.cs (i := 0) (by omega); have b2 := hS.2.cs (i := 1) (by omega); have b3 := hS.2.cs (i := 2) (by omega); have b4 := hS.2.cs (i := 3) (by omega); have b5 := hS.2.cs (i := 4) (by omega); have b6 := hS.2.cs (i := 5) (by omega); have b7 := hS.2.cs (i := 6) (by omega); have b8 := hS.2.cs (i := 7) (by omega); clear hS)
        go_simp
        try with_reducible rfl
      refine wpAnyH_take (i := 1) (v := ?ve11) rfl (by kernel_rfl) (by kernel_rfl) (by kernel_rfl) (fun _ _ _ h => h) (.inl ⟨by first | kernel_rfl | rfl, ?ye11⟩) hS0 ?_
      case ye11 =>
        intro w' hS
        (have k3 := hS.1.c3; have b0 := hS.2.c0; have b1 := hS.2.cs (i := 0) (by omega); have b2 := hS.2.cs (i := 1) (by omega); have b3 := hS.2.cs (i := 2) (by omega); have b4 := hS.2.cs (i := 3) (by omega); have b5 := hS.2.cs (i := 4) (by omega); have b6 := hS.2.cs (i := 5) (by omega); have b7 := hS.2.cs (i := 6) (by omega); have b8 := hS.2.cs (i := 7) (by omega); clear hS)
        go_simp
        try with_reducible rfl
      refine wpAnyH_take (i := 2) (v := ?ve12) rfl (by kernel_rfl) (by kernel_rfl) (by kernel_rfl) (fun _ _ _ h => h) (.inl ⟨by first | kernel_rfl | rfl, ?ye12⟩) hS0 ?_
      case ye12 =>
        intro w' hS
        (have k3 := hS.1.c3; have b0 := hS.2.c0; have b1 := hS.2.cs (i := 0) (by omega); have b2 := hS.2.cs (i := 1) (by omega); have b3 := hS.2.cs (i := 2) (by omega); have b4 := hS.2.cs (i := 3) (by omega); have b5 := hS.2.cs (i := 4) (by omega); have b6 := hS.2.cs (i := 5) (by omega); have b7 := hS.2.cs (i := 6) (by omega); have b8 := hS.2.cs (i := 7) (by omega); clear hS)
        go_simp
        try with_reducible rfl
      refine wpAnyH_take (i := 3) (v := ?ve13) rfl (by kernel_rfl) (by kernel_rfl) (by kernel_rfl) (fun _ _ _ h => h) (.inl ⟨by first | kernel_rfl | rfl, ?ye13⟩) hS0 ?_
      case ye13 =>
        intro w' hS
        (have k3 := hS.1.c3; have b0 := hS.2.c0; have b1 := hS.2.cs (i := 0) (by omega); have b2 := hS.2.cs (i := 1) (by omega); have b3 := hS.2.cs (i := 2) (by omega); have b4 := hS.2.cs (i := 3) (by omega); have b5 := hS.2.cs (i := 4) (by omega); have b6 := hS.2.cs (i := 5) (by omega); have b7 := hS.2.cs (i := 6) (by omega); have b8 := hS.2.cs (i := 7) (by omega); clear hS)
        go_simp
        try with_reducible rfl
      refine wpAnyH_take (i := 4) (v := ?ve14) rfl (by kernel_rfl) (by kernel_rfl) (by kernel_rfl) (fun _ _ _ h => h) (.inl ⟨by first | kernel_rfl | rfl, ?ye14⟩) hS0 ?_
      case ye14 =>
        intro w' hS
        (have k3 := hS.1.c3; have b0 := hS.2.c0; have b1 := hS.2.cs (i := 0) (by omega); have b2 := hS.2.cs (i := 1) (by omega); have b3 := hS.2.cs (i := 2) (by omega); have b4 := hS.2.cs (i := 3) (by omega); have b5 := hS.2.cs (i := 4) (by omega); have b6 := hS.2.cs (i := 5) (by omega); have b7 := hS.2.cs (i := 6) (by omega); have b8 := hS.2.cs (i := 7) (by omega); clear hS)
        go_simp
        try with_reducible rfl
      try simp only [Act.put, List.getElem_toArray, List.getElem_cons_zero, List.getElem_cons_succ, List.setIfInBounds_toArray, List.set_cons_zero, List.set_cons_succ]
      refine wpAnyH_ready (rs := [5]) (by kernel_rfl) (by simp) ?_
      refine AllReadyH.cons rfl (fun K' hK' => ?_) AllReadyH.nil
      rw [if_pos (by first | kernel_rfl | rfl)]
      go_simp
      have hbl := hM0.bl
      have hmkl := hM0.mkl
      have hSb : Wat wp' b zs.length r bo mk ∧ Wbx wp' w.heap.size y := ⟨hS0.1.kept hgp (by have := hM0.map.ne_cells (show wr.drew.heap[b]? = _ from hS0.1); simp; omega), hS0.2.kept hgp (by simp; omega)⟩
      refine hK'.out _ _ hSb fun hS1 => ?_
      clear hK' hS1 hS0 hrun
      refine wpAnyH_done (by kernel_rfl) ?_ _
      have hrow := hM0.row
      rw [List.reverse_cons] at hrow
      obtain ⟨g, cap, rfl, hg1, hg2⟩ := hrow.shape (by simp)
      rw [show (ws.reverse ++ [y]).length = ws.reverse.length + 1 by simp] at hrow ⊢
      obtain ⟨⟨csg, hcg⟩, hcu0⟩ := hrow.cells
      have hmg := hM0.map.ne_cells hcg
      have hmo := hM0.map.ne_cells (show wr.drew.heap[bo]? = _ from hM0.out)
      have hrow2 := hrow.pop.kept hgp (.inr (by simp [Value.ownBlock]; omega))
      have hlen : ws.reverse.length ≤ 1000000 := by simp only [List.length_cons] at hcn; rw [List.length_reverse]; omega
      have hMz : MF w x b bo mk m9 B zs r K0 (kputW K y false) (Bc + 1) ws y (.slice (some ⟨g, 0, none⟩) ws.reverse.length cap) wp' := ⟨hSb.1, hM0.out.kept hgp (by simp; omega), hMp, hSb.2, hrow2, hM0.gr.trans hgp, by rw [hun]; simp only [List.length_cons] at hcn; omega, hM0.mkl, hM0.bl, hM0.bol, hM0.iy⟩
      have HMz := Lib.hid hMz
      have hw1 : IntKind.i64.wrap ((ws.reverse.length : Int) + 1 - 1) = (ws.reverse.length : Int) := by rw [IntKind.wrap_i64]; omega
      obtain ⟨us, hus⟩ : ∃ us, ws.reverse.length = us := ⟨_, rfl⟩
      have hcu : us + 1 ≤ cap := by rw [← hus]; simpa using hcu0
      rw [hus] at hw1 hlen ⊢
      rw [hus] at HMz
      clear hcu0 hcg
      clear hMz hrow hrow2 hcn hM0 hMp hgp hSb hus
      go_wp2_with fail
      have hn1 : msr zs (kputW K y false) (rem_ zs.length ws y) 1 < n := by
        rw [hn]
        unfold msr
        rw [hun]
        omega
      refine wp_label ?_
      rename_i hKend
      refine hKend _ _ ?_
      refine wp_mono (Hback.out _ _ _ (InvB.of (kputW K y false) (Bc + 1) ws y _ ⟨HMz.out, Hbk.out, rfl⟩)) ?_
      intro e a1 w1 h
      cases e with
      | goto l =>
        obtain ⟨n', h1, h2⟩ := h
        exact ⟨n', by omega, h2⟩
      | normal => exact h
      | exit id => exact h
      | ret => exact h
      | panic ch => exact h
      | outgrown => exact h

theorem info_partsW {P : Program} {t : TypeId} {z : Value} {a b : Nat} (h : (P.info? t).map (fun i => (i.zero, i.size, i.bytes)) = some (some z, a, b)) : ∃ i, P.info? t = some i ∧ i.zero = some z ∧ i.size = a ∧ i.bytes = b := by
  cases e : P.info? t with
  | none => simp [e] at h
  | some i => simp [e] at h; exact ⟨i, rfl, h.1, h.2.1, h.2.2⟩
theorem Try.infoW9 : (Try.prog.info? 66).map (fun i => (i.zero, i.size, i.bytes)) = some (some (.agg (wC ([], 0))), 9, 16) := by kernel_rfl
/-- the cells of a state that lies in a block -/
theorem wbx_src {W : World} {b : Nat} {x : Wst} (h : Wbx W b x) : ∀ j u, (wC x).toList[j]? = some u → W.cell? (Addr.add ⟨b, 0, none⟩ j) = some u := by
  intro j u hj
  have hl : (wC x).toList.length = 9 := rfl
  have hj9 : j < 9 := by rw [← hl]; exact (List.getElem?_eq_some_iff.1 hj).1
  have h9 : j = 0 ∨ j = 1 ∨ j = 2 ∨ j = 3 ∨ j = 4 ∨ j = 5 ∨ j = 6 ∨ j = 7 ∨ j = 8 := by omega
  rw [← hj]
  rcases h9 with h9 | h9 | h9 | h9 | h9 | h9 | h9 | h9 | h9 <;> subst h9 <;> simp [World.cell?, Addr.add, show W.heap[b]? = _ from h, wC]
theorem wC_one (x : Wst) : ∀ u ∈ (wC x).toList, u.oneCell' = true := by
  intro u hu
  simp only [wC, List.mem_cons, List.not_mem_nil, or_false] at hu
  rcases hu with rfl | rfl | rfl | rfl | rfl | rfl | rfl | rfl | rfl <;> rfl
theorem OwnW.snoc {B : Nat} {W : World} {v : Value} {us : List Wst} {x : Wst} (h : W.ownsRow B 66 9 v (us.length + 1) (flW us ++ (wC x).toList)) : OwnW B W v (us ++ [x]) := by
  unfold OwnW
  rw [flW_append, List.length_append]
  simpa [flW] using h

theorem OwnW.ne_map {B B' m : Nat} {W : World} {v : Value} {us : List Wst} {zs : List Int} {K : KnW} (h : OwnW B W v us) (hm : KMapW W zs m B' K) : v.ownBlock ≠ some m := by
  obtain ⟨_, h2⟩ := h
  rcases h2 with ⟨e, _⟩ | ⟨g, cap, cur, e, _, hh, _⟩
  · simp [e, Value.ownBlock]
  · have := hm.ne_cells hh
    simp [e, Value.ownBlock]
    omega

set_option maxRecDepth 100000 in
set_option maxHeartbeats 16000000 in
theorem arrive_c (w : World) (x : Wst) (b bo mk m9 B : Nat) (zs : List Int) (r : Nat) (K0 : KnW) (R : Act → World → Prop) (n : Nat) (a : Act) (W : World) (ht : tasksOk zs = true) (hn6 : zs.length ≤ 6) (hr : r < 32768) (hcap : B + 2 * unkW zs K0 < 1000000) (hJ : InvA w x b bo mk m9 B zs r K0 n a W)
    (hQ : ∀ (a : Act) (W : World) (K : KnW) (Bc : Nat) (y : Wst) (v : Value), a.tmps.getD 4 undef = .bool false → a.defers = [] → MF w x b bo mk m9 B zs r K0 K Bc [] y v W → Bk zs r x K [] y → R a W)
    (hY : ∀ (a : Act) (W : World) (K : KnW) (Bc : Nat) (rows : List Wst) (y : Wst) (v : Value), a.tmps.getD 4 undef = .bool true → a.defers = [] → MF w x b bo mk m9 B zs r K0 K Bc rows y v W → Arv zs r x K rows y → K y = some true → R a W) :
    (sfTail 1).wp Try.prog (jumpN (fun l' a' w' => ∃ n', n' < n ∧ JF w x b bo mk m9 B zs r K0 l' n' a' w') (endQ R)) a W := by
  have hleave := fun n1 a1 W1 (h : InvL w x b bo mk m9 B zs r K0 n1 a1 W1) => leave_c w x b bo mk m9 B zs r K0 R n1 a1 W1 ht hn6 hr hcap h hQ
  unfold sfTail sfAt sfBody at hleave ⊢
  simp only [Try.f56, findLabel, Option.getD, Nat.reduceBEq, Bool.false_eq_true, if_false, if_true, beq_self_eq_true] at hleave ⊢
  have Hleave := Lib.hid hleave
  have HY := Lib.hid hY
  clear hleave hQ hY
  obtain ⟨i0, hi0, hz0, hz1, hz2⟩ := info_partsW Try.infoW9
  apply InvA.elim hJ
  clear hJ a
  intro K Bc ws y v
  intros
  rename_i hf
  obtain ⟨hM, hA, hn⟩ := hf
  have hl8 := tasksOk_len ht
  have hfw : Try.prog.follows Departure.mixedOrders = true := by kernel_rfl
  have hyp := hM.iy.2.1
  have hlk : ∀ q, (Instr.lookup 103 (.map (some mk)) (.agg #[.int .i64 (y.2 : Int), .int .u8 (nth y.1 0), .int .u8 (nth y.1 1), .int .u8 (nth y.1 2), .int .u8 (nth y.1 3), .int .u8 (nth y.1 4), .int .u8 (nth y.1 5), .int .u8 (nth y.1 6), .int .u8 (nth y.1 7)]) true).run Try.prog (W.drewN q) = .ok (.tuple #[.bool ((K y).getD false), .bool (K y).isSome]) (W.drewN q) := fun q => by
    exact (hM.later (below_drewN (Below.refl _ _) q)).map.look ht hM.iy
  have k3 := hM.wat.c3
  have b0 := hM.box.c0
  have b1 := hM.box.cs (i := 0) (by omega)
  have b2 := hM.box.cs (i := 1) (by omega)
  have b3 := hM.box.cs (i := 2) (by omega)
  have b4 := hM.box.cs (i := 3) (by omega)
  have b5 := hM.box.cs (i := 4) (by omega)
  have b6 := hM.box.cs (i := 5) (by omega)
  have b7 := hM.box.cs (i := 6) (by omega)
  have b8 := hM.box.cs (i := 7) (by omega)
  have HM := Lib.hid hM
  have HA := Lib.hid hA
  clear hM hA
  go_wp2_with fail
  go_quiet (fail)
  clear k3 b0 b1 b2 b3 b4 b5 b6 b7 b8 hlk
  have hM1 := HM.out.later (below_drewN (Below.refl _ W) nq)
  obtain ⟨W1, hW1⟩ : ∃ W1, W.drewN nq = W1 := ⟨_, rfl⟩
  rw [hW1] at hM1 ⊢
  clear HM hW1
  cases hKy : K y with
  | some t =>
    have HM := Lib.hid hM1
    cases t with
    | true =>
      have hky : (K y).isSome = true := by rw [hKy]; rfl
      have hkt : (K y).getD false = true := by rw [hKy]; rfl
      have HK := Lib.hid hKy
      clear hM1 hKy
      go_wp2
      show R _ _
      refine HY.out _ _ _ _ _ _ _ ?_ ?_ HM.out HA.out HK.out <;> rfl
    | false =>
      have hbk := Lib.hid (HA.out.back hKy)
      have hlt1 : msr zs K (rem_ zs.length ws y) 1 < n := by
        rw [hn]
        unfold msr
        omega
      clear hM1 hKy
      go_wp2_with fail
      refine wp_goto ?_
      refine ⟨_, hlt1, ?_⟩
      exact InvB.of K Bc ws y v ⟨HM.out, hbk.out, rfl⟩
  | none =>
    have hiy := hM1.iy
    have hun := unkW_put (b := true) hiy hKy
    have hlv := HA.out.leave hKy
    have hM0 : MF w x b bo mk m9 B zs r K0 K Bc ws y v W1.drew := hM1.later (Below.refl _ _).drew
    have hcn := hM1.cnt
    obtain ⟨wp', hrun, hMp, hgp⟩ := hM0.map.put ht hiy true (by omega)
    have HM1 := Lib.hid hM1
    have Hlv := Lib.hid hlv
    unfold wV wC at hrun
    clear hM1 hlv HA hKy
    go_wp2_with fail
    refine wp_region_held_drew (S := fun w' => Wat w' b zs.length r bo mk ∧ Wbx w' w.heap.size y) hfw ⟨hM0.wat, hM0.box⟩ ?_
    intro hS0
    refine wpAnyH_take (i := 0) (v := ?ve20) rfl (by kernel_rfl) (by kernel_rfl) (by kernel_rfl) (fun _ _ _ h => h) (.inl ⟨by first | kernel_rfl | rfl, ?ye20⟩) hS0 ?_
    case ye20 =>
      intro w' hS
      (have k3 := hS.1.c3; have b0 := hS.2.c0; have b1 := hS.2.cs (i := 0) (by omega); have b2 := hS.2.cs (i := 1) (by omega); have b3 := hS.2.cs (i := 2) (by omega); have b4 := hS.2.cs (i := 3) (by omega); have b5 := hS.2.cs (i := 4) (by omega); have b6 := hS.2.cs (i := 5) (by omega); have b7 := hS.2.cs (i := 6) (by omega); have b8 := hS.2.cs (i := 7) (by omega); clear hS)
      go_simp
      try with_reducible rfl
    refine wpAnyH_take (i := 1) (v := ?ve21) rfl (by kernel_rfl) (by kernel_rfl) (by kernel_rfl) (fun _ _ _ h => h) (.inl ⟨by first | kernel_rfl | rfl, ?ye21⟩) hS0 ?_
    case ye21 =>
      intro w' hS
      (have k3 := hS.1.c3; have b0 := hS.2.c0; have b1 := hS.2.cs (i := 0) (by omega); have b2 := hS.2.cs (i := 1) (by omega); have b3 := hS.2.cs (i := 2) (by omega); have b4 := hS.2.cs (i := 3) (by omega); have b5 := hS.2.cs (i := 4) (by omega); have b6 := hS.2.cs (i := 5) (by omega); have b7 := hS.2.cs (i := 6) (by omega); have b8 := hS.2.cs (i := 7) (by omega); clear hS)
      go_simp
      try with_reducible rfl
    refine wpAnyH_take (i := 2) (v := ?ve22) rfl (by kernel_rfl) (by kernel_rfl) (by kernel_rfl) (fun _ _ _ h => h) (.inl ⟨by first | kernel_rfl | rfl, ?ye22⟩) hS0 ?_
    case ye22 =>
      intro w' hS
      (have k3 := hS.1.c3; have b0 := hS.2.c0; have b1 := hS.2.cs (i := 0) (by omega); have b2 := hS.2.cs (i := 1) (by omega); have b3 := hS.2.cs (i := 2) (by omega); have b4 := hS.2.cs (i := 3) (by omega); have b5 := hS.2.cs (i := 4) (by omega); have b6 := hS.2.cs (i := 5) (by omega); have b7 := hS.2.cs (i := 6) (by omega); have b8 := hS.2.cs (i := 7) (by omega); clear hS)
      go_simp
      try with_reducible rfl
    refine wpAnyH_take (i := 3) (v := ?ve23) rfl (by kernel_rfl) (by kernel_rfl) (by kernel_rfl) (fun _ _ _ h => h) (.inl ⟨by first | kernel_rfl | rfl, ?ye23⟩) hS0 ?_
    case ye23 =>
      intro w' hS
      (have k3 := hS.1.c3; have b0 := hS.2.c0; have b1 := hS.2.cs (i := 0) (by omega); have b2 := hS.2.cs (i := 1) (by omega); have b3 := hS.2.cs (i := 2) (by omega); have b4 := hS.2.cs (i := 3) (by omega); have b5 := hS.2.cs (i := 4) (by omega); have b6 := hS.2.cs (i := 5) (by omega); have b7 := hS.2.cs (i := 6) (by omega); have b8 := hS.2.cs (i := 7) (by omega); clear hS)
      go_simp
      try with_reducible rfl
    refine wpAnyH_take (i := 4) (v := ?ve24) rfl (by kernel_rfl) (by kernel_rfl) (by kernel_rfl) (fun _ _ _ h => h) (.inl ⟨by first | kernel_rfl | rfl, ?ye24⟩) hS0 ?_
    case ye24 =>
      intro w' hS
      (have k3 := hS.1.c3; have b0 := hS.2.c0; have b1 := hS.2.cs (i := 0) (by omega); have b2 := hS.2.cs (i := 1) (by omega); have b3 := hS.2.cs (i := 2) (by omega); have b4 := hS.2.cs (i := 3) (by omega); have b5 := hS.2.cs (i := 4) (by omega); have b6 := hS.2.cs (i := 5) (by omega); have b7 := hS.2.cs (i := 6) (by omega); have b8 := hS.2.cs (i := 7) (by omega); clear hS)
      go_simp
      try with_reducible rfl
    try simp only [Act.put, List.getElem_toArray, List.getElem_cons_zero, List.getElem_cons_succ, List.setIfInBounds_toArray, List.set_cons_zero, List.set_cons_succ]
    refine wpAnyH_ready (rs := [5]) (by kernel_rfl) (by simp) ?_
    refine AllReadyH.cons rfl (fun K' hK' => ?_) AllReadyH.nil
    rw [if_pos (by first | kernel_rfl | rfl)]
    go_simp
    have hbl := hM0.bl
    have hmkl := hM0.mkl
    have hbol := hM0.bol
    have hSb : Wat wp' b zs.length r bo mk ∧ Wbx wp' w.heap.size y := ⟨hS0.1.kept hgp (by have := hM0.map.ne_cells (show W1.drew.heap[b]? = _ from hS0.1); simp; omega), hS0.2.kept hgp (by simp; omega)⟩
    refine hK'.out _ _ hSb fun hS1 => ?_
    clear hK' hS1 hS0 hrun
    refine wpAnyH_done (by kernel_rfl) ?_ _
    have hmo := hM0.map.ne_cells (show W1.drew.heap[bo]? = _ from hM0.out)
    have hrow2 := hM0.row.kept hgp (.inr (hM0.row.ne_map hM0.map))
    have hMz : MF w x b bo mk m9 B zs r K0 (kputW K y true) (Bc + 1) ws y v wp' := ⟨hSb.1, hM0.out.kept hgp (by simp; omega), hMp, hSb.2, hrow2, hM0.gr.trans hgp, by omega, hM0.mkl, hM0.bl, hM0.bol, hM0.iy⟩
    have hvb : ∀ j, v.ownBlock = some j → w.heap.size + 1 ≤ j := fun j e => (hrow2.blk j e).1
    have Hvb := Lib.hid hvb
    have hrow : wp'.ownsRow (w.heap.size + 1) 66 9 v ws.reverse.length (flW ws.reverse) := hrow2
    have hlen : ws.reverse.length ≤ 1000000 := by rw [List.length_reverse]; omega
    have hsz : w.heap.size < wp'.heap.size := hSb.2.lt
    have HMz := Lib.hid hMz
    have c0 := hSb.2.c0
    have c1 := hSb.2.cs (i := 0) (by omega)
    have c2 := hSb.2.cs (i := 1) (by omega)
    have c3 := hSb.2.cs (i := 2) (by omega)
    have c4 := hSb.2.cs (i := 3) (by omega)
    have c5 := hSb.2.cs (i := 4) (by omega)
    have c6 := hSb.2.cs (i := 5) (by omega)
    have c7 := hSb.2.cs (i := 6) (by omega)
    have c8 := hSb.2.cs (i := 7) (by omega)
    have hlt3 : msr zs (kputW K y true) (rem_ zs.length ws y + (zs.length - 0)) 3 < n := by
      have hmul := Nat.mul_le_mul_right (3 * zs.length + 10) hun
      rw [hn]
      unfold msr
      rw [Nat.succ_mul] at hmul
      omega
    have Hlt3 := Lib.hid hlt3
    have Hcnt := Lib.hid (show Bc + 1 + 2 * unkW zs (kputW K y true) + (ws.length + 1) ≤ B + 2 * unkW zs K0 by omega)
    clear hlt3 hcn hM0 HM1 hMp hgp hSb hrow2 hMz hvb hmo
    go_wp2_with (at_builtin; refine wpList_append_own_at _ rfl _ _ 112 rfl (w.heap.size + 1) 66 i0 (.agg (wC ([], 0))) 9 16 Try.underlying112 hi0 hz0 hz1 hz2 rfl (by decide) _ _ _ rfl (World.ownsRow.alloc hrow _) ⟨wp'.heap.size, 0, none⟩ 1 1 (wC y).toList rfl rfl (wbx_src (Wbx.new wp' y)) (wC_one y) (by unfold maxLen; omega) (by omega) (by simp; omega) ?_)
    intro v' w2 hown' hgrow _ _
    have hg2 : wp'.grownBy w2 v.ownBlock := (World.grownBy_alloc _ _ _).trans hgrow
    have hrow3 : OwnW (w.heap.size + 1) w2 v' (y :: ws).reverse := by rw [List.reverse_cons]; exact OwnW.snoc (by rw [List.length_reverse]; exact hown')
    have hM2 : MF w x b bo mk m9 B zs r K0 (kputW K y true) (Bc + 1) (y :: ws) y v' w2 := by
      have h := HMz.out
      have hne : ∀ j, j < w.heap.size + 1 → some j ≠ v.ownBlock := fun j hj e => by have := Hvb.out j e.symm; omega
      exact ⟨h.wat.kept hg2 (hne b (by omega)), h.out.kept hg2 (hne bo (by omega)), h.map.kept hg2 (hne mk (by omega)), h.box.kept hg2 (hne w.heap.size (by omega)), hrow3, h.gr.andThen hg2 (fun j e => .inl (by have := Hvb.out j e; omega)), by simpa using Hcnt.out, h.mkl, h.bl, h.bol, h.iy⟩
    clear hown' hgrow hrow
    have HM2 := Lib.hid hM2
    clear hM2 hrow3 hg2 c0 c1 c2 c3 c4 c5 c6 c7 c8
    go_wp2_with fail
    refine wp_label ?_
    rename_i hKend
    refine hKend _ _ ?_
    refine wp_mono (Hleave.out _ _ _ (InvL.of (kputW K y true) (Bc + 1) ws y v' 0 ⟨HM2.out, Hlv.out, rfl⟩)) ?_
    intro e a1 w1 h
    have hlt3 := Hlt3.out
    cases e with
    | goto l =>
      obtain ⟨n', h1, h2⟩ := h
      exact ⟨n', by omega, h2⟩
    | normal => exact h
    | exit id => exact h
    | ret => exact h
    | panic ch => exact h
    | outgrown => exact h

/-- what isSafe answers -/
def SafePost (mk B : Nat) (zs : List Int) (r : Nat) (K0 : KnW) (x : Wst) (w : World) (e : Ending) (w' : World) : Prop :=
  ∃ K Bc, KMapW w' zs mk Bc K ∧ KGoodW zs r K ∧ Bc + 2 * unkW zs K ≤ B + 2 * unkW zs K0 ∧ w.grownBy w' (some mk) ∧
    ((e = .returned (.bool true) ∧ SafeW zs r x) ∨ (e = .returned (.bool false) ∧ ¬ SafeW zs r x))
theorem sf_tail {l : Nat} (hl : l = 0 ∨ l = 1 ∨ l = 2) : sfAt l = .seq .skip (sfTail l) := by
  rcases hl with rfl | rfl | rfl <;> rfl
theorem wp_sf {l : Nat} {Q : Exit → Act → World → Prop} {a : Act} {w : World} (hl : l = 0 ∨ l = 1 ∨ l = 2) (h : (sfTail l).wp Try.prog Q a w) : ∃ rest, findLabel sfBody l = some rest ∧ rest.wp Try.prog Q a w := by
  refine ⟨_, sf_find hl, ?_⟩
  rw [sf_tail hl]
  exact wp_seq (wp_skip h)

set_option maxRecDepth 100000 in
set_option maxHeartbeats 16000000 in
theorem isSafe_c (w : World) (x : Wst) (b bo mk m9 B : Nat) (zs : List Int) (r : Nat) (K0 : KnW) (ht : tasksOk zs = true) (hn6 : zs.length ≤ 6) (hr : r < 32768) (hcap : B + 2 * unkW zs K0 < 1000000)
    (hW : Wat w b zs.length r bo mk) (hO : Outl w bo zs m9) (hM : KMapW w zs mk B K0) (hG : KGoodW zs r K0) (hx : IsW zs x) :
    Calls Try.prog 56 #[.pointer (some ⟨b, 0, none⟩), .agg (wC x)] w (SafePost mk B zs r K0 x w) := by
  obtain ⟨R, hR⟩ : ∃ R : Act → World → Prop, (fun a W => bodyPost Try.prog Try.f56 (SafePost mk B zs r K0 x w) .ret a W) = R := ⟨_, rfl⟩
  have hret : ∀ (a : Act) (W : World) (t : Bool), a.tmps.getD 4 undef = .bool t → a.defers = [] → SafePost mk B zs r K0 x w (.returned (.bool t)) W → R a W := by
    intro a W t h4 hd h
    rw [← hR]
    refine bodyPost_ret (results_tmp rfl _ _ _) hd ?_
    rw [h4]
    exact h
  have hQ : ∀ (a : Act) (W : World) (K : KnW) (Bc : Nat) (y : Wst) (v : Value), a.tmps.getD 4 undef = .bool false → a.defers = [] → MF w x b bo mk m9 B zs r K0 K Bc [] y v W → Bk zs r x K [] y → R a W := by
    intro a W K Bc y v h4 hd hF hB
    refine hret a W false h4 hd ⟨K, Bc, hF.map, hB.over.1, by have := hF.cnt; simp only [List.length_nil] at this; omega, hF.gr, .inr ⟨rfl, hB.over.2⟩⟩
  have hY : ∀ (a : Act) (W : World) (K : KnW) (Bc : Nat) (rows : List Wst) (y : Wst) (v : Value), a.tmps.getD 4 undef = .bool true → a.defers = [] → MF w x b bo mk m9 B zs r K0 K Bc rows y v W → Arv zs r x K rows y → K y = some true → R a W := by
    intro a W K Bc rows y v h4 hd hF hA hk
    refine hret a W true h4 hd ⟨K, Bc, hF.map, (hA.yes hk).1, by have := hF.cnt; omega, hF.gr, .inl ⟨rfl, (hA.yes hk).2⟩⟩
  have hpass : ∀ l n a W, JF w x b bo mk m9 B zs r K0 l n a W → ∃ rest, findLabel sfBody l = some rest ∧ rest.wp Try.prog (jumpN (fun l' a' w' => ∃ n', n' < n ∧ JF w x b bo mk m9 B zs r K0 l' n' a' w') (endQ R)) a W := by
    intro l n a W h
    match l, h with
    | 0, h => exact wp_sf (.inl rfl) (back_c w x b bo mk m9 B zs r K0 R n a W ht hcap h hQ)
    | 1, h => exact wp_sf (.inr (.inl rfl)) (arrive_c w x b bo mk m9 B zs r K0 R n a W ht hn6 hr hcap h hQ hY)
    | 2, h => exact wp_sf (.inr (.inr rfl)) (leave_c w x b bo mk m9 B zs r K0 R n a W ht hn6 hr hcap h hQ)
  have harrive := fun n1 a1 W1 (h : InvA w x b bo mk m9 B zs r K0 n1 a1 W1) => arrive_c w x b bo mk m9 B zs r K0 R n1 a1 W1 ht hn6 hr hcap h hQ hY
  have hM0 : MF w x b bo mk m9 B zs r K0 K0 B [] x (.slice none 0 0) (w.alloc (.cells (wC x) 66)) := by
    have hb : Below w.heap.size w (w.alloc (.cells (wC x) 66)) := (Below.refl _ _).alloc (Nat.le_refl _) _
    exact ⟨hW.later hb, hO.later hb, hM.later hb, Wbx.new w x, ownW_nil _ _, World.grownBy_alloc _ _ _, by simp, hM.lt, hW.lt, hO.lt, hx⟩
  have hA0 := Arv.first hG hx
  have HM := Lib.hid hM0
  have HA := Lib.hid hA0
  have Harr := Lib.hid harrive
  have Hpass := Lib.hid hpass
  have HR := Lib.hid hR
  clear hM0 hA0 harrive hpass hR hQ hY hret hW hO hM hG
  unfold wC at HM ⊢
  go_enter Try.func56, Try.ntmps56
  refine wp_seq_k fun Kq hKq => ?_
  have HKq := Lib.hid hKq
  clear hKq
  go_wp2_with fail
  refine HKq.out _ _ ?_
  show Code.wp Try.prog (.scope sfBody) _ _ _
  refine wp_mono (Q := endQ R) ?_ ?_
  · refine wp_scope_jumpsN (JF w x b bo mk m9 B zs r K0) ?_ Hpass.out
    unfold sfTail sfAt at Harr
    unfold sfBody at Harr ⊢
    simp only [Try.f56, findLabel, Option.getD, if_true, beq_self_eq_true] at Harr ⊢
    clear Hpass HR HKq
    go_wp2_with fail
    refine wp_label ?_
    rename_i hKend
    refine hKend _ _ ?_
    refine wp_mono (Harr.out _ _ _ (InvA.of K0 B [] x _ ⟨HM.out, HA.out, rfl⟩)) ?_
    intro e a1 w1 h
    cases e with
    | goto l =>
      obtain ⟨n', h1, h2⟩ := h
      exact ⟨n', h2⟩
    | normal => exact h
    | exit id => exact h
    | ret => exact h
    | panic ch => exact h
    | outgrown => exact h
  · intro e a1 w1 h
    cases e with
    | ret =>
      have h2 : R a1 w1 := h
      rw [← HR.out] at h2
      exact h2
    | goto l => exact h.elim
    | normal => exact h.elim
    | exit id => exact h.elim
    | panic ch => exact h.elim
    | outgrown => exact h.elim

end Go.Proofs.Ytgndbifcncklgaa
