/-
  Lists of lists as a law's argument: how they read as data, their size, a copy of them.
  Conditions: at most 1048576 lists, of at most 1048576 elements each, where a copy is made.
-/
import Derived.Test.YtlgjnceedjbakaaLol
namespace Go.Proofs.Ytlgjnceedjbakaa
open Go.RowKit Go.Shelf Go.ChangeShapes Go.WideShapes Go.Deep
attribute [local go_sem] Oper.semAt_some

/-- numbers of the kind int64 -/
def L64 (xss : List (List Int)) : Prop := ∀ k, k < xss.length → I64s (lst xss k)
theorem Lsts.shape {n₀ : Nat} {W : World} {sv : Value} {xss : List (List Int)} (h : Lsts n₀ W sv xss) : ∃ a cap, sv = .slice a xss.length cap := let ⟨_, h⟩ := h; h.shape
theorem Lsts.below {n₀ : Nat} {A B : World} {sv : Value} {xss : List (List Int)} (h : Lsts n₀ A sv xss) (hb : Below n₀ A B) : Lsts n₀ B sv xss := let ⟨u, h⟩ := h; ⟨u, h.below hb⟩
theorem LstsU.mono {n₀ n₁ : Nat} {A : World} {sv : Value} {xss : List (List Int)} {u : Nat → Value} (h : LstsU n₀ A sv xss u) (hn : n₀ ≤ n₁) : LstsU n₁ A sv xss u := by
  obtain ⟨⟨a, c, e, h1⟩, h2⟩ := h
  refine ⟨⟨a, c, e, ?_⟩, fun k hk => (h2 k hk).mono hn⟩
  rcases h1 with h1 | ⟨b, off, ha, hbb, hc⟩
  · exact .inl h1
  · exact .inr ⟨b, off, ha, by omega, hc⟩
theorem Lsts.mono {n₀ n₁ : Nat} {A : World} {sv : Value} {xss : List (List Int)} (h : Lsts n₀ A sv xss) (hn : n₀ ≤ n₁) : Lsts n₁ A sv xss := let ⟨u, h⟩ := h; ⟨u, h.mono hn⟩
theorem Lsts.later {w W : World} {sv : Value} {xss : List (List Int)} (h : Lsts w.heap.size w sv xss) (hb : Below w.heap.size w W) : Lsts W.heap.size W sv xss := (h.below hb).mono hb.size
theorem LstsU.later {w W : World} {sv : Value} {xss : List (List Int)} {u : Nat → Value} (h : LstsU w.heap.size w sv xss u) (hb : Below w.heap.size w W) : LstsU W.heap.size W sv xss u := (h.below hb).mono hb.size

/-! ### an argument -/
section
variable {H : Type} {enc : TypeId × Value → H} {P : Program}
theorem lsts_of_Trod {w : World} {spare : Nat → Bool} {held : Bool} {r : Reach} {b0 : Nat} {T : TypeId} {v : Value} {d : DataW H} {p : List MemPlace} {te ti : TypeId} (ht : P.underlying T = some (.slice te)) (he : P.underlying te = some (.slice ti))
    (hi : P.underlying ti = some (.int .i64)) (hc : P.cellsOf te = 1) (hci : P.cellsOf ti = 1) (hv : Value.okWide P w r b0 T v) (h : DataW.Trod enc P w 0 spare held T v d p) :
    ∃ xss : List (List Int), Lsts w.heap.size w v xss ∧ L64 xss ∧ xss.length ≤ 9223372036854775807 ∧ ∀ k, k < xss.length → (lst xss k).length ≤ 9223372036854775807 := by
  obtain ⟨a, len, cap, rfl⟩ := okWide_slice ht hv
  obtain ⟨fuel, hf⟩ := h
  rcases open_slice ht hf with ⟨hcs, _⟩ | ⟨a, len, cap, m, n, D, Pl, hcs, _, hl, hm, hmm, _, hel⟩
  · simp only [Value.cells, List.cons.injEq, and_true, Value.slice.injEq] at hcs
    obtain ⟨rfl, rfl, rfl⟩ := hcs
    exact ⟨[], ⟨fun _ => .slice none 0 0, ⟨none, 0, rfl, .inl rfl⟩, fun k hk => by simp at hk⟩, fun k hk => by simp at hk, by simp, fun k hk => by simp at hk⟩
  · simp only [Value.cells, List.cons.injEq, and_true, Value.slice.injEq] at hcs
    obtain ⟨rfl, rfl, rfl⟩ := hcs
    have hlm : len ≤ m := by rw [hmm]; split <;> omega
    have hx : ∀ i, i < len → ∃ q : Value × List Int, w.cell? (a.add i) = some q.1 ∧ Ints w.heap.size w q.1 q.2 ∧ I64s q.2 ∧ q.2.length ≤ 9223372036854775807 := fun i hil => by
      obtain ⟨cs', h1, h2⟩ := hel i (by omega)
      rw [hc, Nat.mul_one] at h1
      unfold World.cells? at h1
      rw [if_pos (Nat.zero_le _)] at h1
      have r2 : List.range 1 = [0] := rfl
      rw [r2] at h1
      cases e0 : w.cell? ((a.add i).add 0) with
      | none => simp [e0] at h1
      | some c0 =>
        simp [e0] at h1
        subst h1
        obtain ⟨zs, g1, g2, g3⟩ := ints_of_trod he hi hci h2
        refine ⟨(c0, zs), ?_, g1, g2, g3⟩
        have : (a.add i).add 0 = a.add i := by simp [Addr.add]
        rw [this] at e0
        exact e0
    obtain ⟨f, hf2⟩ := choose_lt hx
    have hlen : ((List.range len).map fun i => (f i).2).length = len := by simp
    have hat : ∀ i, i < len → lst ((List.range len).map fun i => (f i).2) i = (f i).2 := fun i h => by simp [lst, h]
    refine ⟨(List.range len).map fun i => (f i).2, ⟨fun i => (f i).1, ⟨some a, cap, by rw [hlen], ?_⟩, fun k hk => ?_⟩, fun k hk => ?_, ?_, fun k hk => ?_⟩
    · by_cases h0 : len = 0
      · exact .inl (by rw [hlen]; exact h0)
      · obtain ⟨b, off, spot⟩ := a
        have hspot : spot = none := by simpa [Addr.add] using World.cell?_spot (hf2 0 (by omega)).1
        subst hspot
        have hbl : b < w.heap.size := by have := World.block_lt_of_cell? w _ (hf2 0 (by omega)).1; simpa [Addr.add] using this
        refine .inr ⟨b, off, rfl, hbl, fun j hj => ?_⟩
        rw [hlen] at hj
        have := (hf2 j hj).1
        rwa [Go.WideShapes.add_plain] at this
    · rw [hlen] at hk
      rw [hat k hk]
      exact (hf2 k hk).2.1
    · rw [hlen] at hk
      rw [hat k hk]
      exact (hf2 k hk).2.2.1
    · rw [hlen]; unfold maxLen at hm; omega
    · rw [hlen] at hk
      rw [hat k hk]
      exact (hf2 k hk).2.2.2
end

/-! ### its size -/
/-- how many lists and elements -/
def totL (xss : List (List Int)) : Nat := xss.length + offs xss xss.length
def szLL (xss : List (List Int)) (left : Int) : Int := if left < totL xss then -1 else left - totL xss
theorem totL_each {xss : List (List Int)} {k : Nat} (h : k < xss.length) : (lst xss k).length ≤ totL xss := by
  have h1 : offs xss (k + 1) ≤ offs xss xss.length := offs_mono xss (by omega)
  simp only [offs] at h1
  unfold totL; omega
theorem totL_len (xss : List (List Int)) : xss.length ≤ totL xss := by unfold totL; omega

set_option maxRecDepth 100000 in
set_option maxHeartbeats 4000000 in
theorem szInt64SS_c (sv : Value) (xss : List (List Int)) (left : Int) (w : World) (hX : Lsts w.heap.size w sv xss) (h0 : 0 ≤ left) (h1 : left ≤ 1048576) (hl : xss.length ≤ 9223372036854775807) (hl2 : ∀ k, k < xss.length → (lst xss k).length ≤ 9223372036854775807) :
    Calls Try.prog 18 #[sv, .int .i64 left] w fun e w' => e = .returned (.int .i64 (szLL xss left)) ∧ Below w.heap.size w w' := by
  obtain ⟨u, hU⟩ := hX
  obtain ⟨a, cap, rfl⟩ := hU.shape
  by_cases hs : left - xss.length < 0
  · have Hm := Lib.hid (show szLL xss left = -1 by unfold szLL totL; rw [if_pos (by omega)])
    clear hU
    go_enter Try.func18, Try.ntmps18
    go_wp2
    go_ret
    exact ⟨ret_int Hm.out.symm, Below.refl _ _⟩
  have HU := Lib.hid hU
  have Hl2 := Lib.hid hl2
  have H1 := Lib.hid (show left - xss.length = left - xss.length - offs xss 0 by simp [offs])
  clear hU hl2
  go_enter Try.func18, Try.ntmps18
  go_wp2
  rw [H1.out]
  clear H1
  go_loopw [5, 1] (fun i q wr => ∃ k : Nat, k ≤ xss.length ∧ i = .int .i64 k ∧ q = .int .i64 (left - xss.length - offs xss k) ∧ 0 ≤ left - xss.length - offs xss k ∧ Below w.heap.size w wr) (fun i _ _ => xss.length - (intOf i).toNat)
  case atStart => exact ⟨0, Nat.zero_le _, rfl, rfl, by simp [offs]; omega, Below.refl _ _⟩
  case round =>
    obtain ⟨k, hk, rfl, rfl, hq0, hB⟩ := hrel
    obtain ⟨q, hq⟩ : ∃ q, left - xss.length - offs xss k = q := ⟨_, rfl⟩
    rw [hq] at hq0 ⊢
    have hq1 : q ≤ 1048576 := by omega
    by_cases hlt : k < xss.length
    · have hU1 := HU.out.below hB
      obtain ⟨b, off, rfl, hb, hc⟩ := hU1.at_ hlt
      have c1 := hc k hlt
      have hki : (k : Int) < (xss.length : Int) := by omega
      have i1 := hU1.2 k hlt
      have hlk := Hl2.out k hlt
      obtain ⟨a3, c3, e3⟩ := i1.shape
      rw [e3] at c1
      have hom := offs_mono xss (show k + 1 ≤ xss.length by omega)
      have hst : offs xss (k + 1) = offs xss k + (lst xss k).length := rfl
      have Hst := Lib.hid hst
      have Hom := Lib.hid hom
      have Hq := Lib.hid hq
      clear hc hU1 i1 hom hst hq e3
      by_cases hn : q - (lst xss k).length < 0
      · have hm : szI (lst xss k).length q = -1 := by unfold szI; rw [if_pos hn]
        have Hm := Lib.hid hm
        have Hm2 := Lib.hid (show szLL xss left = -1 by have := Hq.out; have := Hst.out; have := Hom.out; unfold szLL totL; rw [if_pos (by omega)])
        clear hm
        go_wp2_with fail
        refine (szInt64S_c _ _ _ _ _ (by omega) (by omega) hlk).mono ?_
        rintro e w5 ⟨he, rfl⟩
        rw [Hm.out] at he
        subst he
        have hB2 := hB
        go_wp2
        go_ret
        exact ⟨ret_int Hm2.out.symm, hB2⟩
      · have hm : szI (lst xss k).length q = q - (lst xss k).length := by unfold szI; rw [if_neg hn]
        have Hm := Lib.hid hm
        clear hm
        go_wp2_with fail
        refine (szInt64S_c _ _ _ _ _ (by omega) (by omega) hlk).mono ?_
        rintro e w5 ⟨he, rfl⟩
        rw [Hm.out] at he
        subst he
        have hB2 := hB
        clear hB
        go_wp2
        go_roundw
        case rel => exact ⟨k + 1, by omega, by simp, by rw [Hst.out]; have := Hq.out; congr 1; omega, by rw [Hst.out]; have := Hq.out; omega, hB2⟩
        case measure => simp [intOf]; omega
    · obtain rfl : k = xss.length := by omega
      have Hm2 := Lib.hid (show szLL xss left = q by unfold szLL totL; rw [if_neg (by omega)]; omega)
      go_wp2
      go_ret
      exact ⟨ret_int Hm2.out.symm, hB⟩

/-! ### a copy -/
/-- the first k lists, then none -/
def fillLL (xss : List (List Int)) (k : Nat) : List (List Int) := (List.range xss.length).map fun j => if j < k then lst xss j else []
theorem fillLL_length (xss : List (List Int)) (k : Nat) : (fillLL xss k).length = xss.length := by simp [fillLL]
theorem lst_fillLL {xss : List (List Int)} (k : Nat) {j : Nat} (h : j < xss.length) : lst (fillLL xss k) j = if j < k then lst xss j else [] := by simp [lst, fillLL, h]
theorem fillLL_all (xss : List (List Int)) : fillLL xss xss.length = xss := lst_ext (fillLL_length _ _) fun j hj => by
  rw [fillLL_length] at hj
  rw [lst_fillLL _ hj, if_pos hj]
/-- row i is another one -/
theorem OwnU.put {lo : Nat} {W : World} {g cap : Nat} {xss yss : List (List Int)} {u : Nat → Value} {i : Nat} {r : Value} (h : OwnU lo W (.slice (some ⟨g, 0, none⟩) xss.length cap) xss u) (hi : i < xss.length) (hl : yss.length = xss.length)
    (hy : ∀ j, j < xss.length → j ≠ i → lst yss j = lst xss j) (ho : OwnI lo W r (lst yss i)) (hn : ∀ b, r.ownBlock = some b → ¬ OfU xss.length (.slice (some ⟨g, 0, none⟩) xss.length cap) u b) :
    OwnU lo (W.setCell ⟨g, i, none⟩ r) (.slice (some ⟨g, 0, none⟩) yss.length cap) yss (fun j => if j = i then r else u j) ∧ W.grownBy (W.setCell ⟨g, i, none⟩ r) (some g) := by
  obtain ⟨r1, r2⟩ := World.ownsRow.stored h.list i r
  have hgb : (Value.slice (some ⟨g, 0, none⟩) xss.length cap).ownBlock = some g := by simp [Value.ownBlock]
  refine ⟨⟨?_, fun k hk => ?_, ⟨fun j k hj hk hne b e => ?_, fun j hj b e => ?_⟩⟩, r2⟩
  · rw [hl]
    have : (List.range xss.length).map (fun j => if j = i then r else u j) = ((List.range xss.length).map u).set i r := by
      refine List.ext_getElem (by simp) fun k h1 h2 => ?_
      simp at h1
      simp [List.getElem_set]
      by_cases e : k = i
      · simp [e]
      · simp [e, Ne.symm e]
    rw [this]
    exact r1
  · rw [hl] at hk
    by_cases e : k = i
    · subst e
      simp only [if_true]
      exact ho.of_block fun b e => r2.block b (ho.blk b e).2 fun e' => by cases e'; exact hn _ e (.inl hgb)
    · simp only [if_neg e]
      rw [hy k hk e]
      exact (h.rows k hk).of_block fun b eb => r2.block b ((h.rows k hk).blk b eb).2 fun e' => by cases e'; exact h.apart.list k hk _ eb hgb
  · rw [hl] at hj hk
    by_cases e1 : j = i
    · subst e1
      simp only [if_true] at e
      rw [if_neg (Ne.symm hne)]
      exact fun e' => hn b e (.inr ⟨k, hk, e'⟩)
    · simp only [if_neg e1] at e
      by_cases e2 : k = i
      · subst e2
        simp only [if_true]
        exact fun e' => hn b e' (.inr ⟨j, hj, e⟩)
      · simp only [if_neg e2]
        exact h.apart.rows j k hj hk hne b e
  · rw [hl] at hj
    by_cases e1 : j = i
    · subst e1
      simp only [if_true] at e
      exact fun e' => hn b e (.inl (by simpa [Value.ownBlock] using e'))
    · simp only [if_neg e1] at e
      have := h.apart.list j hj b e
      simpa [Value.ownBlock] using this

theorem OwnU.cellAt {lo : Nat} {W : World} {g n cap : Nat} {xss : List (List Int)} {u : Nat → Value} (h : OwnU lo W (.slice (some ⟨g, 0, none⟩) n cap) xss u) (hn : n = xss.length) {j : Nat} (hj : j < xss.length) : W.cell? ⟨g, j, none⟩ = some (u j) := by
  subst hn
  rw [World.ownsRow.cellAt h.list j (by omega)]
  simp [hj]
theorem OwnU.frozen {lo : Nat} {W : World} {g n cap : Nat} {xss : List (List Int)} {u : Nat → Value} (h : OwnU lo W (.slice (some ⟨g, 0, none⟩) n cap) xss u) (hn : n = xss.length) (j : Nat) : W.frozen? ⟨g, j, none⟩ = false := by subst hn; exact World.ownsRow.frozenAt h.list j
theorem Try.infoSl8 : (Try.prog.info? 37).map (fun i => (i.zero, i.size, i.bytes)) = some (some (.slice none 0 0), 1, 24) := by kernel_rfl
theorem madeSl (n : Nat) : (madeCells #[Value.slice none 0 0] n).toList = (List.range n).map (fun _ => Value.slice none 0 0) := by
  have := toList_madeCells_one (.slice none 0 0) n
  rw [show (madeCells #[Value.slice none 0 0] n).toList = List.replicate n (Value.slice none 0 0) by simpa [Value.cells] using this]
  apply List.ext_getElem <;> simp

set_option maxRecDepth 100000 in
set_option maxHeartbeats 4000000 in
theorem toInt64SS_c (sv : Value) (xss : List (List Int)) (w : World) (hX : Lsts w.heap.size w sv xss) (hl : xss.length ≤ 1048576) (hl2 : ∀ k, k < xss.length → (lst xss k).length ≤ 1048576) :
    Calls Try.prog 20 #[sv] w (GivesLL w xss id) := by
  obtain ⟨i0, hi, hz0, hz1, hz2⟩ := info_parts Try.infoSl8
  obtain ⟨u, hU⟩ := hX
  obtain ⟨a, cap, rfl⟩ := hU.shape
  have HU := Lib.hid hU
  have Hl2 := Lib.hid hl2
  clear hU hl2
  go_enter Try.func20, Try.ntmps20
  go_wp2_with (at_make; refine wpList_make_full _ rfl (.tmp 6) (.tmp 6) 30 rfl w.heap.size 37 i0 (.slice none 0 0) 1 Try.underlying30 hi hz0 hz1 .i64 .i64 _ _ xss.length rfl rfl rfl rfl ?c1 ?c2 ?c3 ?_)
  case c1 => rw [hz2]; omega
  case c2 => unfold maxLen; omega
  case c3 => exact Nat.le_refl _
  intro w1 hown hgrow
  have ho1 : OwnU w.heap.size w1 (.slice (some ⟨w.heap.size, 0, none⟩) xss.length xss.length) (fillLL xss 0) (fun _ => .slice none 0 0) := by
    refine ⟨?_, fun k hk => ?_, ⟨fun i j _ _ _ b e => by simp [Value.ownBlock] at e, fun i _ b e => by simp [Value.ownBlock] at e⟩⟩
    · rw [fillLL_length, ← madeSl]
      simpa [Value.cells] using hown
    · rw [fillLL_length] at hk
      rw [lst_fillLL _ hk, if_neg (by omega)]
      exact ownI_nil _ _
  have hB1 : Below w.heap.size w w1 := (Below.refl _ _).grown hgrow (Nat.le_refl _) (by simp)
  clear hown hgrow
  go_wp2
  go_loopw [4] (fun i wr => ∃ k : Nat, k ≤ xss.length ∧ i = .int .i64 k ∧ (∃ x, OwnU w.heap.size wr (.slice (some ⟨w.heap.size, 0, none⟩) xss.length xss.length) (fillLL xss k) x) ∧ Below w.heap.size w wr)
    (fun i _ => xss.length - (intOf i).toNat)
  case atStart => exact ⟨0, Nat.zero_le _, rfl, ⟨_, ho1⟩, hB1⟩
  case round =>
    obtain ⟨k, hk, rfl, ⟨x, ho⟩, hB⟩ := hrel
    clear ho1 hB1
    by_cases hlt : k < xss.length
    · have hU1 := HU.out.below hB
      obtain ⟨b, off, rfl, hb, hc⟩ := hU1.at_ hlt
      have c1 := hc k hlt
      have i1 := (hU1.2 k hlt).mono hB.size
      have hlk := Hl2.out k hlt
      have hki : (k : Int) < (xss.length : Int) := by omega
      obtain ⟨a3, c3, e3⟩ := i1.shape
      rw [e3] at c1 i1
      have hfl := fillLL_length xss k
      clear hc hU1 e3
      go_wp2_with fail
      refine (toInt64S_c _ _ _ i1 hlk).mono ?_
      rintro e w5 ⟨v, rfl, ho5, hb5⟩
      simp only [id]
      have hO : OwnU w.heap.size w5 (.slice (some ⟨w.heap.size, 0, none⟩) xss.length xss.length) (fillLL xss k) x := ho.of_blocks fun b' e' => hb5.block b' (ho.blks e').2
      have cy := hO.cellAt hfl.symm (j := k) (by rw [hfl]; exact hlt)
      have fy := hO.frozen hfl.symm k
      have hB5 := hB.trans (hb5.mono hB.size)
      have Hf := Lib.hid hfl
      have hput : (∃ x, OwnU w.heap.size (w5.setCell ⟨w.heap.size, k, none⟩ v) (.slice (some ⟨w.heap.size, 0, none⟩) xss.length xss.length) (fillLL xss (k + 1)) x) := by
        have h1 : OwnU w.heap.size w5 (.slice (some ⟨w.heap.size, 0, none⟩) (fillLL xss k).length xss.length) (fillLL xss k) x := by rw [hfl]; exact hO
        have := (h1.put (i := k) (yss := fillLL xss (k + 1)) (r := v) (by rw [hfl]; exact hlt) (by rw [fillLL_length, fillLL_length]) (fun j hj hne => by
          rw [hfl] at hj
          rw [lst_fillLL _ hj, lst_fillLL _ hj]
          by_cases e : j < k
          · rw [if_pos e, if_pos (by omega)]
          · rw [if_neg e, if_neg (by omega)]) (by rw [lst_fillLL _ hlt, if_pos (by omega)]; exact ho5.base hB.size) (fun b' e' hof => by
            have h2 := (ho5.blk b' e').1
            have h3 := (ho.blks (b := b') (by rw [hfl] at hof ⊢; exact hof)).2
            omega)).1
        rw [fillLL_length] at this
        exact ⟨_, this⟩
      obtain ⟨av, cv, rfl⟩ := ho5.ints.shape
      clear ho hO hfl ho5 hb5 hB i1
      go_wp2
      go_roundw
      case rel => exact ⟨k + 1, by omega, by simp, hput, hB5.setCell (p := ⟨w.heap.size, k, none⟩) (Nat.le_refl _) _⟩
      case measure => simp [intOf]; omega
    · obtain rfl : k = xss.length := by omega
      rw [fillLL_all] at ho
      go_wp2
      go_ret
      exact ⟨_, rfl, ⟨_, ho⟩, hB⟩

end Go.Proofs.Ytlgjnceedjbakaa
