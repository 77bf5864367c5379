/-
  The search in the depth: goOn.
  Conditions: at most 8 tasks, at most 1000000 states.
-/
import Derived.Test.YtieobjoijalijaaPlb
import Derived.Test.YtieobjoijalijaaApr
namespace Go.Proofs.Ytieobjoijalijaa
open Go.RowKit Go.Shelf Go.Maps
attribute [local go_sem] Oper.semAt_some

theorem grown_drewG (W : World) (n : Nat) (row : Option Nat) : W.grownBy (W.drewN n) row := ⟨rfl, rfl, rfl, Nat.le_refl _, fun _ _ _ => rfl⟩
/-- what the search stands on -/
structure EnvG (W : World) (gs : List Int) (bP mP lo n₀ : Nat) (a : Option Addr) (cap : Nat) (vs : Value) (sl : List Int) (v : Value) (ps : List Int) (B : Nat) (P : Places) : Prop where
  plr : Plr W bP (.slice a gs.length cap) vs v mP
  map : PMap W gs mP B P
  row : OwnI lo W v ps
  gaps : Ints n₀ W (.slice a gs.length cap) gs
  sets : OwnI n₀ W vs sl
  low : ∀ k, vs.ownBlock = some k → k < lo
  le : lo ≤ W.heap.size
  ltP : bP < lo
  ltM : mP < lo
  n0P : n₀ ≤ bP
  n0M : n₀ ≤ mP
  ne : bP ≠ mP
section
variable {W W' : World} {gs : List Int} {bP mP lo n₀ : Nat} {a : Option Addr} {cap : Nat} {vs : Value} {sl : List Int} {v : Value} {ps : List Int} {B : Nat} {P : Places}
theorem EnvG.grown {row : Option Nat} (E : EnvG W gs bP mP lo n₀ a cap vs sl v ps B P) (hg : W.grownBy W' row) (h1 : some bP ≠ row) (h2 : some mP ≠ row) (h3 : v.ownBlock = none ∨ v.ownBlock ≠ row) (h4 : ∀ k, row = some k → lo ≤ k) : EnvG W' gs bP mP lo n₀ a cap vs sl v ps B P := by
  have hn0 : n₀ ≤ W.heap.size := by have := E.n0P; have := E.ltP; have := E.le; omega
  refine ⟨E.plr.kept hg h1, E.map.kept hg h2, E.row.kept hg h3, ?_, E.sets.of_block fun k hk => hg.block k (E.sets.blk k hk).2 (fun e => by have h5 := h4 k e.symm; have h6 := E.low k hk; omega), E.low, Nat.le_trans E.le hg.size, E.ltP, E.ltM, E.n0P, E.n0M, E.ne⟩
  obtain ⟨a', c', e, hz⟩ := E.gaps
  refine ⟨a', c', e, ?_⟩
  rcases hz with hz | ⟨b, off, ha, hb, hc⟩
  · exact .inl hz
  · refine .inr ⟨b, off, ha, hb, fun j hj => (World.cell?_of_block (a := ⟨b, off + j, none⟩) (hg.block b (by omega) (fun e2 => ?_))).trans (hc j hj)⟩
    have h5 := h4 b e2.symm
    have := E.n0P; have := E.ltP; omega
theorem EnvG.below (E : EnvG W gs bP mP lo n₀ a cap vs sl v ps B P) (hb : Below W.heap.size W W') : EnvG W' gs bP mP lo n₀ a cap vs sl v ps B P :=
  E.grown (row := none) ⟨hb.os, hb.tape, hb.output, hb.size, fun k hk _ => hb.block k hk⟩ (by simp) (by simp) (by cases e : v.ownBlock <;> simp) (by simp)
end
/-- the blocks that a call may turn -/
def GoR (bP mP : Nat) (v : Value) (k : Nat) : Prop := k = bP ∨ k = mP ∨ v.ownBlock = some k
def GoPost (gs : List Int) (m : Int) (bP mP lo n₀ : Nat) (a : Option Addr) (cap : Nat) (vs : Value) (sl : List Int) (B : Nat) (v : Value) (ps : List Int) (P : Places) (w : World) (e : Ending) (w' : World) : Prop :=
  ∃ v' ps' P', EnvG w' gs bP mP lo n₀ a cap vs sl v' ps' B P' ∧ Chg (GoR bP mP v) w w' ∧ (∀ j, v'.ownBlock = some j → v.ownBlock = some j ∨ w.heap.size ≤ j) ∧ (∀ x, P x ≠ none → P' x ≠ none) ∧
    ((∃ p : Nat, e = .returned (.tuple #[.int .i64 (p : Int), .bool true]) ∧ Found gs m ps' p ∧ ps'.length ≤ 1000000) ∨ (e = .returned (.tuple #[.int .i64 (-1), .bool false]) ∧ ps' = ps ∧ KnowP gs m P' ps ps.length ∧ ¬ LastS gs m (stAt gs ps ps.length)))

set_option maxRecDepth 100000 in
set_option maxHeartbeats 8000000 in
theorem goOn_known {gs : List Int} (ht : tasksOk gs = true) {m : Int} {bP mP lo n₀ : Nat} {a : Option Addr} {cap : Nat} {vs : Value} {sl : List Int} {v : Value} {ps : List Int} {B : Nat} {P : Places} {w : World} {st : List Int} (E : EnvG w gs bP mP lo n₀ a cap vs sl v ps B P) (hw : WayP gs m ps) (hK : KnowP gs m P ps ps.length) (hst : stAt gs ps ps.length = st) (hs : IsSt gs st) (hl : ps.length ≤ 1000000) {p : Int} (hp : P st = some p) :
    Calls Try.prog 147 #[.pointer (some ⟨bP, 0, none⟩), arrV st] w (GoPost gs m bP mP lo n₀ a cap vs sl B v ps P w) := by
  have hb0 : Below w.heap.size w (w.alloc (.cells #[.int .u8 (nth st 0), .int .u8 (nth st 1), .int .u8 (nth st 2), .int .u8 (nth st 3), .int .u8 (nth st 4), .int .u8 (nth st 5), .int .u8 (nth st 6), .int .u8 (nth st 7)] 126)) := (Below.refl _ w).alloc (Nat.le_refl _) _
  have bS : Arr (w.alloc (.cells #[.int .u8 (nth st 0), .int .u8 (nth st 1), .int .u8 (nth st 2), .int .u8 (nth st 3), .int .u8 (nth st 4), .int .u8 (nth st 5), .int .u8 (nth st 6), .int .u8 (nth st 7)] 126)) w.heap.size st := Arr.new w st
  have E0 := E.below hb0
  obtain ⟨w0, hw0⟩ : ∃ w0, w.alloc (.cells #[.int .u8 (nth st 0), .int .u8 (nth st 1), .int .u8 (nth st 2), .int .u8 (nth st 3), .int .u8 (nth st 4), .int .u8 (nth st 5), .int .u8 (nth st 6), .int .u8 (nth st 7)] 126) = w0 := ⟨_, rfl⟩
  rw [hw0] at hb0 bS E0
  have hlk : ∀ q, (Instr.lookup 159 (.map (some mP)) (.agg #[.int .u8 (nth st 0), .int .u8 (nth st 1), .int .u8 (nth st 2), .int .u8 (nth st 3), .int .u8 (nth st 4), .int .u8 (nth st 5), .int .u8 (nth st 6), .int .u8 (nth st 7)]) true).run Try.prog (w0.drewN q) = .ok (.tuple #[.int .i64 p, .bool true]) (w0.drewN q) := fun q => by
    have := (E0.map.kept (grown_drewG w0 q none) (by simp)).look ht hs
    rw [hp] at this
    exact this
  have k3 := E0.plr.c3
  have cS0 := bS.cell (i := 0) (by omega)
  have cS1 := bS.cell (i := 1) (by omega)
  have cS2 := bS.cell (i := 2) (by omega)
  have cS3 := bS.cell (i := 3) (by omega)
  have cS4 := bS.cell (i := 4) (by omega)
  have cS5 := bS.cell (i := 5) (by omega)
  have cS6 := bS.cell (i := 6) (by omega)
  have cS7 := bS.cell (i := 7) (by omega)
  have HE := Lib.hid E0
  have Hb := Lib.hid hb0
  have Hfin := Lib.hid (show ∀ W', Chg (GoR bP mP v) w W' → EnvG W' gs bP mP lo n₀ a cap vs sl v ps B P → ∀ e, e = Ending.returned (.tuple #[.int .i64 p, .bool (p != -1)]) → GoPost gs m bP mP lo n₀ a cap vs sl B v ps P w e W' from fun W' hc hE e he => by
    refine ⟨v, ps, P, hE, hc, fun j hj => .inl hj, fun _ h => h, ?_⟩
    by_cases h1 : p = -1
    · subst h1
      exact .inr ⟨by rw [he]; rfl, rfl, hK, by rw [hst]; exact hK.dead st hp⟩
    · obtain ⟨q, rfl, hf⟩ := hK.found hw (by rw [hst]; exact hp) h1
      refine .inl ⟨q, ?_, hf, hl⟩
      rw [he]
      have : ((q : Int) != -1) = true := by simp
      rw [this])
  clear E E0 hb0 bS hK hw
  unfold arrV cells8
  go_enter Try.func147, Try.ntmps147
  go_wp2_with fail
  go_quiet (fail)
  clear cS0 cS1 cS2 cS3 cS4 cS5 cS6 cS7
  have hE2 : EnvG (w0.drewN nq) gs bP mP lo n₀ a cap vs sl v ps B P := HE.out.below (below_drewN (Below.refl _ _) _)
  have hc2 : Chg (GoR bP mP v) w (w0.drewN nq) := ⟨Hb.out.os, Hb.out.tape, Hb.out.output, Hb.out.size, fun k _ hk => Hb.out.block k hk⟩
  clear hlk k3
  go_wp2
  go_ret2
  exact Hfin.out _ hc2 hE2 _ rfl

theorem unkP_zero {gs : List Int} {P : Places} (h : unkP gs P ≤ 0) {st : List Int} (hs : IsSt gs st) : ∃ p, P st = some p := by
  cases hK : P st with
  | some r => exact ⟨r, rfl⟩
  | none => have := unkP_put (p := 0) hs hK; omega
theorem ownI_ne_arr {B b : Nat} {W : World} {u : Value} {zs xs : List Int} (h : OwnI B W u zs) (hb : Arr W b xs) : u.ownBlock ≠ some b := by
  intro e
  obtain ⟨_, h2⟩ := h
  rcases h2 with ⟨rfl, _⟩ | ⟨g, cap, cur, rfl, _, hh, _⟩
  · simp [Value.ownBlock] at e
  · obtain rfl : g = b := by simpa [Value.ownBlock] using e
    have := hh.symm.trans hb
    simp at this
theorem Chg.wider {R R' : Nat → Prop} {A B C : World} (h : Chg R A B) (k : Chg R' B C) (hr : ∀ j, R' j → j < A.heap.size → R j) : Chg R A C :=
  ⟨k.os.trans h.os, k.tape.trans h.tape, k.output.trans h.output, Nat.le_trans h.size k.size, fun i hi hl => (k.same i (fun h' => hi (hr i h' hl)) (Nat.lt_of_lt_of_le hl h.size)).trans (h.same i hi hl)⟩

theorem PMap.mono {W : World} {gs : List Int} {m B B' : Nat} {P : Places} (h : PMap W gs m B P) (hb : B ≤ B') : PMap W gs m B' P := by
  obtain ⟨n, D, h1, h2, h3⟩ := h; exact ⟨n, D, h1, by omega, h3⟩
/-- the first n elements of an own row -/
theorem OwnI.trunc {B g cap : Nat} {W : World} {xs ys : List Int} (h : OwnI B W (.slice (some ⟨g, 0, none⟩) (xs ++ ys).length cap) (xs ++ ys)) : OwnI B W (.slice (some ⟨g, 0, none⟩) xs.length cap) xs := by
  obtain ⟨h1, h2⟩ := h
  rcases h2 with ⟨e, _⟩ | ⟨g', cap', cur, e, hg, hh, hn, hm, hs, ht⟩
  · simp at e
  · simp only [Value.slice.injEq, Option.some.injEq, Addr.mk.injEq, and_true] at e
    obtain ⟨rfl, -, rfl⟩ := e
    refine ⟨by simp, .inr ⟨g, cap, cur, rfl, hg, hh, by rw [List.length_append] at hn; omega, hm, hs, ?_⟩⟩
    have h5 := congrArg (List.take xs.length) ht
    rw [List.length_append, Nat.mul_one, List.take_take] at h5
    rw [Nat.mul_one]
    simpa using h5
theorem Ints.low {n₀ : Nat} {W W' : World} {v : Value} {gs : List Int} (h : Ints n₀ W v gs) (hb : ∀ k, k < n₀ → W'.heap[k]? = W.heap[k]?) : Ints n₀ W' v gs := by
  obtain ⟨a', c', e, hz⟩ := h
  refine ⟨a', c', e, ?_⟩
  rcases hz with hz | ⟨b, off, ha, hlt, hc⟩
  · exact .inl hz
  · exact .inr ⟨b, off, ha, hlt, fun j hj => (World.cell?_of_block (a := ⟨b, off + j, none⟩) (hb b hlt)).trans (hc j hj)⟩
section
variable {W W' : World} {gs : List Int} {bP mP lo n₀ : Nat} {a : Option Addr} {cap : Nat} {vs : Value} {sl : List Int} {v : Value} {ps : List Int} {B B' : Nat} {P P' : Places}
theorem EnvG.mono (E : EnvG W gs bP mP lo n₀ a cap vs sl v ps B P) (h : B ≤ B') : EnvG W gs bP mP lo n₀ a cap vs sl v ps B' P := ⟨E.plr, E.map.mono h, E.row, E.gaps, E.sets, E.low, E.le, E.ltP, E.ltM, E.n0P, E.n0M, E.ne⟩
theorem EnvG.put (E : EnvG W gs bP mP lo n₀ a cap vs sl v ps B P) (hg : W.grownBy W' (some mP)) (hM : PMap W' gs mP B' P') : EnvG W' gs bP mP lo n₀ a cap vs sl v ps B' P' := by
  have h0 := E.n0M; have h1 := E.ltM; have h2 := E.le
  exact ⟨E.plr.kept hg (fun e => E.ne (Option.some.inj e)), hM, E.row.kept hg (.inr (ownI_ne_pmap E.row E.map)), E.gaps.low fun k hk => hg.block k (by omega) (fun e => by have := Option.some.inj e; omega), E.sets.kept hg (.inr (ownI_ne_pmap E.sets E.map)), E.low, Nat.le_trans E.le hg.size, E.ltP, E.ltM, E.n0P, E.n0M, E.ne⟩
theorem EnvG.play (E : EnvG W gs bP mP lo n₀ a cap vs sl v ps B P) {u : Value} {us : List Int} (hg : W.grownBy W' v.ownBlock) (ho : OwnI lo W' u us) : EnvG (W'.setCell ⟨bP, 2, none⟩ u) gs bP mP lo n₀ a cap vs sl u us B P := by
  have h0 := E.n0P; have h1 := E.ltP; have h2 := E.le
  have hv1 := ownI_ne_plr E.row E.plr
  have hv2 := ownI_ne_pmap E.row E.map
  have hp := E.plr.kept hg (fun e => hv1 e.symm)
  have hg2 := grownBy_setCell2 W' bP 2 u
  refine ⟨hp.set u, (E.map.kept hg (fun e => hv2 e.symm)).kept hg2 (fun e => E.ne (Option.some.inj e).symm), ho.kept hg2 (.inr (ownI_ne_plr ho hp)), E.gaps.low fun k hk => (hg2.block k (by have := hg.size; omega) (fun e => by have := Option.some.inj e; omega)).trans (hg.block k (by omega) (fun e => by have := (E.row.blk k e.symm).1; omega)), ?_, E.low, Nat.le_trans E.le (Nat.le_trans hg.size hg2.size), E.ltP, E.ltM, E.n0P, E.n0M, E.ne⟩
  have hs1 : OwnI n₀ W' vs sl := E.sets.of_block fun k hk => hg.block k (E.sets.blk k hk).2 (fun e => by have h5 := (E.row.blk k e.symm).1; have h6 := E.low k hk; omega)
  exact hs1.kept hg2 (.inr (ownI_ne_plr hs1 hp))
end
/-- inside a call, whatever the play is -/
structure MidG (gs : List Int) (bP mP lo n₀ : Nat) (a : Option Addr) (cap : Nat) (vs : Value) (sl : List Int) (C : Nat) (v : Value) (w : World) (st : List Int) (us : List Int) (W : World) (u : Value) (P' : Places) : Prop where
  env : EnvG W gs bP mP lo n₀ a cap vs sl u us C P'
  arr : Arr W w.heap.size st
  chg : Chg (GoR bP mP v) w W
  at_ : ∀ j, u.ownBlock = some j → v.ownBlock = some j ∨ w.heap.size ≤ j
  lo_ : lo ≤ w.heap.size
section
variable {gs : List Int} {m : Int} {bP mP lo n₀ : Nat} {a : Option Addr} {cap : Nat} {vs : Value} {sl : List Int} {B C C' f : Nat} {v : Value} {ps us us' : List Int} {P : Places} {w : World} {st : List Int} {q : Nat} {W W' : World} {u u' v' : Value} {P' P'' : Places}
theorem MidG.below (E : MidG gs bP mP lo n₀ a cap vs sl C v w st us W u P') (hb : Below W.heap.size W W') : MidG gs bP mP lo n₀ a cap vs sl C v w st us W' u P' :=
  ⟨E.env.below hb, E.arr.later hb, E.chg.trans ⟨hb.os, hb.tape, hb.output, hb.size, fun k _ hk => hb.block k hk⟩, E.at_, E.lo_⟩
theorem MidG.put (E : MidG gs bP mP lo n₀ a cap vs sl C v w st us W u P') (hg : W.grownBy W' (some mP)) (hM : PMap W' gs mP C' P'') : MidG gs bP mP lo n₀ a cap vs sl C' v w st us W' u P'' :=
  ⟨E.env.put hg hM, E.arr.kept hg (fun e => by have h1 := Option.some.inj e; have h2 := E.env.ltM; have h3 := E.lo_; omega), E.chg.trans (Chg.grown hg fun k e => by cases e; exact .inr (.inl rfl)), E.at_, E.lo_⟩
theorem MidG.play (E : MidG gs bP mP lo n₀ a cap vs sl C v w st us W u P') (hg : W.grownBy W' u.ownBlock) (ho : OwnI lo W' u' us') (hat : ∀ j, u'.ownBlock = some j → u.ownBlock = some j ∨ W.heap.size ≤ j) : MidG gs bP mP lo n₀ a cap vs sl C v w st us' (W'.setCell ⟨bP, 2, none⟩ u') u' P' := by
  have h2 := E.env.ltP; have h3 := E.lo_; have h4 := E.chg.size
  have ha := E.arr.kept hg (fun e => ownI_ne_arr E.env.row E.arr e.symm)
  refine ⟨E.env.play hg ho, ha.kept (grownBy_setCell2 _ _ _ _) (fun e => by have h1 := Option.some.inj e; omega), ?_, fun j hj => ?_, E.lo_⟩
  · refine (E.chg.wider (R' := GoR bP mP u) (Chg.grown hg fun k e => .inr (.inr e)) fun j hj hl => ?_).trans (Chg.setCell _ _ _ _ (.inl rfl))
    rcases hj with hj | hj | hj
    · exact .inl hj
    · exact .inr (.inl hj)
    · rcases E.at_ j hj with h | h
      · exact .inr (.inr h)
      · omega
  · rcases hat j hj with h | h
    · exact E.at_ j h
    · exact .inr (by omega)
theorem MidG.call (E : MidG gs bP mP lo n₀ a cap vs sl C v w st us W u P') (hc : Chg (GoR bP mP u) W W') (hE : EnvG W' gs bP mP lo n₀ a cap vs sl u' us' C' P'') (hat : ∀ j, u'.ownBlock = some j → u.ownBlock = some j ∨ W.heap.size ≤ j) : MidG gs bP mP lo n₀ a cap vs sl C' v w st us' W' u' P'' := by
  have h1 := E.env.ltP; have h2 := E.env.ltM; have h3 := E.lo_; have h4 := E.chg.size
  refine ⟨hE, (hc.same w.heap.size (fun h => ?_) E.arr.lt).trans E.arr, E.chg.wider hc fun j hj hl => ?_, fun j hj => ?_, E.lo_⟩
  · rcases h with h | h | h
    · omega
    · omega
    · exact ownI_ne_arr E.env.row E.arr h
  · rcases hj with hj | hj | hj
    · exact .inl hj
    · exact .inr (.inl hj)
    · rcases E.at_ j hj with h | h
      · exact .inr (.inr h)
      · omega
  · rcases hat j hj with h | h
    · exact E.at_ j h
    · exact .inr (by omega)
end
/-- while the sets are looked at, behind the first q of them -/
structure LoopG (gs : List Int) (m : Int) (bP mP lo n₀ : Nat) (a : Option Addr) (cap : Nat) (vs : Value) (sl : List Int) (B f : Nat) (v : Value) (ps : List Int) (P : Places) (w : World) (st : List Int) (q : Nat) (W : World) (v' : Value) (P' : Places) : Prop where
  mid : MidG gs bP mP lo n₀ a cap vs sl (B - 1) v w st ps W v' P'
  know : KnowP gs m P' ps (ps.length + 1)
  old : ∀ x, P x ≠ none → P' x ≠ none
  own : P' st ≠ none
  unk : unkP gs P' ≤ f
  tot : ps.length + 1 + unkP gs P' ≤ 1000000
  dead : ∀ q', q' < q → ∀ t : Nat, nth sl q' = (t : Int) → OpnS st t → ¬ LastS gs m (stepS gs st t)
section
variable {gs : List Int} {m : Int} {bP mP lo n₀ : Nat} {a : Option Addr} {cap : Nat} {vs : Value} {sl : List Int} {B f : Nat} {v : Value} {ps : List Int} {P : Places} {w : World} {st : List Int} {q : Nat} {W W' : World} {v' : Value} {P' : Places}
theorem LoopG.below (E : LoopG gs m bP mP lo n₀ a cap vs sl B f v ps P w st q W v' P') (hb : Below W.heap.size W W') : LoopG gs m bP mP lo n₀ a cap vs sl B f v ps P w st q W' v' P' :=
  ⟨E.mid.below hb, E.know, E.old, E.own, E.unk, E.tot, E.dead⟩
theorem LoopG.deadq (E : LoopG gs m bP mP lo n₀ a cap vs sl B f v ps P w st q W v' P') {t : Nat} (ht : nth sl q = (t : Int)) (hn : OpnS st t → ¬ LastS gs m (stepS gs st t)) : ∀ q', q' < q + 1 → ∀ t : Nat, nth sl q' = (t : Int) → OpnS st t → ¬ LastS gs m (stepS gs st t) := by
  intro q' h u hu ho
  by_cases e : q' = q
  · subst e
    have : u = t := by rw [ht] at hu; omega
    subst this
    exact hn ho
  · exact E.dead q' (by omega) u hu ho
theorem LoopG.skip (E : LoopG gs m bP mP lo n₀ a cap vs sl B f v ps P w st q W v' P') {t : Nat} (ht : nth sl q = (t : Int)) (hn : OpnS st t → ¬ LastS gs m (stepS gs st t)) : LoopG gs m bP mP lo n₀ a cap vs sl B f v ps P w st (q + 1) W v' P' :=
  ⟨E.mid, E.know, E.old, E.own, E.unk, E.tot, E.deadq ht hn⟩
end

set_option maxRecDepth 100000 in
set_option maxHeartbeats 32000000 in
theorem goOn_c {gs : List Int} (ht : tasksOk gs = true) {m : Int} {bP mP lo n₀ : Nat} {a : Option Addr} {cap : Nat} {vs : Value} {sl : List Int} (hsl : setsTo m (2 ^ gs.length) = sl) : ∀ (f : Nat) (v : Value) (ps : List Int) (B : Nat) (P : Places) (w : World) (st : List Int), unkP gs P ≤ f → EnvG w gs bP mP lo n₀ a cap vs sl v ps B P → WayP gs m ps → KnowP gs m P ps ps.length → stAt gs ps ps.length = st → B ≤ 1000000000000000 → ps.length + unkP gs P ≤ 1000000 →
    Calls Try.prog 147 #[.pointer (some ⟨bP, 0, none⟩), arrV st] w (GoPost gs m bP mP lo n₀ a cap vs sl B v ps P w) := by
  intro f
  induction f with
  | zero =>
    intro v ps B P w st hf E hw hK hst hB hT
    have hs : IsSt gs st := by rw [← hst]; exact hw.st (pos_of ht) _ (Nat.le_refl _)
    obtain ⟨p, hp⟩ := unkP_zero hf hs
    exact goOn_known ht E hw hK hst hs (by omega) hp
  | succ f ih =>
    intro v ps B P w st hf E hw hK hst hB hT
    have hs : IsSt gs st := by rw [← hst]; exact hw.st (pos_of ht) _ (Nat.le_refl _)
    cases hPs : P st with
    | some p => exact goOn_known ht E hw hK hst hs (by omega) hPs
    | none =>
      have hfw : Try.prog.follows Departure.mixedOrders = true := by kernel_rfl
      have hl8 := (tasksOk_len ht).2
      have hb0 : Below w.heap.size w (w.alloc (.cells #[.int .u8 (nth st 0), .int .u8 (nth st 1), .int .u8 (nth st 2), .int .u8 (nth st 3), .int .u8 (nth st 4), .int .u8 (nth st 5), .int .u8 (nth st 6), .int .u8 (nth st 7)] 126)) := (Below.refl _ w).alloc (Nat.le_refl _) _
      have bS : Arr (w.alloc (.cells #[.int .u8 (nth st 0), .int .u8 (nth st 1), .int .u8 (nth st 2), .int .u8 (nth st 3), .int .u8 (nth st 4), .int .u8 (nth st 5), .int .u8 (nth st 6), .int .u8 (nth st 7)] 126)) w.heap.size st := Arr.new w st
      have E0 := E.below hb0
      obtain ⟨w0, hw0⟩ : ∃ w0, w.alloc (.cells #[.int .u8 (nth st 0), .int .u8 (nth st 1), .int .u8 (nth st 2), .int .u8 (nth st 3), .int .u8 (nth st 4), .int .u8 (nth st 5), .int .u8 (nth st 6), .int .u8 (nth st 7)] 126) = w0 := ⟨_, rfl⟩
      rw [hw0] at hb0 bS E0
      have hlk : ∀ q, (Instr.lookup 159 (.map (some mP)) (.agg #[.int .u8 (nth st 0), .int .u8 (nth st 1), .int .u8 (nth st 2), .int .u8 (nth st 3), .int .u8 (nth st 4), .int .u8 (nth st 5), .int .u8 (nth st 6), .int .u8 (nth st 7)]) true).run Try.prog (w0.drewN q) = .ok (.tuple #[.int .i64 0, .bool false]) (w0.drewN q) := fun q => by
        have := (E0.map.kept (grown_drewG w0 q none) (by simp)).look ht hs
        rw [hPs] at this
        exact this
      have k3 := E0.plr.c3
      have cS0 := bS.cell (i := 0) (by omega)
      have cS1 := bS.cell (i := 1) (by omega)
      have cS2 := bS.cell (i := 2) (by omega)
      have cS3 := bS.cell (i := 3) (by omega)
      have cS4 := bS.cell (i := 4) (by omega)
      have cS5 := bS.cell (i := 5) (by omega)
      have cS6 := bS.cell (i := 6) (by omega)
      have cS7 := bS.cell (i := 7) (by omega)
      have HE := Lib.hid E0
      have Hb := Lib.hid hb0
      have HS := Lib.hid bS
      have Hih := Lib.hid ih
      clear E0 hb0 bS ih
      unfold arrV cells8
      go_enter Try.func147, Try.ntmps147
      go_wp2_with fail
      go_quiet (fail)
      clear cS0 cS1 cS2 cS3 cS4 cS5 cS6 cS7
      clear hlk k3
      obtain ⟨W, hW⟩ : ∃ W, w0.drewN nq = W := ⟨_, rfl⟩
      have E2 : EnvG W gs bP mP lo n₀ a cap vs sl v ps B P := by rw [← hW]; exact HE.out.below (below_drewN (Below.refl _ _) _)
      have bS2 : Arr W w.heap.size st := by rw [← hW]; exact HS.out.later (below_drewN (Below.refl _ _) _)
      have hb2 : Below w.heap.size w W := by rw [← hW]; exact below_drewN Hb.out _
      rw [hW]
      clear hW HE HS Hb
      go_wp2_with fail
      obtain ⟨Wd, hWd⟩ : ∃ Wd, W.drew = Wd := ⟨_, rfl⟩
      have E3 : EnvG Wd gs bP mP lo n₀ a cap vs sl v ps B P := by rw [← hWd]; exact E2.below (Below.refl _ _).drew
      have bS3 : Arr Wd w.heap.size st := by rw [← hWd]; exact bS2.later (Below.refl _ _).drew
      have hb3 : Below w.heap.size w Wd := by rw [← hWd]; exact hb2.drew
      have hn1 : 1 ≤ unkP gs P := by have := unkP_put (p := 0) hs hPs; omega
      obtain ⟨W2, hrun, hM3, hg3⟩ := E3.map.put (B - 1) ht (p := (ps.length : Int)) (by omega) hs hB (fun n hn => by have := unkP_put (p := (ps.length : Int)) hs hPs; omega)
      have hput : (Instr.mapUpdate 159 (.map (some mP)) (.agg #[.int .u8 (nth st 0), .int .u8 (nth st 1), .int .u8 (nth st 2), .int .u8 (nth st 3), .int .u8 (nth st 4), .int .u8 (nth st 5), .int .u8 (nth st 6), .int .u8 (nth st 7)]) (.int .i64 ((ps.length : Nat) : Int))).run Try.prog Wd = .ok () W2 := hrun
      obtain ⟨av, cv, rfl⟩ := E3.row.ints.shape
      have hne := plr_ne_pmap E3.plr E3.map
      have hbPs := ownI_ne_pmap E3.row E3.map
      have hn0 : n₀ ≤ Wd.heap.size := by have h1 := E3.n0P; have h2 := E3.ltP; have h3 := E3.le; omega
      have M3 : MidG gs bP mP lo n₀ a cap vs sl B (.slice av ps.length cv) w st ps Wd (.slice av ps.length cv) P := ⟨E3, bS3, ⟨hb3.os, hb3.tape, hb3.output, hb3.size, fun k _ hk => hb3.block k hk⟩, fun j hj => .inl hj, E.le⟩
      have M4 := M3.put hg3 hM3
      refine wp_region_held_drew (S := fun w' => Plr w' bP (.slice a gs.length cap) vs (.slice av ps.length cv) mP ∧ Arr w' w.heap.size st) hfw (by rw [hWd]; exact ⟨E3.plr, bS3⟩) ?_
      intro hS0
      refine wpAnyH_take (i := 0) (v := ?vr10) rfl (by kernel_rfl) (by kernel_rfl) (by kernel_rfl) (fun _ _ _ h => h) (.inl ⟨by rfl, ?yr10⟩) hS0 ?_
      case yr10 =>
        intro w' hS
        (have k0 := hS.2.cell (i := 0) (by omega); have k1 := hS.2.cell (i := 1) (by omega); have k2 := hS.2.cell (i := 2) (by omega); have k3 := hS.2.cell (i := 3) (by omega); have k4 := hS.2.cell (i := 4) (by omega); have k5 := hS.2.cell (i := 5) (by omega); have k6 := hS.2.cell (i := 6) (by omega); have k7 := hS.2.cell (i := 7) (by omega); have k8 := hS.1.c3; have k9 := hS.1.c2; clear hS)
        go_simp
        try with_reducible rfl
      refine wpAnyH_take (i := 1) (v := ?vr11) rfl (by kernel_rfl) (by kernel_rfl) (by kernel_rfl) (fun _ _ _ h => h) (.inl ⟨by rfl, ?yr11⟩) hS0 ?_
      case yr11 =>
        intro w' hS
        (have k0 := hS.2.cell (i := 0) (by omega); have k1 := hS.2.cell (i := 1) (by omega); have k2 := hS.2.cell (i := 2) (by omega); have k3 := hS.2.cell (i := 3) (by omega); have k4 := hS.2.cell (i := 4) (by omega); have k5 := hS.2.cell (i := 5) (by omega); have k6 := hS.2.cell (i := 6) (by omega); have k7 := hS.2.cell (i := 7) (by omega); have k8 := hS.1.c3; have k9 := hS.1.c2; clear hS)
        go_simp
        try with_reducible rfl
      refine wpAnyH_take (i := 2) (v := ?vr12) rfl (by kernel_rfl) (by kernel_rfl) (by kernel_rfl) (fun _ _ _ h => h) (.inl ⟨by rfl, ?yr12⟩) hS0 ?_
      case yr12 =>
        intro w' hS
        (have k0 := hS.2.cell (i := 0) (by omega); have k1 := hS.2.cell (i := 1) (by omega); have k2 := hS.2.cell (i := 2) (by omega); have k3 := hS.2.cell (i := 3) (by omega); have k4 := hS.2.cell (i := 4) (by omega); have k5 := hS.2.cell (i := 5) (by omega); have k6 := hS.2.cell (i := 6) (by omega); have k7 := hS.2.cell (i := 7) (by omega); have k8 := hS.1.c3; have k9 := hS.1.c2; clear hS)
        go_simp
        try with_reducible rfl
      refine wpAnyH_take (i := 3) (v := ?vr13) rfl (by kernel_rfl) (by kernel_rfl) (by kernel_rfl) (fun _ _ _ h => h) (.inl ⟨by rfl, ?yr13⟩) hS0 ?_
      case yr13 =>
        intro w' hS
        (have k0 := hS.2.cell (i := 0) (by omega); have k1 := hS.2.cell (i := 1) (by omega); have k2 := hS.2.cell (i := 2) (by omega); have k3 := hS.2.cell (i := 3) (by omega); have k4 := hS.2.cell (i := 4) (by omega); have k5 := hS.2.cell (i := 5) (by omega); have k6 := hS.2.cell (i := 6) (by omega); have k7 := hS.2.cell (i := 7) (by omega); have k8 := hS.1.c3; have k9 := hS.1.c2; clear hS)
        go_simp
        try with_reducible rfl
      refine wpAnyH_take (i := 4) (v := ?vr14) rfl (by kernel_rfl) (by kernel_rfl) (by kernel_rfl) (fun _ _ _ h => h) (.inl ⟨by rfl, ?yr14⟩) hS0 ?_
      case yr14 =>
        intro w' hS
        (have k0 := hS.2.cell (i := 0) (by omega); have k1 := hS.2.cell (i := 1) (by omega); have k2 := hS.2.cell (i := 2) (by omega); have k3 := hS.2.cell (i := 3) (by omega); have k4 := hS.2.cell (i := 4) (by omega); have k5 := hS.2.cell (i := 5) (by omega); have k6 := hS.2.cell (i := 6) (by omega); have k7 := hS.2.cell (i := 7) (by omega); have k8 := hS.1.c3; have k9 := hS.1.c2; clear hS)
        go_simp
        try with_reducible rfl
      refine wpAnyH_take (i := 5) (v := ?vr15) rfl (by kernel_rfl) (by kernel_rfl) (by kernel_rfl) (fun _ _ _ h => h) (.inl ⟨by rfl, ?yr15⟩) hS0 ?_
      case yr15 =>
        intro w' hS
        (have k0 := hS.2.cell (i := 0) (by omega); have k1 := hS.2.cell (i := 1) (by omega); have k2 := hS.2.cell (i := 2) (by omega); have k3 := hS.2.cell (i := 3) (by omega); have k4 := hS.2.cell (i := 4) (by omega); have k5 := hS.2.cell (i := 5) (by omega); have k6 := hS.2.cell (i := 6) (by omega); have k7 := hS.2.cell (i := 7) (by omega); have k8 := hS.1.c3; have k9 := hS.1.c2; clear hS)
        go_simp
        try with_reducible rfl
      refine wpAnyH_take (i := 6) (v := ?vr16) rfl (by kernel_rfl) (by kernel_rfl) (by kernel_rfl) (fun _ _ _ h => h) (.inl ⟨by rfl, ?yr16⟩) hS0 ?_
      case yr16 =>
        intro w' hS
        (have k0 := hS.2.cell (i := 0) (by omega); have k1 := hS.2.cell (i := 1) (by omega); have k2 := hS.2.cell (i := 2) (by omega); have k3 := hS.2.cell (i := 3) (by omega); have k4 := hS.2.cell (i := 4) (by omega); have k5 := hS.2.cell (i := 5) (by omega); have k6 := hS.2.cell (i := 6) (by omega); have k7 := hS.2.cell (i := 7) (by omega); have k8 := hS.1.c3; have k9 := hS.1.c2; clear hS)
        go_simp
        try with_reducible rfl
      refine wpAnyH_take (i := 7) (v := ?vr17) rfl (by kernel_rfl) (by kernel_rfl) (by kernel_rfl) (fun _ _ _ h => h) (.inl ⟨by rfl, ?yr17⟩) hS0 ?_
      case yr17 =>
        intro w' hS
        (have k0 := hS.2.cell (i := 0) (by omega); have k1 := hS.2.cell (i := 1) (by omega); have k2 := hS.2.cell (i := 2) (by omega); have k3 := hS.2.cell (i := 3) (by omega); have k4 := hS.2.cell (i := 4) (by omega); have k5 := hS.2.cell (i := 5) (by omega); have k6 := hS.2.cell (i := 6) (by omega); have k7 := hS.2.cell (i := 7) (by omega); have k8 := hS.1.c3; have k9 := hS.1.c2; clear hS)
        go_simp
        try with_reducible rfl
      refine wpAnyH_take (i := 8) (v := ?vr18) rfl (by kernel_rfl) (by kernel_rfl) (by kernel_rfl) (fun _ _ _ h => h) (.inl ⟨by rfl, ?yr18⟩) hS0 ?_
      case yr18 =>
        intro w' hS
        (have k0 := hS.2.cell (i := 0) (by omega); have k1 := hS.2.cell (i := 1) (by omega); have k2 := hS.2.cell (i := 2) (by omega); have k3 := hS.2.cell (i := 3) (by omega); have k4 := hS.2.cell (i := 4) (by omega); have k5 := hS.2.cell (i := 5) (by omega); have k6 := hS.2.cell (i := 6) (by omega); have k7 := hS.2.cell (i := 7) (by omega); have k8 := hS.1.c3; have k9 := hS.1.c2; clear hS)
        go_simp
        try with_reducible rfl
      refine wpAnyH_take (i := 9) (v := ?vr19) rfl (by kernel_rfl) (by kernel_rfl) (by kernel_rfl) (fun _ _ _ h => h) (.inl ⟨by rfl, ?yr19⟩) hS0 ?_
      case yr19 =>
        intro w' hS
        (have k0 := hS.2.cell (i := 0) (by omega); have k1 := hS.2.cell (i := 1) (by omega); have k2 := hS.2.cell (i := 2) (by omega); have k3 := hS.2.cell (i := 3) (by omega); have k4 := hS.2.cell (i := 4) (by omega); have k5 := hS.2.cell (i := 5) (by omega); have k6 := hS.2.cell (i := 6) (by omega); have k7 := hS.2.cell (i := 7) (by omega); have k8 := hS.1.c3; have k9 := hS.1.c2; clear hS)
        go_simp
        try with_reducible rfl
      rw [hWd] at hS0 ⊢
      refine wpAnyH_ready (rs := [10]) (by kernel_rfl) (by simp) ?_
      refine AllReadyH.cons rfl (fun K' hK' => ?_) AllReadyH.nil
      rw [if_pos (by rfl)]
      go_simp
      refine hK'.out _ _ ⟨M4.env.plr, M4.arr⟩ fun hS1 => ?_
      refine wpAnyH_done (by kernel_rfl) ?_ _
      have hsa := hw.st (pos_of ht) _ (Nat.le_refl _)
      have E5 : LoopG gs m bP mP lo n₀ a cap vs sl B f (.slice av ps.length cv) ps P w st 0 W2 (.slice av ps.length cv) (pput P st (ps.length : Int)) := by
        have hu := unkP_put (p := (ps.length : Int)) hs hPs
        refine ⟨M4, ?_, fun x hx => ?_, by rw [pput_same]; simp, by omega, by omega, fun q' h => by omega⟩
        · have := hK.new hsa (by rw [hst]; exact hPs)
          rw [hst] at this
          exact this
        · by_cases e : x = st
          · subst e; rw [pput_same]; simp
          · rw [pput_other e]; exact hx
      clear hput hrun hS0 hS1 M3 M4 hM3 hg3 E3 bS3 hb3 hWd E2 bS2 hb2 hne hbPs hn0 hsa
      obtain ⟨P5, hP5⟩ : ∃ P5, pput P st (ps.length : Int) = P5 := ⟨_, rfl⟩
      rw [hP5] at E5
      clear hP5
      have cS0 := E5.mid.arr.cell (i := 0) (by omega)
      have cS1 := E5.mid.arr.cell (i := 1) (by omega)
      have cS2 := E5.mid.arr.cell (i := 2) (by omega)
      have cS3 := E5.mid.arr.cell (i := 3) (by omega)
      have cS4 := E5.mid.arr.cell (i := 4) (by omega)
      have cS5 := E5.mid.arr.cell (i := 5) (by omega)
      have cS6 := E5.mid.arr.cell (i := 6) (by omega)
      have cS7 := E5.mid.arr.cell (i := 7) (by omega)
      have HE5 := Lib.hid E5
      clear E5
      go_wp2_with fail
      refine (tasksDue_c st W2).mono ?_
      rintro e W3 ⟨rfl, hb3⟩
      clear cS0 cS1 cS2 cS3 cS4 cS5 cS6 cS7
      have E6 := HE5.out.below hb3
      clear HE5 hb3
      obtain ⟨a2, c2, rfl⟩ := E6.mid.env.sets.ints.shape
      have k1 := E6.mid.env.plr.c1
      have HE6 := Lib.hid E6
      clear E6
      go_wp2_with fail
      have hB1 : 1 ≤ B := by obtain ⟨n, _, _, h, _⟩ := E.map; omega
      clear E hT hf hn1 hPs
      have hsl8 : sl.length ≤ 256 := by rw [← hsl]; exact Nat.le_trans (setsTo_len _ _) (Nat.le_trans (Nat.pow_le_pow_right (by decide) hl8) (by decide : 2 ^ 8 ≤ 256))
      go_loopw [43] (fun i wr => ∃ (q : Nat) (v' : Value) (P' : Places), q ≤ sl.length ∧ i = .int .i64 (q : Int) ∧ LoopG gs m bP mP lo n₀ a cap (.slice a2 sl.length c2) sl B f (.slice av ps.length cv) ps P w st q wr v' P') (fun i _ => sl.length - (intOf i).toNat)
      case atStart => exact ⟨0, _, _, Nat.zero_le _, rfl, HE6.out⟩
      case round =>
        obtain ⟨q, v', P', hq, rfl, E⟩ := hrel
        clear HE6
        by_cases hlt : q < sl.length
        · obtain ⟨t, hnt, htN, htp⟩ := nth_setsTo (m := m) (N := 2 ^ gs.length) (q := q) (by rw [hsl]; exact hlt)
          rw [hsl] at hnt
          have hqi : (q : Int) < (sl.length : Int) := by omega
          have hq2 : (q : Int) < 256 := by omega
          have ht8 : t < 256 := Nat.lt_of_lt_of_le htN (Nat.le_trans (Nat.pow_le_pow_right (by decide) hl8) (by decide : 2 ^ 8 ≤ 256))
          obtain ⟨g, cp, e2, -, -⟩ := E.mid.env.sets.shape (by omega)
          cases e2
          have kq := E.mid.env.sets.cellAt hlt
          rw [hnt] at kq
          have hopn := andNot_opn (d := dueTo st 8) t (by have := dueTo_lt st 8 (Nat.le_refl _); omega)
          have hdue := opn_due hs hl8 t
          have k2 := E.mid.env.plr.c2
          have HE := Lib.hid E
          clear E
          cases ho : opnB (dueTo st 8) t
          · rw [ho] at hopn hdue
            have E2 := HE.out.skip hnt (fun h => absurd (hdue.2 h) (by simp))
            clear HE hdue ho
            go_wp2
            go_roundw
            case rel => exact ⟨q + 1, v', P', by omega, by simp, E2⟩
            case measure => simp [intOf]; omega
          · rw [ho] at hopn hdue
            have hOp := hdue.1 rfl
            clear hdue ho
            obtain ⟨i0, hi, hz0, hz1, hz2⟩ := info_parts Try.infoI
            obtain ⟨av', cv', rfl⟩ := HE.out.mid.env.row.ints.shape
            have hrow := HE.out.mid.env.row
            have hlo := HE.out.mid.env.le
            have hpl : ps.length + 1 ≤ 1000000 := by have := HE.out.tot; omega
            go_wp2_with (at_builtin; refine wpList_append_own_at _ rfl _ _ 22 rfl lo 2 i0 (.int .i64 0) 1 8 Try.underlying22 hi hz0 hz1 hz2 rfl (by decide) _ _ _ rfl (World.ownsRow.alloc hrow _) ⟨wr.heap.size, 0, none⟩ 1 1 [.int .i64 (t : Int)] rfl rfl (Go.cell_one_new _ _ _) (by simp [Value.oneCell']) (by unfold maxLen; omega) (by omega) (by simp; omega) ?_)
            intro v9 W5 hown' hgrow _ hat
            have hgr : wr.grownBy W5 (Value.slice av' ps.length cv').ownBlock := (World.grownBy_alloc _ _ _).trans hgrow
            have ho9 := ownI_snoc hown'
            obtain ⟨s9, hs9⟩ : ∃ s9, ps ++ [(t : Int)] = s9 := ⟨_, rfl⟩
            rw [hs9] at ho9
            have hp9 : s9.length = ps.length + 1 := by rw [← hs9]; simp
            obtain ⟨g9, c9, rfl, -, -⟩ := ho9.shape (by omega)
            have M6 := HE.out.mid.play hgr ho9 (fun j hj => by
              rcases hat with h | h
              · exact .inl (h.symm.trans hj)
              · rw [h] at hj; have := Option.some.inj hj; exact .inr (by omega))
            have hp5 := HE.out.mid.env.plr.kept hgr (fun e => ownI_ne_plr hrow HE.out.mid.env.plr e.symm)
            have k5 := hp5.c2
            have f5 := hp5.frozen 2
            have cA0 := M6.arr.cell (i := 0) (by omega)
            have cA1 := M6.arr.cell (i := 1) (by omega)
            have cA2 := M6.arr.cell (i := 2) (by omega)
            have cA3 := M6.arr.cell (i := 3) (by omega)
            have cA4 := M6.arr.cell (i := 4) (by omega)
            have cA5 := M6.arr.cell (i := 5) (by omega)
            have cA6 := M6.arr.cell (i := 6) (by omega)
            have cA7 := M6.arr.cell (i := 7) (by omega)
            have HM6 := Lib.hid M6
            have Hs9 := Lib.hid hs9
            have Hp9 := Lib.hid hp9
            clear hat hgr hgrow hown' ho9 hp5 M6 hrow hlo hs9 hp9
            go_wp2_with fail
            obtain ⟨W6, hW6⟩ : ∃ W6, W5.setCell ⟨bP, 2, none⟩ (.slice (some ⟨g9, 0, none⟩) s9.length c9) = W6 := ⟨_, rfl⟩
            have M6 := HM6.out
            rw [hW6] at M6 ⊢
            clear HM6 hW6 k5 f5
            clear cA0 cA1 cA2 cA3 cA4 cA5 cA6 cA7
            have hgs6 : Ints W6.heap.size W6 (.slice a gs.length cap) gs := M6.env.gaps.mono (by have h1 := M6.env.n0P; have h2 := M6.env.ltP; have h3 := M6.env.le; omega)
            refine (behind_c bP mP _ _ a cap gs st t W6 M6.env.plr hgs6 ht hs ht8).mono ?_
            rintro e W7 ⟨rfl, hb7⟩
            have M7 := M6.below hb7
            clear M6 hgs6 hb7
            go_wp2_with fail
            have hway : WayP gs m s9 := by
              rw [← Hs9.out]
              refine hw.snoc ⟨⟨htN, htp⟩, by rw [hst]; exact hOp, fun t' h1 h2 h3 => ?_⟩
              rw [hst] at h3 ⊢
              obtain ⟨q', hq', e'⟩ := sets_before (m := m) (N := 2 ^ gs.length) (q := q) (t := t') (by rw [hsl]; exact hlt) (by rw [hsl, hnt]; exact_mod_cast h1) h2.2
              rw [hsl] at e'
              exact HE.out.dead q' hq' t' e' h3
            have hkn : KnowP gs m P' s9 s9.length := by rw [← Hs9.out]; exact HE.out.know.more t
            have hst9 : stAt gs s9 s9.length = stepS gs st t := by rw [← Hs9.out, stAt_last, hst]
            refine (Hih.out _ s9 (B - 1) P' W7 (stepS gs st t) HE.out.unk M7.env hway hkn hst9 (by omega) (by have := HE.out.tot; have := Hp9.out; omega)).mono ?_
            rintro e W8 ⟨v10, ps10, P10, E10, hc10, hat10, hold10, hcase⟩
            have M8 := M7.call hc10 E10 hat10
            clear M7 hway E10 hc10 hat10 hkn
            rcases hcase with ⟨p, rfl, hf10, hl10⟩ | ⟨rfl, rfl, hK10, hdead⟩
            · clear k1 k2 kq Hih
              go_wp2
              go_ret2
              exact ⟨v10, ps10, P10, M8.env.mono (by omega), M8.chg, M8.at_, fun x hx => hold10 x (HE.out.old x hx), .inl ⟨p, rfl, hf10, hl10⟩⟩
            · obtain ⟨g10, c10, rfl, -, -⟩ := M8.env.row.shape (by have := Hp9.out; omega)
              have hcap : ps.length + 1 ≤ c10 := by
                have h1 := M8.env.row
                have h2 := Hp9.out
                obtain ⟨_, h3⟩ := h1
                rcases h3 with ⟨e, _⟩ | ⟨g', cap', cur, e, _, _, h4, h5, h6, _⟩
                · simp at e
                · simp only [Value.slice.injEq, Option.some.injEq, Addr.mk.injEq, and_true] at e
                  obtain ⟨rfl, -, rfl⟩ := e
                  omega
              have k8 := M8.env.plr.c2
              have f8 := M8.env.plr.frozen 2
              rw [Hp9.out] at k8
              have hrow10 : OwnI lo W8 (.slice (some ⟨g10, 0, none⟩) ps.length c10) ps := by
                have h1 := M8.env.row
                rw [← Hs9.out] at h1
                exact h1.trunc
              have M9 := M8.play (W' := W8) (u' := .slice (some ⟨g10, 0, none⟩) ps.length c10) ⟨rfl, rfl, rfl, Nat.le_refl _, fun _ _ _ => rfl⟩ hrow10 (fun j hj => .inl hj)
              have E9 : LoopG gs m bP mP lo n₀ a cap (.slice (some ⟨g, 0, none⟩) sl.length c2) sl B f (.slice av ps.length cv) ps P w st (q + 1) (W8.setCell ⟨bP, 2, none⟩ (.slice (some ⟨g10, 0, none⟩) ps.length c10)) (.slice (some ⟨g10, 0, none⟩) ps.length c10) P10 := by
                have hu := unkP_le (gs := gs) hold10
                refine ⟨M9, ?_, fun x hx => hold10 x (HE.out.old x hx), hold10 _ HE.out.own, Nat.le_trans hu HE.out.unk, by have := HE.out.tot; omega, HE.out.deadq hnt (fun _ => by rw [← hst9]; exact hdead)⟩
                have h1 := hK10
                rw [← Hs9.out] at h1
                exact h1.less
              have HE9 := Lib.hid (E9.below (W' := (W8.setCell ⟨bP, 2, none⟩ (.slice (some ⟨g10, 0, none⟩) ps.length c10)).drew) (Below.refl _ _).drew)
              clear E9 M9 M8 hrow10 hold10 hK10 hdead HE Hs9 Hp9 hst9 k1 k2 kq Hih
              have hi1 : ((ps.length : Int) + 1 - 1) = (ps.length : Int) := by omega
              go_wp2_with fail
              go_region
              go_wp2
              go_roundw
              case rel => exact ⟨q + 1, _, P10, by omega, by simp, HE9.out⟩
              case measure => simp [intOf]; omega
        · obtain rfl : q = sl.length := by omega
          have hnl : ¬ LastS gs m st := by
            intro h
            obtain ⟨s, h1, h2, h3⟩ := lastS_step h
            obtain ⟨q', hq', e'⟩ := setsTo_idx h1
            rw [hsl] at hq' e'
            exact E.dead q' hq' s e' h2 h3
          obtain ⟨Wd, hWd⟩ : ∃ Wd, wr.drew = Wd := ⟨_, rfl⟩
          have M3 : MidG gs bP mP lo n₀ a cap (.slice a2 sl.length c2) sl (B - 1) (.slice av ps.length cv) w st ps Wd v' P' := by rw [← hWd]; exact E.mid.below (Below.refl _ _).drew
          have hsame := unkP_same (gs := gs) (p := -1) E.own
          obtain ⟨W2, hrun, hM3, hg3⟩ := M3.env.map.put B ht (p := -1) (by omega) hs (by omega) (fun n hn => by omega)
          have hput : (Instr.mapUpdate 159 (.map (some mP)) (.agg #[.int .u8 (nth st 0), .int .u8 (nth st 1), .int .u8 (nth st 2), .int .u8 (nth st 3), .int .u8 (nth st 4), .int .u8 (nth st 5), .int .u8 (nth st 6), .int .u8 (nth st 7)]) (.int .i64 (-1))).run Try.prog Wd = .ok () W2 := hrun
          have M4 := M3.put hg3 hM3
          have hdie : KnowP gs m (pput P' st (-1)) ps ps.length := by
            have := E.know.die (by rw [hst]; exact hnl)
            rw [hst] at this
            exact this
          have hold : ∀ x, P x ≠ none → pput P' st (-1) x ≠ none := fun x hx => by
            by_cases e : x = st
            · subst e; rw [pput_same]; simp
            · rw [pput_other e]; exact E.old x hx
          obtain ⟨P9, hP9⟩ : ∃ P9, pput P' st (-1) = P9 := ⟨_, rfl⟩
          rw [hP9] at M4 hdie hold
          have HM4 := Lib.hid M4
          have Hd := Lib.hid hdie
          have Ho := Lib.hid hold
          have Hn := Lib.hid hnl
          have HM3 := Lib.hid M3
          clear E hrun hM3 hg3 hP9 hsame M4 M3 hdie hold hnl Hih
          go_wp2_with fail
          refine wp_region_held_drew (S := fun w' => Plr w' bP (.slice a gs.length cap) (.slice a2 sl.length c2) v' mP ∧ Arr w' w.heap.size st) hfw (by rw [hWd]; exact ⟨HM3.out.env.plr, HM3.out.arr⟩) ?_
          intro hS0
          refine wpAnyH_take (i := 0) (v := ?vr30) rfl (by kernel_rfl) (by kernel_rfl) (by kernel_rfl) (fun _ _ _ h => h) (.inl ⟨by rfl, ?yr30⟩) hS0 ?_
          case yr30 =>
            intro w' hS
            (have k0 := hS.2.cell (i := 0) (by omega); have k1 := hS.2.cell (i := 1) (by omega); have k2 := hS.2.cell (i := 2) (by omega); have k3 := hS.2.cell (i := 3) (by omega); have k4 := hS.2.cell (i := 4) (by omega); have k5 := hS.2.cell (i := 5) (by omega); have k6 := hS.2.cell (i := 6) (by omega); have k7 := hS.2.cell (i := 7) (by omega); have k8 := hS.1.c3; have k9 := hS.1.c2; clear hS)
            go_simp
            try with_reducible rfl
          refine wpAnyH_take (i := 1) (v := ?vr31) rfl (by kernel_rfl) (by kernel_rfl) (by kernel_rfl) (fun _ _ _ h => h) (.inl ⟨by rfl, ?yr31⟩) hS0 ?_
          case yr31 =>
            intro w' hS
            (have k0 := hS.2.cell (i := 0) (by omega); have k1 := hS.2.cell (i := 1) (by omega); have k2 := hS.2.cell (i := 2) (by omega); have k3 := hS.2.cell (i := 3) (by omega); have k4 := hS.2.cell (i := 4) (by omega); have k5 := hS.2.cell (i := 5) (by omega); have k6 := hS.2.cell (i := 6) (by omega); have k7 := hS.2.cell (i := 7) (by omega); have k8 := hS.1.c3; have k9 := hS.1.c2; clear hS)
            go_simp
            try with_reducible rfl
          refine wpAnyH_take (i := 2) (v := ?vr32) rfl (by kernel_rfl) (by kernel_rfl) (by kernel_rfl) (fun _ _ _ h => h) (.inl ⟨by rfl, ?yr32⟩) hS0 ?_
          case yr32 =>
            intro w' hS
            (have k0 := hS.2.cell (i := 0) (by omega); have k1 := hS.2.cell (i := 1) (by omega); have k2 := hS.2.cell (i := 2) (by omega); have k3 := hS.2.cell (i := 3) (by omega); have k4 := hS.2.cell (i := 4) (by omega); have k5 := hS.2.cell (i := 5) (by omega); have k6 := hS.2.cell (i := 6) (by omega); have k7 := hS.2.cell (i := 7) (by omega); have k8 := hS.1.c3; have k9 := hS.1.c2; clear hS)
            go_simp
            try with_reducible rfl
          refine wpAnyH_take (i := 3) (v := ?vr33) rfl (by kernel_rfl) (by kernel_rfl) (by kernel_rfl) (fun _ _ _ h => h) (.inl ⟨by rfl, ?yr33⟩) hS0 ?_
          case yr33 =>
            intro w' hS
            (have k0 := hS.2.cell (i := 0) (by omega); have k1 := hS.2.cell (i := 1) (by omega); have k2 := hS.2.cell (i := 2) (by omega); have k3 := hS.2.cell (i := 3) (by omega); have k4 := hS.2.cell (i := 4) (by omega); have k5 := hS.2.cell (i := 5) (by omega); have k6 := hS.2.cell (i := 6) (by omega); have k7 := hS.2.cell (i := 7) (by omega); have k8 := hS.1.c3; have k9 := hS.1.c2; clear hS)
            go_simp
            try with_reducible rfl
          refine wpAnyH_take (i := 4) (v := ?vr34) rfl (by kernel_rfl) (by kernel_rfl) (by kernel_rfl) (fun _ _ _ h => h) (.inl ⟨by rfl, ?yr34⟩) hS0 ?_
          case yr34 =>
            intro w' hS
            (have k0 := hS.2.cell (i := 0) (by omega); have k1 := hS.2.cell (i := 1) (by omega); have k2 := hS.2.cell (i := 2) (by omega); have k3 := hS.2.cell (i := 3) (by omega); have k4 := hS.2.cell (i := 4) (by omega); have k5 := hS.2.cell (i := 5) (by omega); have k6 := hS.2.cell (i := 6) (by omega); have k7 := hS.2.cell (i := 7) (by omega); have k8 := hS.1.c3; have k9 := hS.1.c2; clear hS)
            go_simp
            try with_reducible rfl
          rw [hWd] at hS0 ⊢
          refine wpAnyH_ready (rs := [5]) (by kernel_rfl) (by simp) ?_
          refine AllReadyH.cons rfl (fun K' hK' => ?_) AllReadyH.nil
          rw [if_pos (by rfl)]
          go_simp
          refine hK'.out _ _ ⟨HM4.out.env.plr, HM4.out.arr⟩ fun hS1 => ?_
          refine wpAnyH_done (by kernel_rfl) ?_ _
          clear hput hS0 hS1
          go_wp2
          go_ret2
          exact ⟨v', ps, P9, HM4.out.env, HM4.out.chg, HM4.out.at_, Ho.out, .inr ⟨rfl, rfl, Hd.out, by rw [hst]; exact Hn.out⟩⟩

end Go.Proofs.Ytieobjoijalijaa
