/-
  The days of a rule in the program: the iterator work, walked with a loop's own rounds.
  Conditions: gardens; at most 200 days.
-/
import Derived.Test.YtogpkaeodgokgaaGrF
import Derived.Test.YtogpkaeodgokgaaKnow
namespace Go.Proofs.Ytogpkaeodgokgaa
open Go.RowKit Go.Shelf
attribute [local go_sem] Oper.semAt_some run_store_funcG

section
variable {F : Fence} {n : Nat} {P : Program}
theorem range_doneG {l fn dd : Nat} {tmps : Array Value} {ps : Array Tmp} {assign body : Code} {Q : Exit → Act → World → Prop} {a : Act} {v : Value} {W : World}
    (hl : W.heap[l]? = some (.loop (recOf fn tmps ps assign body dd .ready none))) (h : ∀ Wx, W.grownBy Wx (some l) → Q .normal a Wx) : rangePost F n P l Q a (.returned v) W := range_done hl (h _ (grownBy_putObj' _ _ _))
theorem range_jumpG {l fn dd : Nat} {tmps : Array Value} {ps : Array Tmp} {assign body c : Code} {Q : Exit → Act → World → Prop} {a : Act} {v : Value} {W : World}
    (hl : W.heap[l]? = some (.loop (recOf fn tmps ps assign body dd .done (some c)))) (h : ∀ Wx, W.grownBy Wx (some l) → c.wpIn F n P Q a Wx) : rangePost F n P l Q a (.returned v) W := range_jump hl (h _ (grownBy_putObj' _ _ _))
/-- one round whose assignments turn the world -/
theorem yield_roundG {l : Nat} {fn : FuncId} {tmps : Array Value} {ps : Array Tmp} {assign body : Code} {dd : Nat} {args : Array Value} {W W1 : World} {R : Ending → World → Prop} (hfn : F.fn fn)
    (hl : W.heap[l]? = some (.loop (recOf fn tmps ps assign body dd .ready none))) (hl1 : W1.heap[l]? = some (.loop (recOf fn tmps ps assign body dd .ready none))) (hps : args.size = ps.size) (a₁ : Act)
    (hassign : ∀ K : Act → World → Prop, K a₁ W1 → assign.wpIn (F.inRound l) n P (Exit.then K (fun _ _ _ => False)) { tmps := (ps.zip args).foldl (fun t (p, v) => t.setIfInBounds p v) tmps, defers := [] } W)
    (hbody : ∀ Wb, W1.grownBy Wb (some l) → Wb.heap[l]? = some (.loop { recOf fn tmps ps assign body dd .ready none with state := .busy }) → body.wpIn (F.inRound l) n P (roundR l fn tmps ps assign body dd R) a₁ Wb) :
    YieldAt F n P l args W R := by
  have hy := run_yield (P := P) (args := args) hl hps
  refine ⟨fn, _, assign, body, hy, roundIn_of_wpIn hfn (hassign _ ⟨_, run_beginRound hl1 rfl, wpIn_mono (hbody _ (grownBy_putObj' W1 l _) (World.putObj_heap_same (Array.getElem?_eq_some_iff.1 hl1).1)) ?_⟩)⟩
  rintro e a3 W3 hp
  cases e with
  | normal => exact ⟨_, _, run_endRound (P := P) none hp.1, hp.2⟩
  | ret => exact ⟨_, _, run_endRound (P := P) (some .ret) hp.1, hp.2⟩
  | exit id => exact ⟨_, _, run_endRound (P := P) (some (.exit id)) hp.1, hp.2⟩
  | goto t => exact ⟨_, _, run_endRound (P := P) (some (.goto t)) hp.1, hp.2⟩
  | panic ch => exact hp.elim
  | outgrown => exact hp.elim
end

/-- how a cutter of the rule fv, with x, chooses -/
def ChooseAt (rs : List Int) (fv : Value) (x : Int) : Prop := ∀ (c0 : Value) (hs : List Int) (w : World), Ints w.heap.size w c0 rs → (∀ k, 0 ≤ nth hs k ∧ nth hs k ≤ 1000000) →
  Calls Try.prog 94 #[.agg #[c0, fv, .int .i64 x], arI hs] w fun e w' => e = .returned (.int .i64 (cutG rs x hs)) ∧ Below w.heap.size w w'
theorem chooseAt0 {rs : List Int} (hg : gardenOk rs = true) : ChooseAt rs (.func (.func 144) #[] #[]) 0 := fun c0 hs w hI hb => choose0_c c0 rs hs w hI hg hb
theorem chooseAt1 {rs : List Int} (hg : gardenOk rs = true) {x : Int} (hx : 1 ≤ x) : ChooseAt rs (.func (.func 145) #[] #[]) x := fun c0 hs w hI hb => choose1_c c0 rs hs x hx w hI hg hb

set_option maxRecDepth 100000 in
theorem work_c (sv fv : Value) (x d : Int) (w : World) :
    Calls Try.prog 106 #[.agg #[sv, fv, .int .i64 x], .int .i64 d] w fun e w' => e = .returned (.func (.func 133) #[] #[.pointer (some ⟨w.heap.size, 0, none⟩), .pointer (some ⟨w.heap.size + 1, 0, none⟩)]) ∧
      w' = (w.alloc (.cells #[sv, fv, .int .i64 x] 98)).alloc (.cells #[.int .i64 d] 2) := by
  go_enter Try.func106, Try.ntmps106
  go_wp2
  go_ret
  exact ⟨rfl, rfl⟩

/-- what the days of a rule keep, while they are ranged over -/
structure EnvW (bC bD b4 b5 D L : Nat) (sv fv : Value) (x : Int) (N : Nat) (rs hs : List Int) (rec : Loop) (W : World) : Prop where
  c : Cut3 W bC sv fv x
  d : Boxed W bD 2 (.int .i64 N)
  r : ArI W b4 rs
  h : ArI W b5 hs
  def_ : W.heap[D]? = some (.deferred (some []))
  rec_ : W.heap[L]? = some (.loop rec)
theorem EnvW.kept {bC bD b4 b5 D L : Nat} {sv fv : Value} {x : Int} {N : Nat} {rs hs : List Int} {rec : Loop} {W W' : World} {row : Option Nat} (h : EnvW bC bD b4 b5 D L sv fv x N rs hs rec W) (hg : W.grownBy W' row)
    (h1 : some bC ≠ row) (h2 : some bD ≠ row) (h3 : some b4 ≠ row) (h4 : some b5 ≠ row) (h5 : some D ≠ row) (h6 : some L ≠ row) : EnvW bC bD b4 b5 D L sv fv x N rs hs rec W' :=
  ⟨h.c.kept hg h1, h.d.kept hg h2, h.r.kept hg h3, h.h.kept hg h4, (hg.block D (Array.getElem?_eq_some_iff.1 h.def_).1 h5).trans h.def_, (hg.block L (Array.getElem?_eq_some_iff.1 h.rec_).1 h6).trans h.rec_⟩
theorem EnvW.later {bC bD b4 b5 D L : Nat} {sv fv : Value} {x : Int} {N : Nat} {rs hs : List Int} {rec : Loop} {W W' : World} (h : EnvW bC bD b4 b5 D L sv fv x N rs hs rec W) (hb : Below W.heap.size W W') : EnvW bC bD b4 b5 D L sv fv x N rs hs rec W' :=
  ⟨h.c.later hb, boxed_later h.d hb, h.r.later hb, h.h.later hb, (hb.block D (Array.getElem?_eq_some_iff.1 h.def_).1).trans h.def_, (hb.block L (Array.getElem?_eq_some_iff.1 h.rec_).1).trans h.rec_⟩
/-- the heights are stored -/
theorem EnvW.store {bC bD b4 b5 D L : Nat} {sv fv : Value} {x : Int} {N : Nat} {rs hs : List Int} {rec : Loop} {W : World} (h : EnvW bC bD b4 b5 D L sv fv x N rs hs rec W) (ys : List Int)
    (h1 : bC ≠ b5) (h2 : bD ≠ b5) (h3 : b4 ≠ b5) : EnvW bC bD b4 b5 D L sv fv x N rs ys rec (stoI W b5 ys) := by
  have hg := grownBy_stoI W b5 ys
  have hb5 : W.heap[b5]? = _ := h.h
  refine ⟨h.c.kept hg (by simpa using h1), h.d.kept hg (by simpa using h2), h.r.kept hg (by simpa using h3), ArI.storedI ys h.h, (hg.block D (Array.getElem?_eq_some_iff.1 h.def_).1 (fun e => ?_)).trans h.def_, (hg.block L (Array.getElem?_eq_some_iff.1 h.rec_).1 (fun e => ?_)).trans h.rec_⟩
  · cases e; have := h.def_; rw [hb5] at this; cases this
  · cases e; have := h.rec_; rw [hb5] at this; cases this

set_option maxRecDepth 100000 in
set_option maxHeartbeats 16000000 in
/-- THE DAYS OF A RULE, ranged over: I k behind the rounds of the first k days. -/
theorem work_loop {bC bD D L N : Nat} {sv fv : Value} {x : Int} {rs : List Int} {rec : Loop} {W0 : World} (hg : gardenOk rs = true) (hch : ChooseAt rs fv x) (hN : N ≤ 200) (n₀ : Nat) (hI : ∀ W, Below n₀ W0 W → Ints W.heap.size W sv rs)
    (I : Nat → World → Prop) (Jx : World → Prop)
    (hmove : ∀ (k : Nat) W W', I k W → Below W.heap.size W W' → I k W')
    (hstore : ∀ (k : Nat) W b ys, I k W → W0.heap.size ≤ b → ArI W b ys → ∀ zs, I k (stoI W b zs))
    (hsame : ∀ (k : Nat) W, I k W → Below n₀ W0 W)
    (hround : ∀ (k : Nat) (b4 b5 : Nat) W, k < N → W0.heap.size ≤ b4 → W0.heap.size ≤ b5 → EnvW bC bD b4 b5 D L sv fv x N rs (upG rs x k) rec W → I k W → YieldAt Fence.wide 9 Try.prog L #[arI (upG rs x k), .int .i64 (dayG rs x k)] W fun e W' =>
      (e = .returned (.bool true) ∧ EnvW bC bD b4 b5 D L sv fv x N rs (upG rs x k) rec W' ∧ I (k + 1) W') ∨ (e = .returned (.bool false) ∧ Jx W'))
    (hC : Cut3 W0 bC sv fv x) (hD : Boxed W0 bD 2 (.int .i64 N)) (hdef : W0.heap[D]? = some (.deferred (some []))) (hrec : W0.heap[L]? = some (.loop rec)) (h0 : I 0 W0) :
    CallsIn Fence.wide 10 Try.prog 133 #[.func (.yield L) #[] #[], .pointer (some ⟨bC, 0, none⟩), .pointer (some ⟨bD, 0, none⟩)] W0 fun e W' => (∃ v, e = .returned v) ∧
      ((W'.heap[D]? = some (.deferred (some [])) ∧ W'.heap[L]? = some (.loop rec) ∧ I N W') ∨ Jx W') := by
  have hl8 := gardenOk_len hg
  have kC := hC.c0
  have hlC := hC.lt
  have hlD := hD.lt
  have HS := Lib.hid hstore
  have HM := Lib.hid hmove
  have HI := Lib.hid hI
  have HR := Lib.hid hround
  have HE := Lib.hid hsame
  have Hch := Lib.hid hch
  clear hstore hmove hI hround hsame hch
  refine callsIn_of_wp Try.func133 rfl trivial ?_ rfl
  simp only [Try.ntmps133, List.size_toArray, List.length_cons, List.length_nil, Nat.reduceAdd, Nat.reduceSub, Array.replicate_succ, Array.replicate_zero, List.push_toArray, List.append_toArray, List.nil_append, List.cons_append]
  gi_wp2_with fail
  refine ⟨trivial, (callsIn_wide.2 (byPlantOf_c _ rs _ (HI.out _ (Below.refl _ _)) hl8.1 hl8.2)).mono ?_⟩
  rintro e w2 ⟨rfl, hb2⟩
  have i2 := HM.out 0 _ _ h0 hb2
  obtain ⟨W1, hW1⟩ : ∃ W1, (w2.alloc (.cells (ceI rs) 90)).alloc (.cells (ceI []) 90) = W1 := ⟨_, rfl⟩
  have hbW : Below w2.heap.size w2 W1 := by rw [← hW1]; exact ((Below.refl _ _).alloc (Nat.le_refl _) _).alloc (by simp) _
  have bS : ArI W1 w2.heap.size rs := by rw [← hW1]; exact (ArI.new _ _).alloc _
  have bH : ArI W1 (w2.heap.size + 1) [] := by rw [← hW1]; simpa using ArI.new (w2.alloc (.cells (ceI rs) 90)) []
  have hX : (w2.alloc (.cells #[.int .i64 (nth rs 0), .int .i64 (nth rs 1), .int .i64 (nth rs 2), .int .i64 (nth rs 3), .int .i64 (nth rs 4), .int .i64 (nth rs 5), .int .i64 (nth rs 6), .int .i64 (nth rs 7)] 90)).alloc (.cells #[.int .i64 0, .int .i64 0, .int .i64 0, .int .i64 0, .int .i64 0, .int .i64 0, .int .i64 0, .int .i64 0] 90) = W1 := hW1
  have hs2 := hb2.size
  have hbb : Below W0.heap.size W0 W1 := hb2.trans (hbW.mono hs2)
  have E1 : EnvW bC bD w2.heap.size (w2.heap.size + 1) D L sv fv x N rs [] rec W1 := ⟨hC.later hbb, boxed_later hD hbb, bS, bH, (hbb.block D (Array.getElem?_eq_some_iff.1 hdef).1).trans hdef, (hbb.block L (Array.getElem?_eq_some_iff.1 hrec).1).trans hrec⟩
  have E2 := E1.store [] (by omega) (by omega) (by omega)
  have i3 := HS.out 0 _ (w2.heap.size + 1) [] (HM.out 0 _ _ i2 hbW) (by omega) bH []
  obtain ⟨V0, hV0⟩ : ∃ V0, stoI W1 (w2.heap.size + 1) [] = V0 := ⟨_, rfl⟩
  rw [hV0] at E2 i3
  have E3 : EnvW bC bD w2.heap.size (w2.heap.size + 1) D L sv fv x N rs (stG rs x 0) rec V0 := ⟨E2.c, E2.d, E2.r, E2.h.ext fun i hi => by rw [show stG rs x 0 = List.replicate rs.length 0 from rfl, nth_zeros]; unfold nth; simp, E2.def_, E2.rec_⟩
  replace hV0 : ((((((((W1.setCell ⟨w2.heap.size + 1, 0, none⟩ (.int .i64 0)).setCell ⟨w2.heap.size + 1, 1, none⟩ (.int .i64 0)).setCell ⟨w2.heap.size + 1, 2, none⟩ (.int .i64 0)).setCell ⟨w2.heap.size + 1, 3, none⟩ (.int .i64 0)).setCell ⟨w2.heap.size + 1, 4, none⟩ (.int .i64 0)).setCell ⟨w2.heap.size + 1, 5, none⟩ (.int .i64 0)).setCell ⟨w2.heap.size + 1, 6, none⟩ (.int .i64 0)).setCell ⟨w2.heap.size + 1, 7, none⟩ (.int .i64 0)) = V0 := hV0
  have cH0 := bH.cell (i := 0) (by omega)
  have cH1 := bH.cell (i := 1) (by omega)
  have cH2 := bH.cell (i := 2) (by omega)
  have cH3 := bH.cell (i := 3) (by omega)
  have cH4 := bH.cell (i := 4) (by omega)
  have cH5 := bH.cell (i := 5) (by omega)
  have cH6 := bH.cell (i := 6) (by omega)
  have cH7 := bH.cell (i := 7) (by omega)
  have fH0 := bH.frozen 0
  have fH1 := bH.frozen 1
  have fH2 := bH.frozen 2
  have fH3 := bH.frozen 3
  have fH4 := bH.frozen 4
  have fH5 := bH.frozen 5
  have fH6 := bH.frozen 6
  have fH7 := bH.frozen 7
  have b4 : W0.heap.size ≤ w2.heap.size := hs2
  have b5 : W0.heap.size ≤ w2.heap.size + 1 := by omega
  have nb1 : bC ≠ w2.heap.size + 1 := by omega
  have nb2 : bD ≠ w2.heap.size + 1 := by omega
  clear hW1 E1 E2 hbb i2 hb2 hbW bS bH h0
  unfold arI
  rw [show ceI rs = #[.int .i64 (nth rs 0), .int .i64 (nth rs 1), .int .i64 (nth rs 2), .int .i64 (nth rs 3), .int .i64 (nth rs 4), .int .i64 (nth rs 5), .int .i64 (nth rs 6), .int .i64 (nth rs 7)] from rfl]
  have kD := E3.d.cell
  gi_wp2_with fail
  try rw [hX]
  try rw [hV0]
  clear cH0 cH1 cH2 cH3 cH4 cH5 cH6 cH7 fH0 fH1 fH2 fH3 fH4 fH5 fH6 fH7
  clear hX hV0
  gi_loopw [13] (fun i wr => ∃ k : Nat, k ≤ N ∧ i = .int .i64 k ∧ EnvW bC bD w2.heap.size (w2.heap.size + 1) D L sv fv x N rs (stG rs x k) rec wr ∧ I k wr) (fun i _ => N - (intOf i).toNat)
  case atStart => exact ⟨0, Nat.zero_le _, rfl, E3, i3⟩
  case round =>
    obtain ⟨k, hk, rfl, E, iK⟩ := hrel
    clear E3 i3 kD
    by_cases hlt : k < N
    · have hltI : (k : Int) < (N : Int) := by omega
      have hst : ∀ j, 0 ≤ nth (stG rs x k) j ∧ nth (stG rs x k) j ≤ 100000 := fun j => by have := stG_bd hg x k j; omega
      have hup : ∀ j, 0 ≤ nth (upG rs x k) j ∧ nth (upG rs x k) j ≤ 1000000 := fun j => by have := upG_bd hg x k j; omega
      have hyu : ∀ i : Nat, i < 8 → nth (upG rs x k) i = nth (stG rs x k) i + 1 * nth rs i := fun i _ => nth_growA (stG_length rs x k) i
      have hdb := dayG_bd rs x k
      have hyw : ∀ i : Nat, i < 8 → nth (stG rs x (k + 1)) i = if dayG rs x k = (i : Int) then 0 else nth (upG rs x k) i := fun i _ => by rw [stG_succ]; exact nth_cutAt (by omega) i
      have hcd : cutG rs x (upG rs x k) = dayG rs x k := rfl
      obtain ⟨st, hst0⟩ : ∃ st, stG rs x k = st := ⟨_, rfl⟩
      obtain ⟨up, hup0⟩ : ∃ up, upG rs x k = up := ⟨_, rfl⟩
      obtain ⟨nx, hnx0⟩ : ∃ nx, stG rs x (k + 1) = nx := ⟨_, rfl⟩
      obtain ⟨dy, hdy0⟩ : ∃ dy, dayG rs x k = dy := ⟨_, rfl⟩
      have hRk := HR.out k w2.heap.size (w2.heap.size + 1)
      rw [hup0, hdy0] at hRk
      rw [hst0] at E hst hyu
      rw [hup0] at hup hyu hyw hcd
      rw [hnx0] at hyw
      rw [hdy0] at hyw hcd hdb
      have HRk := Lib.hid hRk
      have Hst := Lib.hid hst
      have Hup := Lib.hid hup
      have Hyu := Lib.hid hyu
      have Hyw := Lib.hid hyw
      have Hcd := Lib.hid hcd
      have Hnx := Lib.hid hnx0
      have hh1 := E.h
      have hr1 := E.r
      clear hst hup hyu hyw hcd hst0 hup0 hnx0 hdy0 hRk
      have cH0 := hh1.cell (i := 0) (by omega)
      have cH1 := hh1.cell (i := 1) (by omega)
      have cH2 := hh1.cell (i := 2) (by omega)
      have cH3 := hh1.cell (i := 3) (by omega)
      have cH4 := hh1.cell (i := 4) (by omega)
      have cH5 := hh1.cell (i := 5) (by omega)
      have cH6 := hh1.cell (i := 6) (by omega)
      have cH7 := hh1.cell (i := 7) (by omega)
      have cS0 := hr1.cell (i := 0) (by omega)
      have cS1 := hr1.cell (i := 1) (by omega)
      have cS2 := hr1.cell (i := 2) (by omega)
      have cS3 := hr1.cell (i := 3) (by omega)
      have cS4 := hr1.cell (i := 4) (by omega)
      have cS5 := hr1.cell (i := 5) (by omega)
      have cS6 := hr1.cell (i := 6) (by omega)
      have cS7 := hr1.cell (i := 7) (by omega)
      gi_wp2_with fail
      refine ⟨trivial, (callsIn_wide.2 (grown_c st rs up 1 _ Hst.out (gardenOk_any hg) (by omega) (by omega) Hyu.out)).mono ?_⟩
      rintro e w3 ⟨rfl, hb3⟩
      have E4 := E.later hb3
      have i4 := HM.out k _ _ iK hb3
      have hh4 := E4.h
      have E5 := E4.store up nb1 nb2 (by omega)
      have i5 := HS.out k _ (w2.heap.size + 1) st i4 (by omega) hh4 up
      obtain ⟨V1, hV1⟩ : ∃ V1, stoI w3 (w2.heap.size + 1) up = V1 := ⟨_, rfl⟩
      rw [hV1] at E5 i5
      replace hV1 : ((((((((w3.setCell ⟨w2.heap.size + 1, 0, none⟩ (.int .i64 (nth up 0))).setCell ⟨w2.heap.size + 1, 1, none⟩ (.int .i64 (nth up 1))).setCell ⟨w2.heap.size + 1, 2, none⟩ (.int .i64 (nth up 2))).setCell ⟨w2.heap.size + 1, 3, none⟩ (.int .i64 (nth up 3))).setCell ⟨w2.heap.size + 1, 4, none⟩ (.int .i64 (nth up 4))).setCell ⟨w2.heap.size + 1, 5, none⟩ (.int .i64 (nth up 5))).setCell ⟨w2.heap.size + 1, 6, none⟩ (.int .i64 (nth up 6))).setCell ⟨w2.heap.size + 1, 7, none⟩ (.int .i64 (nth up 7))) = V1 := hV1
      clear cH0 cH1 cH2 cH3 cH4 cH5 cH6 cH7 cS0 cS1 cS2 cS3 cS4 cS5 cS6 cS7
      have cH0 := hh4.cell (i := 0) (by omega)
      have cH1 := hh4.cell (i := 1) (by omega)
      have cH2 := hh4.cell (i := 2) (by omega)
      have cH3 := hh4.cell (i := 3) (by omega)
      have cH4 := hh4.cell (i := 4) (by omega)
      have cH5 := hh4.cell (i := 5) (by omega)
      have cH6 := hh4.cell (i := 6) (by omega)
      have cH7 := hh4.cell (i := 7) (by omega)
      have fH0 := hh4.frozen 0
      have fH1 := hh4.frozen 1
      have fH2 := hh4.frozen 2
      have fH3 := hh4.frozen 3
      have fH4 := hh4.frozen 4
      have fH5 := hh4.frozen 5
      have fH6 := hh4.frozen 6
      have fH7 := hh4.frozen 7
      have hh5 := E5.h
      have kc0 := E5.c.c0
      have kc1 := E5.c.c1
      have kc2 := E5.c.c2
      have cG0 := hh5.cell (i := 0) (by omega)
      have cG1 := hh5.cell (i := 1) (by omega)
      have cG2 := hh5.cell (i := 2) (by omega)
      have cG3 := hh5.cell (i := 3) (by omega)
      have cG4 := hh5.cell (i := 4) (by omega)
      have cG5 := hh5.cell (i := 5) (by omega)
      have cG6 := hh5.cell (i := 6) (by omega)
      have cG7 := hh5.cell (i := 7) (by omega)
      clear hb3 hh1 hr1 E i4 iK E4
      unfold arI
      rw [show ceI up = #[.int .i64 (nth up 0), .int .i64 (nth up 1), .int .i64 (nth up 2), .int .i64 (nth up 3), .int .i64 (nth up 4), .int .i64 (nth up 5), .int .i64 (nth up 6), .int .i64 (nth up 7)] from rfl]
      gi_wp2_with fail
      refine ⟨trivial, (callsIn_wide.2 (Hch.out sv up _ (HI.out _ (HE.out k _ i5)) Hup.out)).mono ?_⟩
      rintro e w4 ⟨rfl, hb4⟩
      rw [Hcd.out]
      have E6 := E5.later hb4
      have i6 := HM.out k _ _ i5 hb4
      have hh6 := E6.h
      clear cH0 cH1 cH2 cH3 cH4 cH5 cH6 cH7 fH0 fH1 fH2 fH3 fH4 fH5 fH6 fH7 cG0 cG1 cG2 cG3 cG4 cG5 cG6 cG7
      clear kc0 kc1 kc2 hh5 hV1 E5 i5 hb4 hh4
      have cH0 := hh6.cell (i := 0) (by omega)
      have cH1 := hh6.cell (i := 1) (by omega)
      have cH2 := hh6.cell (i := 2) (by omega)
      have cH3 := hh6.cell (i := 3) (by omega)
      have cH4 := hh6.cell (i := 4) (by omega)
      have cH5 := hh6.cell (i := 5) (by omega)
      have cH6 := hh6.cell (i := 6) (by omega)
      have cH7 := hh6.cell (i := 7) (by omega)
      obtain ⟨fn, tmps, assign, body, hy, hR⟩ := HRk.out _ hlt b4 b5 E6 i6
      unfold arI at hy
      rw [show ceI up = #[.int .i64 (nth up 0), .int .i64 (nth up 1), .int .i64 (nth up 2), .int .i64 (nth up 3), .int .i64 (nth up 4), .int .i64 (nth up 5), .int .i64 (nth up 6), .int .i64 (nth up 7)] from rfl] at hy
      gi_wp2
      refine hR.mono ?_
      rintro e w5 (⟨rfl, E7, i7⟩ | ⟨rfl, jx⟩)
      · have hh7 := E7.h
        clear cH0 cH1 cH2 cH3 cH4 cH5 cH6 cH7
        clear E6 i6 hh6 hy hR
        have cH0 := hh7.cell (i := 0) (by omega)
        have cH1 := hh7.cell (i := 1) (by omega)
        have cH2 := hh7.cell (i := 2) (by omega)
        have cH3 := hh7.cell (i := 3) (by omega)
        have cH4 := hh7.cell (i := 4) (by omega)
        have cH5 := hh7.cell (i := 5) (by omega)
        have cH6 := hh7.cell (i := 6) (by omega)
        have cH7 := hh7.cell (i := 7) (by omega)
        gi_wp2_with fail
        refine ⟨trivial, (callsIn_wide.2 (without_c up nx dy _ (by omega) (by omega) Hyw.out)).mono ?_⟩
        rintro e w6 ⟨rfl, hb6⟩
        have E8 := E7.later hb6
        have i8 := HM.out (k + 1) _ _ i7 hb6
        have hh8 := E8.h
        have E9 := E8.store nx nb1 nb2 (by omega)
        have i9 := HS.out (k + 1) _ (w2.heap.size + 1) up i8 (by omega) hh8 nx
        obtain ⟨V2, hV2⟩ : ∃ V2, stoI w6 (w2.heap.size + 1) nx = V2 := ⟨_, rfl⟩
        rw [hV2] at E9 i9
        replace hV2 : ((((((((w6.setCell ⟨w2.heap.size + 1, 0, none⟩ (.int .i64 (nth nx 0))).setCell ⟨w2.heap.size + 1, 1, none⟩ (.int .i64 (nth nx 1))).setCell ⟨w2.heap.size + 1, 2, none⟩ (.int .i64 (nth nx 2))).setCell ⟨w2.heap.size + 1, 3, none⟩ (.int .i64 (nth nx 3))).setCell ⟨w2.heap.size + 1, 4, none⟩ (.int .i64 (nth nx 4))).setCell ⟨w2.heap.size + 1, 5, none⟩ (.int .i64 (nth nx 5))).setCell ⟨w2.heap.size + 1, 6, none⟩ (.int .i64 (nth nx 6))).setCell ⟨w2.heap.size + 1, 7, none⟩ (.int .i64 (nth nx 7))) = V2 := hV2
        clear cH0 cH1 cH2 cH3 cH4 cH5 cH6 cH7
        clear E7 i7 hh7 hb6 E8 i8
        have cH0 := hh8.cell (i := 0) (by omega)
        have cH1 := hh8.cell (i := 1) (by omega)
        have cH2 := hh8.cell (i := 2) (by omega)
        have cH3 := hh8.cell (i := 3) (by omega)
        have cH4 := hh8.cell (i := 4) (by omega)
        have cH5 := hh8.cell (i := 5) (by omega)
        have cH6 := hh8.cell (i := 6) (by omega)
        have cH7 := hh8.cell (i := 7) (by omega)
        have fH0 := hh8.frozen 0
        have fH1 := hh8.frozen 1
        have fH2 := hh8.frozen 2
        have fH3 := hh8.frozen 3
        have fH4 := hh8.frozen 4
        have fH5 := hh8.frozen 5
        have fH6 := hh8.frozen 6
        have fH7 := hh8.frozen 7
        unfold arI
        rw [show ceI nx = #[.int .i64 (nth nx 0), .int .i64 (nth nx 1), .int .i64 (nth nx 2), .int .i64 (nth nx 3), .int .i64 (nth nx 4), .int .i64 (nth nx 5), .int .i64 (nth nx 6), .int .i64 (nth nx 7)] from rfl]
        gi_wp2
        try rw [hV2]
        clear cH0 cH1 cH2 cH3 cH4 cH5 cH6 cH7 fH0 fH1 fH2 fH3 fH4 fH5 fH6 fH7
        clear hV2 hh8
        go_roundw
        case rel => exact ⟨k + 1, by omega, by simp, by rw [Hnx.out]; exact E9, i9⟩
        case measure => simp [intOf]; omega
      · gi_wp2
        refine bodyPost_ret (results_none rfl _ _ _) rfl ?_
        exact ⟨⟨_, rfl⟩, .inr jx⟩
    · obtain rfl : k = N := by omega
      gi_wp2
      go_end0
      exact ⟨⟨_, rfl⟩, .inl ⟨E.def_, E.rec_, iK⟩⟩

end Go.Proofs.Ytogpkaeodgokgaa
