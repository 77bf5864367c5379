/-
  LeastPlay of the program: the walk.
  Conditions: lists of at most 1048576 elements.
-/
import Derived.Test.YtmmpoaphjjpjaaaPlaI
import Derived.Test.YtmmpoaphjjpjaaaRecs
namespace Go.Proofs.Ytmmpoaphjjpjaaa
open Go.RowKit Go.Shelf Go.Maps
attribute [local go_sem] Oper.semAt_some

section
variable {F : Fence} {n : Nat} {P : Program}
/-- one round whose assignments turn the world -/
theorem yield_roundP {l : Nat} {fn : FuncId} {tmps : Array Value} {ps : Array Tmp} {assign body : Code} {dd : Nat} {args : Array Value} {W W1 : World} {R : Ending → World → Prop} (hfn : F.fn fn)
    (hl : W.heap[l]? = some (.loop (recOf fn tmps ps assign body dd .ready none))) (hl1 : W1.heap[l]? = some (.loop (recOf fn tmps ps assign body dd .ready none))) (hps : args.size = ps.size) (a₁ : Act)
    (hassign : ∀ K : Act → World → Prop, K a₁ W1 → assign.wpIn (F.inRound l) n P (Exit.then K (fun _ _ _ => False)) { tmps := (ps.zip args).foldl (fun t (p, v) => t.setIfInBounds p v) tmps, defers := [] } W)
    (hbody : ∀ Wb, W1.grownBy Wb (some l) → Wb.heap[l]? = some (.loop { recOf fn tmps ps assign body dd .ready none with state := .busy }) → body.wpIn (F.inRound l) n P (roundR l fn tmps ps assign body dd R) a₁ Wb) :
    YieldAt F n P l args W R := by
  have hy := run_yield (P := P) (args := args) hl hps
  refine ⟨fn, _, assign, body, hy, roundIn_of_wpIn hfn (hassign _ ⟨_, run_beginRound hl1 rfl, wpIn_mono (hbody _ (grownBy_putObj' W1 l _) (World.putObj_heap_same (Array.getElem?_eq_some_iff.1 hl1).1)) ?_⟩)⟩
  rintro e a3 W3 hp
  cases e with
  | normal => exact ⟨_, _, run_endRound (P := P) none hp.1, hp.2⟩
  | ret => exact ⟨_, _, run_endRound (P := P) (some .ret) hp.1, hp.2⟩
  | exit id => exact ⟨_, _, run_endRound (P := P) (some (.exit id)) hp.1, hp.2⟩
  | goto t => exact ⟨_, _, run_endRound (P := P) (some (.goto t)) hp.1, hp.2⟩
  | panic ch => exact hp.elim
  | outgrown => exact hp.elim
end

theorem Seg.shutAll {lo hi : Nat} {W : World} {ds : List Nat} {v : Value} {zs : List Int} (h : Seg lo hi W v zs) (ho : Opens W ds) : Seg lo hi (shutAll W ds) v zs :=
  ⟨h.own.shutAll ho, h.top, by rw [size_shutAll]; exact h.le⟩
theorem opens_append {B : Nat} {W W' : World} {ds : List Nat} {v : Value} {zs : List Int} (h : Opens W ds) (ho : OwnI B W v zs) (hg : W.grownBy W' v.ownBlock) : Opens W' ds :=
  ⟨h.nodup, fun D hD => (hg.block D (h.lt hD) (fun e => by
    obtain ⟨_, h2⟩ := ho
    rcases h2 with ⟨e2, _⟩ | ⟨g, cap, cur, e2, _, hh, _⟩
    · rw [e2] at e; simp [Value.ownBlock] at e
    · rw [e2] at e; simp [Value.ownBlock] at e; subst e; rw [h.all _ hD] at hh; simp at hh)).trans (h.all D hD)⟩
theorem own_ne {B k : Nat} {W : World} {v : Value} {zs : List Int} {rec : Loop} (h : OwnI B W v zs) (hl : W.heap[k]? = some (.loop rec)) : v.ownBlock ≠ some k := fun e => by
  obtain ⟨_, h2⟩ := h
  rcases h2 with ⟨e2, _⟩ | ⟨g, cap, cur, e2, _, hh, _⟩
  · rw [e2] at e; simp [Value.ownBlock] at e
  · rw [e2] at e; simp [Value.ownBlock] at e; subst e; rw [hl] at hh; simp at hh
theorem Opens.kept {W W' : World} {ds : List Nat} {row : Option Nat} (h : Opens W ds) (hg : W.grownBy W' row) (hne : ∀ D ∈ ds, some D ≠ row) : Opens W' ds :=
  ⟨h.nodup, fun D hD => (hg.block D (h.lt hD) (hne D hD)).trans (h.all D hD)⟩
theorem Opens.set8 {W : World} {ds : List Nat} (h : Opens W ds) (b : Nat) (ys : List Int) : Opens (store8 W b ys) ds :=
  (((((((h.setCell _ _).setCell _ _).setCell _ _).setCell _ _).setCell _ _).setCell _ _).setCell _ _).setCell _ _
theorem keep_none {zs st : List Int} (h : keepN zs st (zs.length + 1) = []) : ¬ Lasting zs st := fun hl => lasting_iff_keep.1 hl h
theorem keep_some {zs st : List Int} {j : Nat} (hj : j < zs.length + 1) (h : Kpc zs st ((j : Int) - 1)) : Lasting zs st := by
  refine lasting_iff_keep.2 (List.ne_nil_of_mem (a := (j : Int) - 1) (mem_keepL.2 ⟨?_, h⟩))
  unfold IsCh; omega
open Classical in
/-- a loop over the choices that keep a state, left by a round -/
theorem keep_loopX {gs : List Int} (ht : tasksOk gs = true) {bo bs bO m D L : Nat} {st : List Int} {fn : FuncId} {T : Array Value} {ps : Array Tmp} {asg bd : Code} {W0 : World} (hs : IsSt gs st) (I : Nat → World → Prop) (Jx : World → Prop)
    (hmove : ∀ (j : Nat) W W', I j W → Good W gs bO m → W.grownBy W' (some m) → I j W')
    (hskip : ∀ (j : Nat) W, ¬ Kpc gs st ((j : Int) - 1) → I j W → I (j + 1) W)
    (hround : ∀ (j : Nat) W, j < gs.length + 1 → Kpc gs st ((j : Int) - 1) → EnvK bo bs bO m D L gs st (recOf fn T ps asg bd D .ready none) W → I j W → YieldAt Fence.wide 9 Try.prog L #[.int .i64 ((j : Int) - 1), arrV (stepL gs st ((j : Int) - 1))] W fun e W' =>
      e = .returned (.bool false) ∧ Jx W' ∧ W'.heap[L]? = some (.loop (recOf fn T ps asg bd D .done (some (.exit 1)))))
    (hE0 : EnvK bo bs bO m D L gs st (recOf fn T ps asg bd D .ready none) W0) (h0 : I 0 W0) :
    CallsIn Fence.wide 11 Try.prog 108 #[.func (.yield L) #[] #[], .pointer (some ⟨bo, 0, none⟩), .pointer (some ⟨bs, 0, none⟩)] W0 fun e W' => (∃ v, e = .returned v) ∧
      ((EnvK bo bs bO m D L gs st (recOf fn T ps asg bd D .ready none) W' ∧ I (gs.length + 1) W') ∨ (Jx W' ∧ W'.heap[L]? = some (.loop (recOf fn T ps asg bd D .done (some (.exit 1)))))) :=
  keep_loop ht hs I (fun W' => Jx W' ∧ W'.heap[L]? = some (.loop (recOf fn T ps asg bd D .done (some (.exit 1))))) hmove hskip (fun j W hj hk hE hI => (hround j W hj hk hE hI).mono fun _ _ h => .inr h) hE0 h0

set_option maxRecDepth 100000 in
set_option maxHeartbeats 8000000 in
theorem i_LeastPlay (c0 : Value) (zs : List Int) (w : World) (hI : Ints w.heap.size w c0 zs) (hN : I64s zs) (hm : zs.length ≤ 1048576) :
    Calls Try.prog 21 #[.agg #[c0]] w (GivesII w (plR zs) (plH zs) fun v u => .tuple #[u, v, .int .i64 (plC zs)]) := by
  obtain ⟨i0, hi, hz0, hz1, hz2⟩ := info_parts Try.infoI2
  obtain ⟨a, cap, rfl⟩ := hI.shape
  have hmk : ∀ w, (Instr.makeMap 71 none).run Try.prog w = .ok (.map (some w.heap.size)) (w.alloc (.map #[] 0)) := fun _ => rfl
  have nil2 : ∀ (W : World) (c : Int), Below w.heap.size w W → plC zs = c → plR zs = [] → plH zs = [] → GivesII w (plR zs) (plH zs) (fun v u => .tuple #[u, v, .int .i64 (plC zs)]) (.returned (.tuple #[.slice none 0 0, .slice none 0 0, .int .i64 c])) W := fun W c hB h1 h2 h3 => by
    refine ⟨.slice none 0 0, .slice none 0 0, w.heap.size, by rw [h1], ?_, ?_, Nat.le_refl _, hB⟩
    · rw [h2]; exact seg_nil _ _ _ (Nat.le_refl _)
    · rw [h3]; exact seg_nil _ _ _ hB.size
  have Hnil := Lib.hid nil2
  clear nil2
  refine (callsIn_wide (n := 12)).1 ?_
  refine callsIn_of_wp_marks Try.func21 rfl trivial ?_ rfl
  simp only [Try.ntmps21, List.size_toArray, List.length_cons, List.length_nil, Nat.reduceAdd, Nat.reduceSub, Array.replicate_succ, Array.replicate_zero, List.push_toArray, List.append_toArray, List.nil_append, List.cons_append]
  gi_wp2_with fail
  refine wpIn_scope ?_
  gi_wp2_with fail
  obtain ⟨W0, hW0⟩ : ∃ W0, (w.alloc (.cells #[.slice a zs.length cap] 28)) = W0 := ⟨_, rfl⟩
  have hB0 : Below w.heap.size w W0 := by rw [← hW0]; exact ((Below.refl _ w).alloc (Nat.le_refl _) _)
  have hs0 : w.heap.size + 1 ≤ W0.heap.size := by rw [← hW0]; simp
  have bT : Boxed W0 (w.heap.size) 28 (.slice a zs.length cap) := by rw [← hW0]; repeat first | (refine boxed_at ?_; (simp; done)) | refine Boxed.alloc ?_ _
  rw [hW0]
  clear hW0
  refine ⟨trivial, (callsIn_wide.2 (checkStatesOf_c _ zs _ (hI.later hB0) hN hm)).mono ?_⟩
  rintro e w1 ⟨rfl, hb⟩
  have hB1 := hB0.trans (hb.mono hB0.size)
  replace bT := boxed_later bT hb
  clear hb hB0
  have cT := bT.cell
  by_cases hf : fewC zs = 0
  · rw [hf]
    have Hf := Lib.hid hf
    obtain ⟨ht, h4⟩ := fewC_ok hf
    have hp := pos_of ht
    have hl8 := tasksOk_len ht
    have hs1 := hB1.size
    clear hf
    gi_wp2_with fail
    refine ⟨trivial, (callsIn_wide.2 (outlookOf_c _ zs _ (hI.later hB1) ht)).mono ?_⟩
    rintro e w2 ⟨bO, m, rfl, hO, hM, hbo, hbm, hb⟩
    have hB2 := hB1.trans (hb.mono hB1.size)
    have hG := Good.new ht hO hM
    have hs2 := hB2.size
    have hx : Below w2.heap.size w2 ((w2.alloc (.cells #[.slice none 0 0] 22)).alloc (.map #[] 0)) := ((Below.refl _ w2).alloc (Nat.le_refl _) _).alloc (by simp) _
    have hGx := hG.later hx
    have hbol := hG.1.lt
    obtain ⟨wx, hwx⟩ : ∃ wx, (w2.alloc (.cells #[.slice none 0 0] 22)).alloc (.map #[] 0) = wx := ⟨_, rfl⟩
    have hsx : wx.heap.size = w2.heap.size + 2 := by rw [← hwx]; simp
    have bC : Boxed wx w2.heap.size 22 (.slice none 0 0) := by rw [← hwx]; exact (Boxed.new _ _ _).alloc _
    have hCM : CMap wx zs (w2.heap.size + 1) 0 := CMap.new zs (by rw [← hwx]; simpa using World.alloc_heap_new (w2.alloc (.cells #[.slice none 0 0] 22)) (.map #[] 0))
    rw [hwx] at hx hGx
    have hOx := hGx.1
    have cF0 : wx.cell? ⟨bO, 1, none⟩ = some (.int .u8 (nth zs 0)) := by have := hOx.full (i := 0) (by omega); simpa using this
    have cF1 : wx.cell? ⟨bO, 2, none⟩ = some (.int .u8 (nth zs 1)) := by have := hOx.full (i := 1) (by omega); simpa using this
    have cF2 : wx.cell? ⟨bO, 3, none⟩ = some (.int .u8 (nth zs 2)) := by have := hOx.full (i := 2) (by omega); simpa using this
    have cF3 : wx.cell? ⟨bO, 4, none⟩ = some (.int .u8 (nth zs 3)) := by have := hOx.full (i := 3) (by omega); simpa using this
    have cF4 : wx.cell? ⟨bO, 5, none⟩ = some (.int .u8 (nth zs 4)) := by have := hOx.full (i := 4) (by omega); simpa using this
    have cF5 : wx.cell? ⟨bO, 6, none⟩ = some (.int .u8 (nth zs 5)) := by have := hOx.full (i := 5) (by omega); simpa using this
    have cF6 : wx.cell? ⟨bO, 7, none⟩ = some (.int .u8 (nth zs 6)) := by have := hOx.full (i := 6) (by omega); simpa using this
    have cF7 : wx.cell? ⟨bO, 8, none⟩ = some (.int .u8 (nth zs 7)) := by have := hOx.full (i := 7) (by omega); simpa using this
    clear hb cT bT hB1 hO hM hOx
    gi_wp2_with fail
    obtain ⟨A1, hA1⟩ : ∃ A1, wx.alloc (.cells #[.int .u8 (nth zs 0), .int .u8 (nth zs 1), .int .u8 (nth zs 2), .int .u8 (nth zs 3), .int .u8 (nth zs 4), .int .u8 (nth zs 5), .int .u8 (nth zs 6), .int .u8 (nth zs 7)] 73) = A1 := ⟨_, rfl⟩
    have hbA : Below wx.heap.size wx A1 := by rw [← hA1]; exact (Below.refl _ _).alloc (Nat.le_refl _) _
    have hA : Arr A1 (w2.heap.size + 2) zs := by rw [← hA1, ← hsx]; exact Arr.new wx zs
    have hsA : A1.heap.size = w2.heap.size + 3 := by rw [← hA1, World.size_alloc, hsx]
    have bC1 := boxed_later bC hbA
    have hCM1 := hCM.below hbA (by omega)
    have hG1 := hGx.later hbA
    have hB3 : Below w.heap.size w A1 := hB2.trans ((hx.trans (hbA.mono (by omega))).mono hs2)
    rw [hA1]
    have hbm2 : m < w2.heap.size := by obtain ⟨_, B, K, _, hM, _⟩ := hG; exact hM.lt
    have Hsx := Lib.hid hsx
    have Hsa := Lib.hid hsA
    have hsA1 : w2.heap.size + 3 ≤ A1.heap.size := by omega
    clear hA1 hwx hbA bC hCM hGx hx cF0 cF1 cF2 cF3 cF4 cF5 cF6 cF7 hsx hsA hG
    refine wpIn_label ?_
    gi_wp2_with fail
    refine wpIn_loop (fun a' wr => ∃ (rs : List Nat) (n : Nat) (v u10 u11 u12 u13 u26 u27 u28 u29 u30 u31 u32 u33 u34 u35 u36 u37 u38 u39 u40 u41 u42 u43 u44 u45 u46 u47 u48 u49 u50 u51 u52 u53 u54 : Value), (rs.length = n ∧ Opens wr rs ∧ (∀ D ∈ rs, w.heap.size ≤ D) ∧ (CanL zs ∨ n = 0) ∧ Fresh zs n ∧ Boxed wr w2.heap.size 22 v ∧ OwnI A1.heap.size wr v (choicesP zs n) ∧ CMap wr zs (w2.heap.size + 1) n ∧ Arr wr (w2.heap.size + 2) (playS zs n) ∧ Good wr zs bO m ∧ Below w.heap.size w wr ∧ A1.heap.size ≤ wr.heap.size) ∧ a' = { tmps := #[.agg #[.slice a zs.length cap], .pointer (some ⟨w.heap.size, 0, none⟩), .slice none 0 0, .slice none 0 0, .int .i64 0, .int .i64 0, .pointer (some ⟨bO, 0, none⟩), .pointer (some ⟨w2.heap.size, 0, none⟩), .map (some (w2.heap.size + 1)), .pointer (some ⟨w2.heap.size + 2, 0, none⟩), u10, u11, u12, u13, .agg #[.slice a zs.length cap], .int .i64 0, .int .i64 0, .bool false, undef, .agg #[.slice a zs.length cap], .pointer (some ⟨bO, 0, none⟩), .map (some (w2.heap.size + 1)), .pointer (some ⟨bO, 0, none⟩), .pointer (some ⟨bO, 0, none⟩), .pointer (some ⟨bO, 1, none⟩), .agg #[.int .u8 (nth zs 0), .int .u8 (nth zs 1), .int .u8 (nth zs 2), .int .u8 (nth zs 3), .int .u8 (nth zs 4), .int .u8 (nth zs 5), .int .u8 (nth zs 6), .int .u8 (nth zs 7)], u26, u27, u28, u29, u30, u31, u32, u33, u34, u35, u36, u37, u38, u39, u40, u41, u42, u43, u44, u45, u46, u47, u48, u49, u50, u51, u52, u53, u54], defers := rs.map recD })
      (fun a' _ => 4001 - a'.defers.length) ?start ?round
    case start => exact ⟨[], 0, _, _, _, _, _, _, _, _, _, _, _, _, _, _, _, _, _, _, _, _, _, _, _, _, _, _, _, _, _, _, _, _, _, _, ⟨rfl, Opens.nil _, by simp, .inr rfl, fun i j h1 h2 => by omega, bC1, ownI_nil _ _, hCM1, hA, hG1, hB3, Nat.le_refl _⟩, rfl⟩
    case round =>
      rintro a' wr ⟨rs, n, v, u10, u11, u12, u13, u26, u27, u28, u29, u30, u31, u32, u33, u34, u35, u36, u37, u38, u39, u40, u41, u42, u43, u44, u45, u46, u47, u48, u49, u50, u51, u52, u53, u54, ⟨hdl, hop, hlo, hcn, hfr, bC, hoC, hCM, hA, hG, hB, hsz⟩, rfl⟩
      have Hdl := Lib.hid hdl
      have Hlo := Lib.hid hlo
      clear hdl hlo
      clear bC1 hCM1 hG1 hB3
      have hst : ∀ i, i ≤ n → IsSt zs (playS zs i) := fun i hi => by
        rcases hcn with hc | rfl
        · exact (playS_ok hp hc i).1
        · obtain rfl : i = 0 := by omega
          exact isSt_full hp
      have hlook := hCM.look ht hst hfr
      obtain ⟨cur, hcur⟩ : ∃ cur, playS zs n = cur := ⟨_, rfl⟩
      rw [hcur] at hA hlook
      have Hcur := Lib.hid hcur
      have Hst := Lib.hid hst
      have Hfr := Lib.hid hfr
      have cC := bC.cell
      unfold arrV cells8 at hlook
      have cS0 := hA.cell (i := 0) (by omega)
      have cS1 := hA.cell (i := 1) (by omega)
      have cS2 := hA.cell (i := 2) (by omega)
      have cS3 := hA.cell (i := 3) (by omega)
      have cS4 := hA.cell (i := 4) (by omega)
      have cS5 := hA.cell (i := 5) (by omega)
      have cS6 := hA.cell (i := 6) (by omega)
      have cS7 := hA.cell (i := 7) (by omega)
      clear hst hfr hcur
      rcases hlook with ⟨ia, hag, hrun⟩ | ⟨hfn, hrun⟩
      · have hia : ia < n := hag.2.1
        have hcan : CanL zs := hcn.resolve_right (by omega)
        have Hok := Lib.hid (plC_yes Hf.out hcan)
        obtain ⟨e1, e2⟩ := pl_again Hok.out hag
        have He1 := Lib.hid e1
        have He2 := Lib.hid e2
        have hcl := choicesP_length zs n
        have hbd := fresh_bound hp hcan Hfr.out
        have hcf := cntN_few Hf.out
        obtain ⟨g, c, rfl, hg1, hg2⟩ := hoC.shape (by omega)
        have hI3 : Ints wr.heap.size wr (.slice (some ⟨g, 0, none⟩) (choicesP zs n).length c) (choicesP zs n) := hoC.ints
        have hcc : n ≤ c := by
          obtain ⟨_, c2, e3, h5, _⟩ := hoC.capOk
          injection e3 with e4 e5 e6
          rw [hcl] at h5; rw [e6]; exact h5
        rw [hcl] at bC cC hoC
        have htk : Ints wr.heap.size wr (.slice (some ⟨g, 0, none⟩) ((choicesP zs n).take ia).length c) ((choicesP zs n).take ia) := by
          have := ints_take hI3 (n := ia) (by omega)
          rwa [show ((choicesP zs n).take ia).length = ia by simp; omega]
        have hdr : Ints wr.heap.size wr (.slice (some ⟨g, ia, none⟩) ((choicesP zs n).drop ia).length (c - ia)) ((choicesP zs n).drop ia) := by
          have := ints_drop hI3 (n := ia) (by omega)
          simpa using this
        have l1 : ((choicesP zs n).take ia).length = ia := by simp; omega
        have l2 : ((choicesP zs n).drop ia).length = n - ia := by simp [hcl]
        have hiac : ia ≤ c := by omega
        have hian : ia ≤ n := by omega
        have hca : ¬ c = ia := by omega
        have hb4 : n ≤ 1048576 := by omega
        have hfw : Try.prog.follows Departure.mixedOrders = true := by kernel_rfl
        have hsB := hB.size
        clear hcl hI3 e1 e2 hag
        gi_wp2_with fail
        refine wpIn_wide.2 (wp_region_noPanic (wp_region_held_drew (S := fun w' => Boxed w' w2.heap.size 22 (.slice (some ⟨g, 0, none⟩) n c) ∧ Below wr.heap.size wr w') hfw ⟨bC, (Below.refl _ _).drew⟩ ?_))
        intro hS0
        refine wpAnyH_take (i := 0) (v := ?v0) rfl (by kernel_rfl) (by kernel_rfl) (by kernel_rfl) (fun _ _ _ h => h) (.inl ⟨by rfl, ?y0⟩) hS0 ?_
        case y0 =>
          intro w' hS
          (have k1 := hS.1.cell; clear hS)
          go_simp
          try with_reducible rfl
        refine wpAnyH_take (i := 1) (v := ?v1) rfl (by kernel_rfl) (by kernel_rfl) (by kernel_rfl) (fun _ _ _ h => h) (.inl ⟨by rfl, ?y1⟩) hS0 ?_
        case y1 =>
          intro w' hS
          (have k1 := hS.1.cell; clear hS)
          go_simp
          try with_reducible rfl
        refine wpAnyH_take (i := 2) (v := ?v2) rfl (by kernel_rfl) (by kernel_rfl) (by kernel_rfl) (fun _ _ _ h => h) (.inl ⟨by rfl, ?y2⟩) hS0 ?_
        case y2 =>
          intro w' hS
          (have k1 := hS.1.cell; clear hS)
          go_simp
          try with_reducible rfl
        refine wpAnyH_take (i := 4) (v := ?v4) rfl (by kernel_rfl) (by kernel_rfl) (by kernel_rfl) (fun _ _ _ h => h) (.inl ⟨by rfl, ?y4⟩) hS0 ?_
        case y4 =>
          intro w' hS
          (have k1 := hS.1.cell; clear hS)
          go_simp
          try with_reducible rfl
        refine wpAnyH_take (i := 5) (v := ?v5) rfl (by kernel_rfl) (by kernel_rfl) (by kernel_rfl) (fun _ _ _ h => h) (.inl ⟨by rfl, ?y5⟩) hS0 ?_
        case y5 =>
          intro w' hS
          (have k1 := hS.1.cell; clear hS)
          go_simp
          try with_reducible rfl
        refine wpAnyH_take (i := 6) (v := ?v6) rfl (by kernel_rfl) (by kernel_rfl) (by kernel_rfl) (fun _ _ _ h => h) (.inl ⟨by rfl, ?y6⟩) hS0 ?_
        case y6 =>
          intro w' hS
          (have k1 := hS.1.cell; clear hS)
          go_simp
          try with_reducible rfl
        refine wpAnyH_ready (rs := [3]) (by kernel_rfl) (by simp) ?_
        refine AllReadyH.cons rfl (fun K' hK' => ?_) AllReadyH.nil
        rw [if_pos (by rfl)]
        go_simp
        have hc1 := clonePart_c g 0 c ((choicesP zs n).take ia) wr.drew htk (by omega)
        rw [l1] at hc1
        refine hc1.mono ?_
        rintro e w5 ⟨v1, rfl, ho1, hb5⟩
        simp only [id]
        have hB8 : Below wr.heap.size wr w5 := hS0.2.trans (hb5.mono hS0.2.size)
        refine hK'.out _ _ ⟨boxed_later hS0.1 hb5, hB8⟩ fun hS1 => ?_
        clear hK' hc1
        refine wpAnyH_ready (rs := [7]) (by kernel_rfl) (by simp) ?_
        refine AllReadyH.cons rfl (fun K' hK' => ?_) AllReadyH.nil
        rw [if_pos (by rfl)]
        go_simp
        have hc2 := clonePart_c g ia (c - ia) ((choicesP zs n).drop ia) w5 (hdr.later hB8) (by omega)
        rw [l2] at hc2
        refine hc2.mono ?_
        rintro e w6 ⟨v2, rfl, ho2, hb6⟩
        simp only [id]
        have hB9 : Below wr.heap.size wr w6 := hB8.trans (hb6.mono hB8.size)
        refine hK'.out _ _ ⟨boxed_later hS1.1 hb6, hB9⟩ fun hS2 => ?_
        clear hK' hc2
        refine wpAnyH_take (i := 8) (v := ?vz8) rfl (by kernel_rfl) (by kernel_rfl) (by kernel_rfl) (fun _ _ _ h => h) (.inl ⟨by rfl, ?yz8⟩) hS2 ?_
        case yz8 =>
          intro w' hS
          (clear hS)
          go_simp
          try with_reducible rfl
        refine wpAnyH_take (i := 9) (v := ?vz9) rfl (by kernel_rfl) (by kernel_rfl) (by kernel_rfl) (fun _ _ _ h => h) (.inl ⟨by rfl, ?yz9⟩) hS2 ?_
        case yz9 =>
          intro w' hS
          (clear hS)
          go_simp
          try with_reducible rfl
        refine wpAnyH_take (i := 10) (v := ?vz10) rfl (by kernel_rfl) (by kernel_rfl) (by kernel_rfl) (fun _ _ _ h => h) (.inl ⟨by rfl, ?yz10⟩) hS2 ?_
        case yz10 =>
          intro w' hS
          (clear hS)
          go_simp
          try with_reducible rfl
        refine wpAnyH_done (by kernel_rfl) (NoPanic.normal ?_) _
        have g2 := Seg.new ho2
        have g1 := (Seg.new ho1).below hb6
        have h5s := hB8.size
        have hBf : Below w.heap.size w w6 := hB.trans (hB9.mono hB.size)
        have hop6 := hop.below hB9
        clear hb5 hb6 ho1 ho2 hS0 hS1 hS2 htk hdr
        gi_wp2
        refine retMs hop6 ⟨_, results_tmp3 rfl _ _ _, ?_⟩
        exact ⟨v2, v1, w5.heap.size, by rw [Hok.out]; rfl, by rw [He2.out, size_shutAll]; exact g2.shutAll hop6, by rw [He1.out]; exact Seg.shutAll ⟨g1.own.base hsB, g1.top, g1.le⟩ hop6, by omega, below_shutAll hBf Hlo.out⟩
      · have hn4 : n ≤ 4000 := by
          rcases hcn with hc | rfl
          · have := fresh_bound hp hc Hfr.out; have := cntN_few Hf.out; omega
          · omega
        obtain ⟨w3, hput, hCM3, hg3⟩ := hCM.put ht Hst.out hfn (by omega)
        rw [Hcur.out] at hput
        unfold arrV cells8 at hput
        obtain ⟨va, vc, ev⟩ := hoC.ints.shape
        rw [choicesP_length] at ev
        subst ev
        have bC3 := bC.kept hg3 (by simp)
        have hA3 := hA.kept hg3 (by simp)
        have hG3 := hG.kept2 hg3 (by simp; omega) (by simp; omega)
        have hoC3 := hoC.kept hg3 (.inr fun e => by have := (hoC.blk _ e).1; omega)
        have hsB := hB.size
        have hB4 : Below w.heap.size w w3 := hB.grown hg3 hsB (fun j e => by cases e; omega)
        have hsz3 : A1.heap.size ≤ w3.heap.size := Nat.le_trans hsz hg3.size
        have Hfn := Lib.hid hfn
        have cT0 := hA3.cell (i := 0) (by omega)
        have cT1 := hA3.cell (i := 1) (by omega)
        have cT2 := hA3.cell (i := 2) (by omega)
        have cT3 := hA3.cell (i := 3) (by omega)
        have cT4 := hA3.cell (i := 4) (by omega)
        have cT5 := hA3.cell (i := 5) (by omega)
        have cT6 := hA3.cell (i := 6) (by omega)
        have cT7 := hA3.cell (i := 7) (by omega)
        have hop3 : Opens w3 rs := hop.kept hg3 (fun D hD e => by obtain ⟨_, ⟨es, cl, h1, _⟩, _⟩ := hCM; injection e with e; subst e; rw [hop.all _ hD] at h1; simp at h1)
        clear hg3 hB hfn
        gi_wp2_with fail
        obtain ⟨v, hv⟩ : ∃ v, Value.slice va n vc = v := ⟨_, rfl⟩
        rw [hv] at hoC3 bC3
        clear hv
        refine ⟨trivial, (callsIn_wide.2 (keeping_c bO cur w3)).mono ?_⟩
        rintro e w4 ⟨rfl, hw4⟩
        have hgn : Below w3.heap.size w3 w4 := by rw [hw4]; exact ((Below.refl _ w3).alloc (Nat.le_refl _) _).alloc (by simp) _
        have bB : Boxed w4 w3.heap.size 69 (.pointer (some ⟨bO, 0, none⟩)) := by rw [hw4]; exact (Boxed.new w3 _ _).alloc _
        have bA : Arr w4 (w3.heap.size + 1) cur := by rw [hw4]; simpa using Arr.new (w3.alloc (.cells #[.pointer (some ⟨bO, 0, none⟩)] 69)) cur
        have bC4 := boxed_later bC3 hgn
        have hA4 := hA3.later hgn
        have hCM4 := hCM3.below hgn hCM3.lt
        have hG4 := hG3.later hgn
        have Hbk := Lib.hid (show ∀ k, v.ownBlock = some k → A1.heap.size ≤ k ∧ k < w3.heap.size from hoC3.blk)
        have Hlt := Lib.hid (show ∀ D ∈ rs, D < w3.heap.size from fun D hD => hop3.lt hD)
        have hoC4 := hoC3.below hgn
        have hop4 := hop3.below hgn
        have hB5 := hB4.trans (hgn.mono hB4.size)
        have hs4 : w3.heap.size + 2 ≤ w4.heap.size := by rw [hw4]; simp
        have hsw3 := hB4.size
        clear hw4 hgn hG3 bC3 hoC3 hCM3 hop3 hB4 hA3 hop hoC hCM hA hG bC hsB cT0 cT1 cT2 cT3 cT4 cT5 cT6 cT7 cS0 cS1 cS2 cS3 cS4 cS5 cS6 cS7 cC
        gi_wp2_with fail
        refine range_enter rfl (by omega) rfl trivial (enters_of Try.func108 (by kernel_rfl) rfl) ?_
        intro fn hfn
        obtain ⟨V0, hV0⟩ : ∃ V0 : Loop → World, ∀ rec, (w4.alloc (.deferred (some []))).alloc (.loop rec) = V0 rec := ⟨_, fun _ => rfl⟩
        have hDL : (w4.alloc (.deferred (some []))).heap.size = w4.heap.size + 1 := World.size_alloc _ _
        have hsz0 : ∀ rec, (V0 rec).heap.size = w4.heap.size + 2 := fun rec => by rw [← hV0]; simp
        have hE0 : ∀ rec, EnvK w3.heap.size (w3.heap.size + 1) bO m w4.heap.size (w4.heap.size + 1) zs cur rec (V0 rec) := fun rec => by
          rw [← hV0]
          exact ⟨(bB.alloc _).alloc _, (bA.alloc _).alloc _, (hG4.alloc _).alloc _, (Below.heap_alloc _ _ _ (by simp)).trans (World.alloc_heap_new _ _), by have := World.alloc_heap_new (w4.alloc (.deferred (some []))) (.loop rec); rw [hDL] at this; exact this⟩
        have hI0 : ∀ rec, Boxed (V0 rec) w2.heap.size 22 v ∧ OwnI A1.heap.size (V0 rec) v (choicesP zs n) ∧ CMap (V0 rec) zs (w2.heap.size + 1) (n + 1) ∧ Arr (V0 rec) (w2.heap.size + 2) cur ∧ Below w.heap.size w (V0 rec) ∧ Opens (V0 rec) rs := fun rec => by
          have hbn : Below w4.heap.size w4 (V0 rec) := by rw [← hV0]; exact ((Below.refl _ w4).alloc (Nat.le_refl _) _).alloc (by simp) _
          exact ⟨boxed_later bC4 hbn, hoC4.below hbn, hCM4.below hbn hCM4.lt, hA4.later hbn, hB5.trans (hbn.mono (by omega)), hop4.below hbn⟩
        rw [hV0]
        have hcs : IsSt zs cur := by have := Hst.out n (Nat.le_refl n); rwa [Hcur.out] at this
        clear hV0 hDL bB bA hG4 bC4 hoC4 hCM4 hA4 hB5 hop4 Hst
        refine (keep_loopX ht hcs
          (fun j W => keepN zs cur j = [] ∧ Boxed W w2.heap.size 22 v ∧ OwnI A1.heap.size W v (choicesP zs n) ∧ CMap W zs (w2.heap.size + 1) (n + 1) ∧ Arr W (w2.heap.size + 2) cur ∧ Below w.heap.size w W ∧ Opens W rs ∧ w4.heap.size + 2 ≤ W.heap.size)
          (fun W => CanL zs ∧ ∃ v', Boxed W w2.heap.size 22 v' ∧ OwnI A1.heap.size W v' (choicesP zs (n + 1)) ∧ CMap W zs (w2.heap.size + 1) (n + 1) ∧ Arr W (w2.heap.size + 2) (playS zs (n + 1)) ∧ Good W zs bO m ∧ Below w.heap.size w W ∧ Opens W (w4.heap.size :: rs) ∧ A1.heap.size ≤ W.heap.size)
          ?hmove ?hskip ?hround (hE0 _) ⟨by first | rfl | simp [keepN], (hI0 _).1, (hI0 _).2.1, (hI0 _).2.2.1, (hI0 _).2.2.2.1, (hI0 _).2.2.2.2.1, (hI0 _).2.2.2.2.2, by rw [hsz0]; omega⟩).mono ?post
        case hmove =>
          rintro j W W' ⟨h0, b, o, c, a, hB, op, hs⟩ hG hg
          exact ⟨h0, b.kept hg (by simp; omega), o.kept hg (.inr fun e => by have := (o.blk m e).1; omega), c.kept hg (by simp; omega), a.kept hg (by simp; omega), hB.grown hg (by omega) (fun j e => by cases e; omega), op.kept hg (fun D hD e => by obtain ⟨es, cl, h1⟩ := hG.map_; injection e with e; subst e; rw [op.all _ hD] at h1; simp at h1), Nat.le_trans hs hg.size⟩
        case hskip =>
          rintro j W hk ⟨h0, hr⟩
          exact ⟨(keepN_no hk).trans h0, hr⟩
        case hround =>
          rintro j W hj hk hE ⟨h0, b, o, c, a, hB, op, hs⟩
          have hph := play_head hj h0 hk
          have hcan : CanL zs := lasting_full hcs (keep_some hj hk)
          obtain ⟨nx, hnx⟩ : ∃ nx, stepL zs cur ((j : Int) - 1) = nx := ⟨_, rfl⟩
          have hS1 : playS zs (n + 1) = nx := by show stepL zs (playS zs n) (playC1 zs (playS zs n)) = nx; rw [Hcur.out, hph, hnx]
          have hC1 : choicesP zs (n + 1) = choicesP zs n ++ [(j : Int) - 1] := by rw [choicesP_succ]; show _ ++ [playC1 zs (playS zs n)] = _; rw [Hcur.out, hph]
          rw [hnx]
          have HS1 := Lib.hid hS1
          have HC1 := Lib.hid hC1
          have Hcan := Lib.hid hcan
          have hj9 : j < 10 := by omega
          have bBW : Boxed W w3.heap.size 69 (.pointer (some ⟨bO, 0, none⟩)) := hE.o
          have hGW := hE.good
          have hDW := Lib.hid hE.def_
          have hRW := Lib.hid hE.rec_
          clear hph hcan hnx hS1 hC1 hk h0 hE hE0 hI0 hsz0
          obtain ⟨A2, hA2⟩ : ∃ A2, W.alloc (.cells #[.int .u8 0, .int .u8 0, .int .u8 0, .int .u8 0, .int .u8 0, .int .u8 0, .int .u8 0, .int .u8 0] 73) = A2 := ⟨_, rfl⟩
          have bS : Arr A2 W.heap.size [] := by rw [← hA2]; exact Arr.new W []
          have hbW : Below W.heap.size W (store8 A2 W.heap.size nx) := by rw [← hA2]; exact below_set8 nx ((Below.refl _ _).alloc (Nat.le_refl _) _) (Nat.le_refl _) (Nat.le_refl _)
          have HbW := Lib.hid hbW
          have HH := Lib.hid (And.intro b (And.intro o (And.intro c (And.intro a (And.intro hB (And.intro op (And.intro bBW hGW)))))))
          have cA0 := bS.cell (i := 0) (by omega)
          have cA1 := bS.cell (i := 1) (by omega)
          have cA2 := bS.cell (i := 2) (by omega)
          have cA3 := bS.cell (i := 3) (by omega)
          have cA4 := bS.cell (i := 4) (by omega)
          have cA5 := bS.cell (i := 5) (by omega)
          have cA6 := bS.cell (i := 6) (by omega)
          have cA7 := bS.cell (i := 7) (by omega)
          have fA0 := bS.frozen 0
          have fA1 := bS.frozen 1
          have fA2 := bS.frozen 2
          have fA3 := bS.frozen 3
          have fA4 := bS.frozen 4
          have fA5 := bS.frozen 5
          have fA6 := bS.frozen 6
          have fA7 := bS.frozen 7
          have hL1 := Lib.hid ((hbW.block _ (by omega)).trans hRW.out)
          clear b o c a hB op bBW hGW hbW
          refine yield_roundP (W1 := store8 A2 W.heap.size nx) trivial hRW.out hL1.out rfl ?a1 ?assign ?body
          case assign =>
            intro K0 hK0
            unfold arrV cells8
            go_simp
            gi_wp2
            exact hK0
          case body =>
            obtain ⟨b, o, c, a, hB, op, bBW, hGW⟩ := HH.out
            have bS1 : Arr (store8 A2 W.heap.size nx) W.heap.size nx := Arr.stored8 _ bS
            obtain ⟨W1, hW1⟩ : ∃ W1, store8 A2 W.heap.size nx = W1 := ⟨_, rfl⟩
            have hbW := HbW.out
            rw [hW1] at hbW bS1
            have hdW := (hbW.block _ (by omega)).trans hDW.out
            have b1 := boxed_later b hbW
            have o1 := o.below hbW
            have c1 := c.below hbW c.lt
            have a1 := a.later hbW
            have B1 := hB.trans (hbW.mono hB.size)
            have p1 := op.below hbW
            have G1 := hGW.later hbW
            have s1 := bS1.lt
            rw [hW1]
            intro Wb hgb hbusy
            have b2 := b1.kept hgb (by simp; omega)
            have o2 := o1.kept hgb (.inr fun e => by have := Hbk.out _ e; omega)
            have c2 := c1.kept hgb (by simp; omega)
            have a2 := a1.kept hgb (by simp; omega)
            have B2 : Below w.heap.size w Wb := B1.grown hgb (by have := B1.size; omega) (fun j e => by cases e; omega)
            have p2 : Opens Wb rs := p1.kept hgb (fun D hD e => by have := Hlt.out D hD; injection e with e; omega)
            have G2 := G1.kept2 hgb (by simp; omega) (by simp; omega)
            have d2 := (hgb.block _ (Array.getElem?_eq_some_iff.1 hdW).1 (by simp)).trans hdW
            have S2 := bS1.kept hgb (by simp; omega)
            have P2 := p2.cons d2 Hlt.out (by omega)
            have sb := hgb.size
            have Hbusy := Lib.hid hbusy
            have HP := Lib.hid P2
            have hlo2 : w.heap.size ≤ Wb.heap.size := B2.size
            have hdl9 : (choicesP zs n).length ≤ 1048576 := by rw [choicesP_length]; omega
            have cW := b2.cell
            have fW := b2.frozen
            clear b o c a hB op bBW hGW b1 o1 c1 a1 B1 p1 G1 hbW hdW d2 hgb hbusy HH HbW hRW hL1 hDW bS bS1 hA2 hW1 cA0 cA1 cA2 cA3 cA4 cA5 cA6 cA7 fA0 fA1 fA2 fA3 fA4 fA5 fA6 fA7 p2 P2
            gi_wp2_with (gi_at_builtin; refine wpListIn_append_own _ rfl _ _ 22 rfl A1.heap.size 2 i0 (.int .i64 0) 1 8 Try.underlying22 hi hz0 hz1 hz2 rfl (by decide) _ _ _ rfl (World.ownsRow.alloc o2 _) ⟨Wb.heap.size, 0, none⟩ 1 1 [.int .i64 ((j : Int) - 1)] rfl rfl (Go.cell_one_new _ _ _) (by simp [Value.oneCell']) (by unfold maxLen; omega) (by omega) (by simp; omega) ?_)
            intro v' w6 hown' hgrow _
            have ho2 := ownI_snoc hown'
            rw [← HC1.out] at ho2
            obtain ⟨g', cap', rfl, hg1, hg2⟩ := ho2.shape (by rw [choicesP_length]; omega)
            obtain ⟨r1, r2, r3, r4⟩ := appended b2 (by omega) o2 ho2 hgrow
            have hgr : Wb.grownBy w6 v.ownBlock := (World.grownBy_alloc _ _ _).trans hgrow
            have neV : ∀ q, q < A1.heap.size ∨ w3.heap.size ≤ q → some q ≠ v.ownBlock := fun q hq e => by have := Hbk.out q e.symm; omega
            have S6 := S2.kept hgr (neV _ (.inr (by omega)))
            have a6 := a2.kept hgr (neV _ (.inl (by omega)))
            have c6 := c2.kept hgr (neV _ (.inl (by omega)))
            have G6 := G2.kept2 hgr (neV _ (.inl (by omega))) (neV _ (.inl (by omega)))
            have B6 := B2.grown hgr hlo2 (fun k e => by have := (Hbk.out k e).1; omega)
            have P6 := Lib.hid (opens_append HP.out o2 hgr)
            have l6 := Lib.hid ((hgr.block _ (Array.getElem?_eq_some_iff.1 Hbusy.out).1 (neV _ (.inr (by omega)))).trans Hbusy.out)
            have s6 := hgr.size
            have cc1 := r1.cell
            have ff1 := r1.frozen
            obtain ⟨len, hlen⟩ : ∃ len, (choicesP zs (n + 1)).length = len := ⟨_, rfl⟩
            rw [hlen] at r2 r3 ho2
            have gS := grownBy_setCell2 w6 w2.heap.size 0 (.slice (some ⟨g', 0, none⟩) len cap')
            have S7 := S6.kept gS (by simp; omega)
            have a7 := a6.kept gS (by simp)
            clear hown' hgrow cW fW r4 neV hgr S2 a2 c2 G2 B2 HP Hbusy b2 o2
            iterate 3 (first | gi_guarded | gi_step | gi_upon | gi_in | gi_back)
            have c7 := c6.kept gS (by simp)
            have G7 := G6.kept2 gS (by simp; omega) (by simp; omega)
            have B7 := B6.grown gS (Nat.le_trans hlo2 s6) (fun k e => by cases e; omega)
            have P7 := P6.out.setCell ⟨w2.heap.size, 0, none⟩ (.slice (some ⟨g', 0, none⟩) len cap')
            have l7 := (gS.block _ (Array.getElem?_eq_some_iff.1 l6.out).1 (by simp; omega)).trans l6.out
            have s7 := gS.size
            obtain ⟨Wf, hWf⟩ : ∃ Wf, w6.setCell ⟨w2.heap.size, 0, none⟩ (.slice (some ⟨g', 0, none⟩) len cap') = Wf := ⟨_, rfl⟩
            rw [hWf] at r2 r3 S7 a7 c7 G7 B7 P7 l7 s7 ⊢
            have HP7 := Lib.hid P7
            have Hl7 := Lib.hid l7
            clear gS hWf S6 a6 c6 G6 B6 P6 l6 cc1 ff1 r1 P7 l7
            have cS0 := S7.cell (i := 0) (by omega)
            have cS1 := S7.cell (i := 1) (by omega)
            have cS2 := S7.cell (i := 2) (by omega)
            have cS3 := S7.cell (i := 3) (by omega)
            have cS4 := S7.cell (i := 4) (by omega)
            have cS5 := S7.cell (i := 5) (by omega)
            have cS6 := S7.cell (i := 6) (by omega)
            have cS7 := S7.cell (i := 7) (by omega)
            have cA0 := a7.cell (i := 0) (by omega)
            have cA1 := a7.cell (i := 1) (by omega)
            have cA2 := a7.cell (i := 2) (by omega)
            have cA3 := a7.cell (i := 3) (by omega)
            have cA4 := a7.cell (i := 4) (by omega)
            have cA5 := a7.cell (i := 5) (by omega)
            have cA6 := a7.cell (i := 6) (by omega)
            have cA7 := a7.cell (i := 7) (by omega)
            have fA0 := a7.frozen 0
            have fA1 := a7.frozen 1
            have fA2 := a7.frozen 2
            have fA3 := a7.frozen 3
            have fA4 := a7.frozen 4
            have fA5 := a7.frozen 5
            have fA6 := a7.frozen 6
            have fA7 := a7.frozen 7
            iterate 11 (first | gi_guarded | gi_step | gi_upon | gi_in | gi_back)
            have gT := grownBy_set8 Wf (w2.heap.size + 2) nx
            have b8 := r2.kept gT (by simp)
            have o8 := r3.kept gT (.inr fun e => by have := (r3.blk _ e).1; omega)
            have c8 := c7.kept gT (by simp)
            have a8 := Arr.stored8 nx a7
            have G8 := G7.kept2 gT (by simp; omega) (by simp; omega)
            have B8 := B7.grown gT (Nat.le_trans (Nat.le_trans hlo2 s6) s7) (fun k e => by cases e; omega)
            have P8 := HP7.out.set8 (w2.heap.size + 2) nx
            have l8 := (gT.block _ (Array.getElem?_eq_some_iff.1 Hl7.out).1 (by simp; omega)).trans Hl7.out
            have s8 := gT.size
            have hge : A1.heap.size ≤ (store8 Wf (w2.heap.size + 2) nx).heap.size := by omega
            obtain ⟨Wt, hWt⟩ : ∃ Wt, store8 Wf (w2.heap.size + 2) nx = Wt := ⟨_, rfl⟩
            rw [hWt] at b8 o8 c8 a8 G8 B8 P8 l8 s8 hge
            unfold store8 at hWt
            rw [hWt]
            have Hl8 := Lib.hid l8
            have HP8 := Lib.hid P8
            clear hWt gT l8 P8 cS0 cS1 cS2 cS3 cS4 cS5 cS6 cS7 cA0 cA1 cA2 cA3 cA4 cA5 cA6 cA7 fA0 fA1 fA2 fA3 fA4 fA5 fA6 fA7 r2 r3 S7 a7 c7 G7 B7 HP7 Hl7
            gi_wp2_with fail
            have gR := fun o => grownBy_putObj' Wt (w4.heap.size + 1) o
            refine ⟨Hl8.out, rfl, ⟨Hcan.out, _, b8.kept (gR _) (by simp; omega), o8.kept (gR _) (.inr (own_ne o8 Hl8.out)), c8.kept (gR _) (by simp; omega), by rw [HS1.out]; exact a8.kept (gR _) (by simp; omega), G8.kept2 (gR _) (by simp; omega) (by simp; omega), B8.grown (gR _) B8.size (fun k e => by cases e; omega), HP8.out.kept (gR _) (fun D hD e => by
              injection e with e
              rcases List.mem_cons.1 hD with rfl | hD
              · omega
              · have := Hlt.out D hD; omega), Nat.le_trans hge (gR _).size⟩, World.putObj_heap_same (Array.getElem?_eq_some_iff.1 Hl8.out).1⟩
        case post =>
          have hlo2 : ∀ E ∈ w4.heap.size :: rs, w.heap.size ≤ E := fun E hE => by
            rcases List.mem_cons.1 hE with rfl | hE
            · omega
            · exact Hlo.out E hE
          have HLO2 := Lib.hid hlo2
          clear hlo2 hE0 hI0 hsz0
          rintro e W' ⟨⟨vv, rfl⟩, ⟨hE, h0, b, o, c, a, hB, op, hs⟩ | ⟨⟨hcan, v', b, o, c, a, hG, hB, op, hs⟩, hLp⟩⟩
          · refine range_done2 hE.rec_ fun Wx hg => ?_
            have hDx := (hg.block _ (Array.getElem?_eq_some_iff.1 hE.def_).1 (by simp)).trans hE.def_
            have hBx : Below w.heap.size w Wx := hB.grown hg hB.size (fun k e => by cases e; omega)
            have opx : Opens Wx (w4.heap.size :: rs) := (op.kept hg (fun D hD e => by have := Hlt.out D hD; injection e with e; omega)).cons hDx Hlt.out (by omega)
            have hno : ¬ CanL zs := fun hc => keep_none h0 (by rw [← Hcur.out]; exact (playS_ok hp hc n).2)
            obtain ⟨k1, k2, k3⟩ := plC_no Hf.out hno
            have h9 := Lib.hid (Hnil.out (shutAll Wx (w4.heap.size :: rs)) 4 (below_shutAll hBx HLO2.out) k1 k3 k2)
            have HO := Lib.hid opx
            clear hE h0 b o c a hB op hg hDx hBx opx k1 k2 k3 hno
            gi_wp2
            show bodyPostM _ _ _ _ _ .ret { tmps := _, defers := (w4.heap.size :: rs).map recD } _
            refine retMs HO.out ⟨_, results_tmp3 rfl _ _ _, ?_⟩
            exact h9.out
          · refine range_jump2 hLp fun Wx hg => ?_
            have Hx := Lib.hid (And.intro (b.kept hg (by simp; omega)) (And.intro (o.kept hg (.inr (own_ne o hLp))) (And.intro (c.kept hg (by simp; omega)) (And.intro (a.kept hg (by simp; omega)) (And.intro (hG.kept2 hg (by simp; omega) (by simp; omega)) (And.intro (hB.grown hg hB.size (fun k e => by cases e; omega)) (Nat.le_trans hs hg.size)))))))
            have HO := Lib.hid (op.kept hg (fun D hD e => by
              injection e with e
              rcases List.mem_cons.1 hD with rfl | hD
              · omega
              · have := Hlt.out D hD; omega))
            have Hcan := Lib.hid hcan
            clear hcan b o c a hG hB op hs hLp hg
            gi_wp2
            obtain ⟨b, o, c, a, hG, hB, hs⟩ := Hx.out
            refine ⟨⟨w4.heap.size :: rs, n + 1, v', _, _, _, _, _, _, _, _, _, _, _, _, _, _, _, _, _, _, _, _, _, _, _, _, _, _, _, _, _, _, _, _, _, ⟨by simp [Hdl.out], HO.out, HLO2.out, .inl Hcan.out, Hfn.out, b, o, c, a, hG, hB, hs⟩, rfl⟩, ?_⟩
            simp only [List.length_cons, List.length_map, Hdl.out]; omega
  · obtain ⟨h1, h2, h3⟩ := plC_few hf
    have h9 := Lib.hid (Hnil.out w1 (fewC zs) hB1 h1 h3 h2)
    have hq : (fewC zs != 0) = true := by simpa using hf
    clear h1 h2 h3
    gi_wp2_with fail
    refine retM0 ⟨_, results_tmp3 rfl _ _ _, ?_⟩
    exact h9.out

end Go.Proofs.Ytmmpoaphjjpjaaa
