/-
  WaitsTogether of the program: waitTogether.
  Conditions: at most 1048576 lists, of at most 1048576 elements each.
-/
import Derived.Test.YtlgjnceedjbakaaWtS
import Derived.Test.YtlgjnceedjbakaaRep
import Derived.Test.YtlgjnceedjbakaaRecs
import Derived.Test.YtlgjnceedjbakaaReg
namespace Go.Proofs.Ytlgjnceedjbakaa
open Go.RowKit Go.Shelf
attribute [local go_sem] Oper.semAt_some

/-- the turns of the channels below c together, and of the channel c in the first j slots of its turns of i -/
def tgM (xss : List (List Int)) (i : Int) (c j : Nat) : List Int := (List.range (chN xss)).map fun s => if 0 < (chTo xss s i c).length ∨ s ∈ (slotsL (lst xss c) i).take j then i else -1
theorem tgM_length (xss : List (List Int)) (i : Int) (c j : Nat) : (tgM xss i c j).length = chN xss := by simp [tgM]
theorem nth_tgM {xss : List (List Int)} {i : Int} {c j s : Nat} (h : s < chN xss) : nth (tgM xss i c j) s = if 0 < (chTo xss s i c).length ∨ s ∈ (slotsL (lst xss c) i).take j then i else -1 := by simp [tgM, nth, h]
theorem repL_one8 (N : Nat) : repL [(-1 : Int)] N = List.replicate N (-1) := by
  have hl : (repL [(-1 : Int)] N).length = N := by rw [repL_length]; simp
  refine ext_nth (by rw [hl, List.length_replicate]) fun k hk => ?_
  rw [hl] at hk
  rw [nth_repL _ _ (by simp; exact hk)]
  simp [nth, hk, Nat.mod_one]
theorem tgM_zero (xss : List (List Int)) (i : Int) : tgM xss i 0 0 = repL [(-1 : Int)] (chN xss) := by
  rw [repL_one8]
  refine ext_nth (by rw [tgM_length, List.length_replicate]) fun s hs => ?_
  rw [tgM_length] at hs
  rw [nth_tgM hs]
  simp [chTo_zero, nth, hs]
theorem tgM_all {xss : List (List Int)} (i : Int) {c : Nat} (hl : (lst xss c).length = chN xss) : tgM xss i c (slotsL (lst xss c) i).length = tgM xss i (c + 1) 0 := by
  refine ext_nth (by rw [tgM_length, tgM_length]) fun s hs => ?_
  rw [tgM_length] at hs
  rw [nth_tgM hs, nth_tgM hs, List.take_length]
  have : (0 < (chTo xss s i c).length ∨ s ∈ slotsL (lst xss c) i) ↔ (0 < (chTo xss s i (c + 1)).length ∨ s ∈ (slotsL (lst xss (c + 1)) i).take 0) := by
    by_cases e : nth (lst xss c) s = i
    · rw [chTo_yes e]
      simp [slotsL, slotsTo, e, hl, hs]
    · rw [chTo_no e]
      simp [slotsL, slotsTo, e]
  by_cases h : 0 < (chTo xss s i c).length ∨ s ∈ slotsL (lst xss c) i
  · rw [if_pos h, if_pos (this.1 h)]
  · rw [if_neg h, if_neg (fun h' => h (this.2 h'))]
theorem tgM_end (xss : List (List Int)) (i : Int) : tgM xss i xss.length 0 = togL xss i := by
  refine ext_nth (by rw [tgM_length, togL_length]) fun s hs => ?_
  rw [tgM_length] at hs
  rw [nth_tgM hs, nth_togL hs]
  unfold togA chL
  by_cases h : 0 < (chTo xss s i xss.length).length
  · rw [if_pos (.inl h), if_pos h]
  · rw [if_neg (by simpa using h), if_neg h]
theorem slotN_mem {zs : List Int} {i : Int} {c : Nat} (hc : c < (slotsL zs i).length) : (slotsL zs i)[c]? = some (slotN zs i c) := by
  unfold slotN; rw [List.getElem?_eq_getElem hc]; rfl
theorem tgM_succ {xss : List (List Int)} (i : Int) {c j : Nat} (hj : j < (slotsL (lst xss c) i).length) : tgM xss i c (j + 1) = (tgM xss i c j).set (slotN (lst xss c) i j) i := by
  refine ext_nth (by rw [List.length_set, tgM_length, tgM_length]) fun s hs => ?_
  rw [tgM_length] at hs
  have ht : (slotsL (lst xss c) i).take (j + 1) = (slotsL (lst xss c) i).take j ++ [slotN (lst xss c) i j] := by
    rw [List.take_add_one, slotN_mem hj]; rfl
  rw [nth_tgM hs, ht]
  by_cases e : s = slotN (lst xss c) i j
  · subst e
    rw [if_pos (.inr (by simp))]
    rw [nth, List.getElem?_set, if_pos rfl, if_pos (by rw [tgM_length]; exact hs)]
    rfl
  · rw [nth, List.getElem?_set, if_neg (Ne.symm e)]
    show _ = nth (tgM xss i c j) s
    rw [nth_tgM hs]
    simp [e]

theorem boxed_put {W : World} {b g : Nat} {t : TypeId} {v : Value} (h : Boxed W b t v) (hne : b ≠ g) (s : Nat) (u : Value) : Boxed (W.setCell ⟨g, s, none⟩ u) b t v := h.kept (grownBy_setCell2 W g s u) (fun e => hne (by cases e; rfl))
structure EnvT (w W : World) (i : Int) (g N cg bT : Nat) (zs : List Int) (rs : List Nat) : Prop where
  bi : Boxed W w.heap.size 2 (.int .i64 i)
  bt : Boxed W bT 37 (.slice (some ⟨g, 0, none⟩) N cg)
  row : OwnI (w.heap.size + 1) W (.slice (some ⟨g, 0, none⟩) N cg) zs
  below : Below w.heap.size w W
  op : Opens W rs
theorem EnvT.later {w W W' : World} {i : Int} {g N cg bT : Nat} {zs : List Int} {rs : List Nat} (E : EnvT w W i g N cg bT zs rs) (hb : Below W.heap.size W W') : EnvT w W' i g N cg bT zs rs :=
  ⟨boxed_later E.bi hb, boxed_later E.bt hb, E.row.below hb, E.below.trans (hb.mono E.below.size), E.op.below hb⟩
theorem EnvT.own {w : World} {i : Int} {g N cg bT B : Nat} {f : Nat → List Int} {rs : List Nat} (hB : w.heap.size ≤ B) (hr : ∀ D ∈ rs, D < B) : OwnFrom B (fun n W => EnvT w W i g N cg bT (f n) rs) := by
  have h1 : OwnFrom B (fun n W => Boxed W w.heap.size 2 (.int .i64 i) ∧ Boxed W bT 37 (.slice (some ⟨g, 0, none⟩) N cg) ∧ OwnI (w.heap.size + 1) W (.slice (some ⟨g, 0, none⟩) N cg) (f n) ∧ Below w.heap.size w W ∧ Opens W rs) :=
    OwnFrom.and (Own.from (boxed_own _ _ _) _) (OwnFrom.and (Own.from (boxed_own _ _ _) _) (OwnFrom.and (Own.from (ownI_Own _ _ _) _) (OwnFrom.and (ownFrom_below (Nat.le_refl _) hB) (opens_own hr))))
  intro s W W' row hs hg hr'
  obtain ⟨a1, a2, a3, a4, a5⟩ := h1 s W W' row ⟨hs.bi, hs.bt, hs.row, hs.below, hs.op⟩ hg hr'
  exact ⟨a1, a2, a3, a4, a5⟩

def InvW8 (xss : List (List Int)) (i : Int) (a : Option Addr) (cap : Nat) (w : World) (M g N cg bT : Nat) (a' : Act) (W : World) : Prop :=
  ∃ (c : Nat) (rs : List Nat) (u2 u6 u7 u8 u9 u10 u11 u12 u13 u14 u18 u19 u20 u21 u22 u23 u24 u25 u26 u27 u28 u29 u30 u31 u32 : Value), (c ≤ M ∧ rs.length = c ∧ (∀ D ∈ rs, w.heap.size ≤ D) ∧ EnvT w W i g N cg bT (tgM xss i c 0) rs) ∧ a' = { tmps := #[.slice a M cap, .int .i64 i, u2, .pointer (some ⟨w.heap.size, 0, none⟩), .int .i64 0, .pointer (some ⟨bT, 0, none⟩), u6, u7, u8, u9, u10, u11, u12, u13, u14, .slice a M cap, .int .i64 M, .int .i64 c, u18, u19, u20, u21, u22, u23, u24, u25, u26, u27, u28, u29, u30, u31, u32], defers := rs.map recD }
theorem InvW8.elim {xss : List (List Int)} {i : Int} {a : Option Addr} {cap : Nat} {w : World} {M g N cg bT : Nat} {a' : Act} {W : World} {p : Act → Prop} (hI : InvW8 xss i a cap w M g N cg bT a' W)
    (hp : ∀ (c : Nat) (rs : List Nat) (u2 u6 u7 u8 u9 u10 u11 u12 u13 u14 u18 u19 u20 u21 u22 u23 u24 u25 u26 u27 u28 u29 u30 u31 u32 : Value), (c ≤ M ∧ rs.length = c ∧ (∀ D ∈ rs, w.heap.size ≤ D) ∧ EnvT w W i g N cg bT (tgM xss i c 0) rs) → p { tmps := #[.slice a M cap, .int .i64 i, u2, .pointer (some ⟨w.heap.size, 0, none⟩), .int .i64 0, .pointer (some ⟨bT, 0, none⟩), u6, u7, u8, u9, u10, u11, u12, u13, u14, .slice a M cap, .int .i64 M, .int .i64 c, u18, u19, u20, u21, u22, u23, u24, u25, u26, u27, u28, u29, u30, u31, u32], defers := rs.map recD }) : p a' :=
  Exists.elim hI fun c hI => Exists.elim hI fun rs hI => Exists.elim hI fun u2 hI => Exists.elim hI fun u6 hI => Exists.elim hI fun u7 hI => Exists.elim hI fun u8 hI => Exists.elim hI fun u9 hI => Exists.elim hI fun u10 hI => Exists.elim hI fun u11 hI => Exists.elim hI fun u12 hI => Exists.elim hI fun u13 hI => Exists.elim hI fun u14 hI => Exists.elim hI fun u18 hI => Exists.elim hI fun u19 hI => Exists.elim hI fun u20 hI => Exists.elim hI fun u21 hI => Exists.elim hI fun u22 hI => Exists.elim hI fun u23 hI => Exists.elim hI fun u24 hI => Exists.elim hI fun u25 hI => Exists.elim hI fun u26 hI => Exists.elim hI fun u27 hI => Exists.elim hI fun u28 hI => Exists.elim hI fun u29 hI => Exists.elim hI fun u30 hI => Exists.elim hI fun u31 hI => Exists.elim hI fun u32 hI => by
    obtain ⟨hf, rfl⟩ := hI
    exact hp _ _ _ _ _ _ _ _ _ _ _ _ _ _ _ _ _ _ _ _ _ _ _ _ _ _ _ hf

set_option maxRecDepth 100000 in
set_option maxHeartbeats 16000000 in
theorem waitTogether_c (c0 : Value) (xss : List (List Int)) (i : Int) (k : Int) (w : World) (hX : Lsts w.heap.size w c0 xss) (hC : Chans k xss) :
    Calls Try.prog 67 #[c0, .int .i64 i] w fun e w' => e = .returned (.int .i64 (greatW (togL xss i) i)) ∧ Below w.heap.size w w' := by
  obtain ⟨u, hU⟩ := hX
  obtain ⟨a, cap, rfl⟩ := hU.shape
  have hn := hC.n
  have hm0 := hC.m0
  have hm4 := hC.m4
  obtain ⟨N, hN⟩ : ∃ N, chN xss = N := ⟨_, rfl⟩
  obtain ⟨M, hM⟩ : ∃ M, xss.length = M := ⟨_, rfl⟩
  rw [hN] at hn
  obtain ⟨b, off, a0, c0, ha, hb, k0, _⟩ := hU.read (show 0 < xss.length by omega)
  rw [Nat.add_zero] at k0
  rw [show (lst xss 0).length = N from hN] at k0
  have HN := Lib.hid hN
  have HU := Lib.hid hU
  have HC := Lib.hid hC
  rw [hM] at hm0 hm4 ⊢
  have HM := Lib.hid hM
  have Ha := Lib.hid ha
  subst ha
  clear hU hC hN hM
  have bi0 : Boxed (w.alloc (.cells #[.int .i64 i] 2)) w.heap.size 2 (.int .i64 i) := Boxed.new _ _ _
  obtain ⟨W1, hW1⟩ : ∃ W1, (w.alloc (.cells #[.int .i64 i] 2)).alloc (.cells #[.int .i64 (-1)] 2) = W1 := ⟨_, rfl⟩
  have hB1 : Below w.heap.size w W1 := by rw [← hW1]; exact ((Below.refl _ w).alloc (Nat.le_refl _) _).alloc (by simp) _
  have hs1 : W1.heap.size = w.heap.size + 1 + 1 := by rw [← hW1]; simp
  have bi1 : Boxed W1 w.heap.size 2 (.int .i64 i) := by rw [← hW1]; exact bi0.alloc _
  have hI1 : Ints W1.heap.size W1 (.slice (some ⟨w.heap.size + 1, 0, none⟩) 1 1) [-1] := by
    refine ⟨_, 1, rfl, .inr ⟨w.heap.size + 1, 0, rfl, by omega, fun j hj => ?_⟩⟩
    simp at hj
    subst hj
    rw [← hW1]
    have := (boxed_at (w := w.alloc (.cells #[.int .i64 i] 2)) (b := w.heap.size + 1) (t := 2) (v := .int .i64 (-1)) (by simp)).cell
    exact this
  have k1 : W1.cell? ⟨b, off, none⟩ = some (.slice a0 N c0) := (hB1.cell (p := ⟨b, off, none⟩) hb).trans k0
  have hM0 : (0 : Int) < (M : Int) := by omega
  have hM1 : 0 < M := by omega
  refine (callsIn_wide (n := 9)).1 ?_
  clear k0 bi0
  refine callsIn_of_wp_marks Try.func67 rfl trivial ?_ rfl
  simp only [Try.ntmps67, List.size_toArray, List.length_cons, List.length_nil, Nat.reduceAdd, Nat.reduceSub, Array.replicate_succ, Array.replicate_zero, List.push_toArray, List.append_toArray, List.nil_append, List.cons_append]
  gi_wp2_with fail
  try rw [hW1]
  clear hW1 k1
  refine ⟨trivial, (callsIn_wide.2 (repeat_c _ [-1] N W1 hI1 (by simp) (by simp) (by omega) (by omega))).mono ?_⟩
  rintro e W2 ⟨v, rfl, ho2, hb2⟩
  simp only [id]
  have hrl : (repL [(-1 : Int)] N).length = N := by rw [repL_length]; simp
  obtain ⟨g, cg, hv, hg1, hg2⟩ := ho2.shape (by rw [hrl]; omega)
  rw [hrl] at hv
  subst hv
  have hB2 := hB1.trans (hb2.mono (by omega))
  have bi2 := boxed_later bi1 hb2
  have ho2' : OwnI (w.heap.size + 1) W2 (.slice (some ⟨g, 0, none⟩) N cg) (tgM xss i 0 0) := by rw [tgM_zero, HN.out]; exact ho2.base (by omega)
  have hs2 := hb2.size
  obtain ⟨W3, hW3⟩ : ∃ W3, W2.alloc (.cells #[.slice (some ⟨g, 0, none⟩) N cg] 37) = W3 := ⟨_, rfl⟩
  have hb3 : Below W2.heap.size W2 W3 := by rw [← hW3]; exact (Below.refl _ _).alloc (Nat.le_refl _) _
  have bT3 : Boxed W3 W2.heap.size 37 (.slice (some ⟨g, 0, none⟩) N cg) := by rw [← hW3]; exact Boxed.new _ _ _
  have E0 : EnvT w W3 i g N cg W2.heap.size (tgM xss i 0 0) [] := ⟨boxed_later bi2 hb3, bT3, ho2'.below hb3, hB2.trans (hb3.mono (by omega)), Opens.nil _⟩
  obtain ⟨bT, hbT⟩ : ∃ bT, W2.heap.size = bT := ⟨_, rfl⟩
  have hgT : g < bT := by omega
  have hgw : w.heap.size + 1 < g := by omega
  rw [hbT] at E0
  have HbT := Lib.hid hbT
  have hs3 : bT + 1 ≤ W3.heap.size := by rw [← hW3]; simp; omega
  clear hs1 bi1 hI1 hB1 ho2 hb2 hrl hg1 hg2 bi2 ho2' hB2 hb3 bT3 hbT
  gi_wp2_with fail
  try rw [HbT.out] at *
  try rw [hW3]
  clear hW3 HbT hs2
  refine wpIn_loop (InvW8 xss i (some ⟨b, off, none⟩) cap w M g N cg bT) (fun a' _ => M - a'.defers.length) ?start ?round
  case start => exact ⟨0, [], _, _, _, _, _, _, _, _, _, _, _, _, _, _, _, _, _, _, _, _, _, _, _, _, _, ⟨Nat.zero_le _, rfl, by simp, E0⟩, rfl⟩
  case round =>
    intro a' W hA
    apply InvW8.elim hA
    clear hA a'
    intro c rs u2 u6 u7 u8 u9 u10 u11 u12 u13 u14 u18 u19 u20 u21 u22 u23 u24 u25 u26 u27 u28 u29 u30 u31 u32 ⟨hc, hrl, hlw, E⟩
    dsimp only
    clear E0
    have Hrl := Lib.hid hrl
    have Hlw := Lib.hid hlw
    have hsE := E.below.size
    have bgT : g < W.heap.size := (E.row.blk g rfl).2
    have bbT := E.bt.lt
    clear hrl hlw
    by_cases hlt : c < M
    · have hki : (c : Int) < (M : Int) := by omega
      have hlt2 : c < xss.length := by rw [HM.out]; exact hlt
      have hU1 := HU.out.below E.below
      obtain ⟨b', off', a3, c3, e', _, k1, i1⟩ := hU1.read hlt2
      simp only [Option.some.injEq, Addr.mk.injEq, and_true] at e'
      obtain ⟨rfl, rfl⟩ := e'
      have hlr := HC.out.at_ hlt2
      obtain ⟨ts, hts⟩ : ∃ ts, lst xss c = ts := ⟨_, rfl⟩
      have Hts := Lib.hid hts
      rw [hts] at k1 i1 hlr
      have hlN : ts.length = N := by rw [hlr]; exact HN.out
      have ci := E.bi.cell
      have hltE : ∀ D ∈ rs, D < W.heap.size := fun D hD => E.op.lt hD
      have HLT := Lib.hid hltE
      obtain ⟨V, hV⟩ : ∃ V, (W.alloc (.cells #[.slice a3 ts.length c3] 37)).alloc (.cells #[.int .i64 i] 2) = V := ⟨_, rfl⟩
      have hBV : Below W.heap.size W V := by rw [← hV]; exact ((Below.refl _ W).alloc (Nat.le_refl _) _).alloc (by simp) _
      have hsV : V.heap.size = W.heap.size + 1 + 1 := by rw [← hV]; simp
      have bV : Boxed V W.heap.size 37 (.slice a3 ts.length c3) := by rw [← hV]; exact (Boxed.new _ _ _).alloc _
      have bVi : Boxed V (W.heap.size + 1) 2 (.int .i64 i) := by rw [← hV]; exact boxed_at (by simp)
      have EV := E.later hBV
      have iV := i1.below (hBV.mono hsE)
      have Hiv := Lib.hid iV
      have HlN := Lib.hid hlN
      have Hlr := Lib.hid hlr
      clear hltE hU1 hlr i1 iV hlN hts E
      gi_wp2_with fail
      refine ⟨trivial, (callsIn_wide.2 (slotsOf_c _ _ _ _ _)).mono ?_⟩
      rintro e V' ⟨rfl, rfl⟩
      rw [hV]
      clear hV k1 ci
      gi_wp2_with fail
      refine range_outA (Keep := fun z => z < w.heap.size ∨ z = W.heap.size + 1) (c := 4) rfl (by omega) rfl trivial (enters_of Try.func124 (by kernel_rfl) rfl) (slotsOf_at 8 W.heap.size (W.heap.size + 1) w.heap.size _ ts i (by rw [HlN.out]; omega) V bV bVi (by omega) Hiv.out) (fun z hz => by omega) (fun _ => rfl)
        (fun n U => EnvT w U i g N cg bT (tgM xss i c n) rs) (fun _ _ _ => False) (EnvT.own (by omega) (fun D hD => by have := HLT.out D hD; omega)) (fun _ _ _ _ _ hs _ _ => hs) EV ?a1 ?assign ?body ?done ?stop
      case assign =>
        intro l n U K' hi hK
        simp only [slotAt]
        gi_wp2
        exact hK
      case body =>
        rintro l n U hl' hr E1 hn hsU
        have hsl := slotN_lt hn
        obtain ⟨s, hs⟩ : ∃ s, slotN ts i n = s := ⟨_, rfl⟩
        rw [hs] at hsl ⊢
        have Hsucc := Lib.hid (tgM_succ i (xss := xss) (c := c) (j := n) (by rw [Hts.out]; exact hn))
        have Hs := Lib.hid (show slotN (lst xss c) i n = s by rw [Hts.out]; exact hs)
        have hsN : s < N := by rw [← HlN.out]; exact hsl
        have hsi : (s : Int) < (N : Int) := by omega
        have cT := E1.bt.cell
        have ci := E1.bi.cell
        have cy := E1.row.cellAt (j := s) (by rw [tgM_length, HN.out]; exact hsN)
        have fy := E1.row.frozen s
        have hrow := (E1.row.stored s i).1
        have hnb : ¬ Band (fun z => z < w.heap.size ∨ z = W.heap.size + 1) V.heap.size (V.heap.size + 2 + 4) g := fun hb' => by
          rcases hb' with (hb' | hb') | hb' <;> omega
        have E2 : EnvT w (U.setCell ⟨g, s, none⟩ (.int .i64 i)) i g N cg bT (tgM xss i c (n + 1)) rs := by
          rw [Hsucc.out, Hs.out]
          exact ⟨boxed_put E1.bi (show w.heap.size ≠ g by omega) _ _, boxed_put E1.bt (show bT ≠ g by omega) _ _, hrow, E1.below.setCell (p := ⟨g, s, none⟩) (by simp; omega) _, E1.op.setCell _ _⟩
        have HE2 := Lib.hid E2
        clear E1 hrow hs E2 EV hr
        gi_wp2
        exact ⟨Kps.setCell _ _ _ _ hnb, HE2.out⟩
      case done =>
        rintro D U hD E1 hK
        have hall := tgM_all i (HC.out.at_ hlt2)
        rw [Hts.out] at hall
        rw [hall] at E1
        have E2 : EnvT w U i g N cg bT (tgM xss i (c + 1) 0) (D :: rs) := { E1 with op := E1.op.cons hK (fun E hE => HLT.out E hE) (by omega) }
        clear EV E1 hK hall
        gi_wp2
        have hk1 : (c : Int) + 1 = ((c + 1 : Nat) : Int) := by simp
        rw [hk1]
        refine ⟨⟨c + 1, D :: rs, _, _, _, _, _, _, _, _, _, _, _, _, _, _, _, _, _, _, _, _, _, _, _, _, _, ⟨by omega, by rw [List.length_cons, Hrl.out], fun E hE => by rcases List.mem_cons.1 hE with rfl | hE; (have := hBV.size; omega); exact Hlw.out E hE, E2⟩, rfl⟩, ?_⟩
        simp only [List.length_cons, List.length_map, Hrl.out]; omega
      case stop =>
        rintro D c' k' W' hD hk h
        exact h.elim
    · obtain rfl : c = M := by omega
      have hkN : ¬ (c : Int) < (c : Int) := by omega
      have hrow := E.row
      rw [← HM.out, tgM_end] at hrow
      have cT := E.bt.cell
      have ci := E.bi.cell
      have htl := togL_length xss i
      obtain ⟨T, hT⟩ : ∃ T, togL xss i = T := ⟨_, rfl⟩
      rw [hT] at hrow htl
      have HT := Lib.hid hT
      have hTl : T.length ≤ 120 := by rw [htl, HN.out]; omega
      have hT2 : T.length = N := by rw [htl, HN.out]
      have hI := hrow.ints
      have HI := Lib.hid hI
      clear hrow hT hI htl
      gi_wp2_with fail
      refine ⟨trivial, (callsIn_wide.2 (greatestWait_c _ T i W HI.out (by omega))).mono ?_⟩
      rintro e W5 ⟨rfl, hb5⟩
      have E5 := E.later hb5
      clear E hb5
      gi_wp2
      refine retMs E5.op ⟨_, results_tmp rfl _ _ _, ?_⟩
      exact ⟨ret_int (by rw [HT.out]), below_shutAll E5.below Hlw.out⟩

set_option maxRecDepth 100000 in
set_option maxHeartbeats 4000000 in
theorem i_WaitsTogether (k : Int) (c1 : Value) (xss : List (List Int)) (i : Int) (w : World) (hk : I64 k) (hX : Lsts w.heap.size w c1 xss) (hm : xss.length ≤ 1048576) (hm2 : ∀ c, c < xss.length → (lst xss c).length ≤ 1048576) (_hi : I64 i) :
    Calls Try.prog 33 #[.int .i64 k, c1, .int .i64 i] w fun e w' => e = .returned (.tuple #[.int .i64 (wtR k xss i), .int .i64 (wtC k xss i)]) ∧ Below w.heap.size w w' := by
  obtain ⟨a, cap, rfl⟩ := hX.shape
  have HX := Lib.hid hX
  have Hm2 := Lib.hid hm2
  clear hX hm2
  cases hc : chOk k xss
  · have Hf := Lib.hid (show wtB k xss i = false by unfold wtB; rw [hc]; rfl)
    have Hc := Lib.hid hc
    clear hc
    go_enter Try.func33, Try.ntmps33
    go_wp2_with fail
    refine (i_AreChannels k _ xss _ hk HX.out hm Hm2.out).mono ?_
    rintro e w1 ⟨he, hb⟩
    rw [Hc.out] at he
    subst he
    go_wp2
    go_ret2
    exact ⟨ret_i2w (by unfold wtR; rw [Hf.out]; rfl) (by unfold wtC; rw [Hf.out]; rfl), hb⟩
  have hC := chOk_iff.1 hc
  have hk0 := hC.k0
  have hk8 := hC.k8
  have Hc := Lib.hid hc
  have HC := Lib.hid hC
  clear hc hC
  by_cases h0 : i < 0
  · have Hf := Lib.hid (show wtB k xss i = false by unfold wtB; rw [inB_false.2 (by omega), Bool.and_false])
    go_enter Try.func33, Try.ntmps33
    go_wp2_with fail
    refine (i_AreChannels k _ xss _ hk HX.out hm Hm2.out).mono ?_
    rintro e w1 ⟨he, hb⟩
    rw [Hc.out] at he
    subst he
    go_wp2
    go_ret2
    exact ⟨ret_i2w (by unfold wtR; rw [Hf.out]; rfl) (by unfold wtC; rw [Hf.out]; rfl), hb⟩
  by_cases h1 : k ≤ i
  · have Hf := Lib.hid (show wtB k xss i = false by unfold wtB; rw [inB_false.2 (by omega), Bool.and_false])
    go_enter Try.func33, Try.ntmps33
    go_wp2_with fail
    refine (i_AreChannels k _ xss _ hk HX.out hm Hm2.out).mono ?_
    rintro e w1 ⟨he, hb⟩
    rw [Hc.out] at he
    subst he
    go_wp2
    go_ret2
    exact ⟨ret_i2w (by unfold wtR; rw [Hf.out]; rfl) (by unfold wtC; rw [Hf.out]; rfl), hb⟩
  · have Hf := Lib.hid (show wtB k xss i = true by unfold wtB; rw [Hc.out, inB_true.2 (by omega)]; rfl)
    go_enter Try.func33, Try.ntmps33
    go_wp2_with fail
    refine (i_AreChannels k _ xss _ hk HX.out hm Hm2.out).mono ?_
    rintro e w1 ⟨he, hb⟩
    rw [Hc.out] at he
    subst he
    go_wp2_with fail
    refine (waitTogether_c _ xss i k _ (HX.out.later hb) HC.out).mono ?_
    rintro e w2 ⟨rfl, hb2⟩
    go_wp2
    go_ret2
    exact ⟨ret_i2w (by unfold wtR; rw [Hf.out]; rfl) (by unfold wtC; rw [Hf.out]; rfl), hb.trans (hb2.mono hb.size)⟩

end Go.Proofs.Ytlgjnceedjbakaa
