/-
  LeastPlayOn of the model.
  Conditions: lists of at most 1048576 elements.
-/
import Derived.Maps.AppendAt
import Derived.Test.YtieobjoijalijaaPlm
import Derived.Test.YtieobjoijalijaaShift
import Derived.Test.YtieobjoijalijaaSort
namespace Go.Proofs.Ytieobjoijalijaa
open Go.RowKit Go.Shelf
attribute [local go_sem] Oper.semAt_some

section
variable {P : Program}
/-- the ordinary way out alone -/
def onlyN (R : Act → World → Prop) : Exit → Act → World → Prop
  | .normal, a, w => R a w
  | _, _, _ => False
theorem wp_thru3 {α β γ : Type} (AA : α → β → γ → Act) (R : α → β → γ → World → Prop) {c : Code} {Q : Exit → Act → World → Prop} {a : Act} {w : World}
    (h : c.wp P (onlyN fun a' w' => ∃ x y z, a' = AA x y z ∧ R x y z w') a w) (hq : ∀ x y z w', R x y z w' → Q .normal (AA x y z) w') : c.wp P Q a w :=
  wp_mono h fun e a' w' hp => by
    cases e with
    | normal => obtain ⟨x, y, z, rfl, hr⟩ := hp; exact hq x y z w' hr
    | panic ch => exact hp.elim
    | exit id => exact hp.elim
    | goto l => exact hp.elim
    | ret => exact hp.elim
    | outgrown => exact hp.elim
end

/-- -1 in the first k of N places, 0 in the others -/
def fillM (N k : Nat) : List Int := (List.range N).map fun i => if i < k then -1 else 0
theorem fillM_length (N k : Nat) : (fillM N k).length = N := by simp [fillM]
theorem nth_fillM {N k i : Nat} (h : i < N) : nth (fillM N k) i = if i < k then -1 else 0 := by simp [nth, fillM, h]
theorem fillM_zero (N : Nat) : fillM N 0 = List.replicate N 0 := ext_nth (by simp [fillM]) fun i hi => by
  rw [fillM_length] at hi
  rw [nth_fillM hi]; simp [nth, hi]
theorem fillM_all (N : Nat) : fillM N N = List.replicate N (-1) := ext_nth (by simp [fillM]) fun i hi => by
  rw [fillM_length] at hi
  rw [nth_fillM hi, if_pos hi]; simp [nth, hi]
theorem fillM_set {N k : Nat} : (fillM N k).set k (-1) = fillM N (k + 1) := ext_nth (by simp [fillM]) fun i hi => by
  rw [List.length_set, fillM_length] at hi
  rw [nth_set (by rw [fillM_length]; exact hi), nth_fillM hi, nth_fillM hi]
  by_cases e : k = i
  · rw [if_pos e, if_pos (by omega)]
  · rw [if_neg e]
    by_cases h : i < k
    · rw [if_pos h, if_pos (by omega)]
    · rw [if_neg h, if_neg (by omega)]

theorem goS_goL {zs st : List Int} {m : Int} (hp : Pos zs) (hs : IsSt zs st) (s : Nat) : GoS zs m (lastSB zs m) st s ↔ GoL zs m st s := by
  unfold GoS GoL
  constructor
  · rintro ⟨h1, h2, h3⟩
    obtain ⟨k, k1, k2, k3⟩ := num_nat hp (hs.stepS h2)
    rw [k1, lastSB_at k2, k3] at h3
    exact ⟨h1, h2, h3⟩
  · rintro ⟨h1, h2, h3⟩
    obtain ⟨k, k1, k2, k3⟩ := num_nat hp (hs.stepS h2)
    refine ⟨h1, h2, ?_⟩
    rw [k1, lastSB_at k2, k3]
    exact h3
theorem lastSB_length (zs : List Int) (m : Int) : (lastSB zs m).length = cntN zs := by simp [lastSB]
theorem lastSB_full {zs : List Int} {m : Int} {n : Nat} (hp : Pos zs) (hn : cntN zs = n + 1) : bAt (lastSB zs m) (n : Int) = true ↔ LastS zs m zs := by
  have h1 := cntL_cntN hp
  rw [lastSB_at (by omega)]
  have h3 : (n : Int) = numL zs zs := by rw [numL_full]; omega
  rw [h3, ofL_numL (isSt_full hp)]

set_option maxRecDepth 100000 in
set_option maxHeartbeats 8000000 in
open Classical in
theorem s_LeastPlayOn (c0 : Value) (zs : List Int) (m : Int) (w : World) (hI : Ints w.heap.size w c0 zs) (_hN : I64s zs) (hm : zs.length ≤ 1048576) (_hmi : I64 m) :
    Calls Try.prog 28 #[.agg #[c0], .int .i64 m] w (GivesII w (lpR zs m) (lpH zs m) fun v u => .tuple #[u, v, .int .i64 (lpC zs m)]) := by
  obtain ⟨i0, hi, hz0, hz1, hz2⟩ := info_parts Try.infoI
  obtain ⟨a, cap, rfl⟩ := hI.shape
  have nil2 : ∀ (W : World) (c : Int), Below w.heap.size w W → lpC zs m = c → lpR zs m = [] → lpH zs m = [] → GivesII w (lpR zs m) (lpH zs m) (fun v u => .tuple #[u, v, .int .i64 (lpC zs m)]) (.returned (.tuple #[.slice none 0 0, .slice none 0 0, .int .i64 c])) W := fun W c hB h1 h2 h3 => by
    refine ⟨.slice none 0 0, .slice none 0 0, w.heap.size, by rw [h1], ?_, ?_, Nat.le_refl _, hB⟩
    · rw [h2]; exact seg_nil _ _ _ (Nat.le_refl _)
    · rw [h3]; exact seg_nil _ _ _ hB.size
  have Hnil := Lib.hid nil2
  clear nil2
  have hfw : Try.prog.follows Departure.mixedOrders = true := by kernel_rfl
  have hbd := onC_bd zs m
  go_enter Try.func28, Try.ntmps28
  go_wp2_with fail
  obtain ⟨W0, hW0⟩ : ∃ W0, (w.alloc (.cells #[.slice a zs.length cap] 28)) = W0 := ⟨_, rfl⟩
  have hB0 : Below w.heap.size w W0 := by rw [← hW0]; exact ((Below.refl _ w).alloc (Nat.le_refl _) _)
  have hs0 : w.heap.size + 1 ≤ W0.heap.size := by rw [← hW0]; simp
  have bT : Boxed W0 (w.heap.size) 28 (.slice a zs.length cap) := by rw [← hW0]; repeat first | (refine boxed_at ?_; (simp; done)) | refine Boxed.alloc ?_ _
  rw [hW0]
  clear hW0
  refine (l08Code_c _ zs m _ (hI.later hB0) hm).mono ?_
  rintro e w1 ⟨rfl, hb⟩
  have hB1 := hB0.trans (hb.mono hB0.size)
  replace bT := boxed_later bT hb
  clear hb hB0
  have cT := bT.cell
  by_cases hf : onC zs m = 0
  · rw [hf]
    have Hf := Lib.hid hf
    obtain ⟨ht, -, h4⟩ := onC_ok hf
    have hp := pos_of ht
    have hl8 := tasksOk_len ht
    clear hf hbd
    go_wp2_with fail
    refine wp_region_held_drew (S := fun w' => Boxed w' w.heap.size 28 (.slice a zs.length cap) ∧ Below w.heap.size w w') hfw ⟨bT, hB1.drew⟩ ?_
    intro hS0
    obtain ⟨Wd, hWd⟩ : ∃ Wd, w1.drew = Wd := ⟨_, rfl⟩
    rw [hWd] at hS0 ⊢
    clear hWd bT hB1 cT
    refine wpAnyH_take (i := 0) (v := ?vr10) rfl (by kernel_rfl) (by kernel_rfl) (by kernel_rfl) (fun _ _ _ h => h) (.inl ⟨by rfl, ?yr10⟩) hS0 ?_
    case yr10 =>
      intro w' hS
      (have k1 := hS.1.cell; clear hS)
      go_simp
      try with_reducible rfl
    refine wpAnyH_take (i := 1) (v := ?vr11) rfl (by kernel_rfl) (by kernel_rfl) (by kernel_rfl) (fun _ _ _ h => h) (.inl ⟨by rfl, ?yr11⟩) hS0 ?_
    case yr11 =>
      intro w' hS
      (have k1 := hS.1.cell; clear hS)
      go_simp
      try with_reducible rfl
    refine wpAnyH_take (i := 3) (v := ?vr13) rfl (by kernel_rfl) (by kernel_rfl) (by kernel_rfl) (fun _ _ _ h => h) (.inl ⟨by rfl, ?yr13⟩) hS0 ?_
    case yr13 =>
      intro w' hS
      (have k1 := hS.1.cell; clear hS)
      go_simp
      try with_reducible rfl
    refine wpAnyH_take (i := 4) (v := ?vr14) rfl (by kernel_rfl) (by kernel_rfl) (by kernel_rfl) (fun _ _ _ h => h) (.inl ⟨by rfl, ?yr14⟩) hS0 ?_
    case yr14 =>
      intro w' hS
      (have k1 := hS.1.cell; clear hS)
      go_simp
      try with_reducible rfl
    refine wpAnyH_ready (rs := [2]) (by kernel_rfl) (by simp) ?_
    refine AllReadyH.cons rfl (fun K' hK' => ?_) AllReadyH.nil
    rw [if_pos (by rfl)]
    go_simp
    refine (l08Lasting_c _ zs m Wd (hI.later hS0.2) ht h4).mono ?_
    rintro e w1 ⟨gl, rfl, hOb, hbx⟩
    have hSa : Boxed w1 w.heap.size 28 (.slice a zs.length cap) ∧ Below w.heap.size w w1 := ⟨boxed_later hS0.1 hbx, hS0.2.trans (hbx.mono hS0.2.size)⟩
    refine hK'.out _ _ hSa fun hS1 => ?_
    clear hK' hS1 hS0 hbx
    refine wpAnyH_ready (rs := [5]) (by kernel_rfl) (by simp) ?_
    refine AllReadyH.cons rfl (fun K' hK' => ?_) AllReadyH.nil
    rw [if_pos (by rfl)]
    go_simp
    refine (l08Sets_c _ zs m w1 (hI.later hSa.2) hl8.2).mono ?_
    rintro e w2 ⟨vs8, rfl, hvs, hbx⟩
    obtain ⟨av, cv, rfl⟩ := hvs.ints.shape
    simp only [id]
    obtain ⟨sl, hsl⟩ : ∃ sl, setsTo m (2 ^ zs.length) = sl := ⟨_, rfl⟩
    rw [hsl] at hvs ⊢
    have Hsl := Lib.hid hsl
    replace hOb := hOb.below hbx
    have hSb : Boxed w2 w.heap.size 28 (.slice a zs.length cap) ∧ Below w.heap.size w w2 := ⟨boxed_later hSa.1 hbx, hSa.2.trans (hbx.mono hSa.2.size)⟩
    refine hK'.out _ _ hSb fun hS1 => ?_
    clear hK' hS1 hSa hbx
    refine wpAnyH_take (i := 6) (v := ?vr26) rfl (by kernel_rfl) (by kernel_rfl) (by kernel_rfl) (fun _ _ _ h => h) (.inl ⟨by rfl, ?yr26⟩) hSb ?_
    case yr26 =>
      intro w' hS
      (clear hS)
      go_simp
      try with_reducible rfl
    refine wpAnyH_take (i := 7) (v := ?vr27) rfl (by kernel_rfl) (by kernel_rfl) (by kernel_rfl) (fun _ _ _ h => h) (.inl ⟨by rfl, ?yr27⟩) hSb ?_
    case yr27 =>
      intro w' hS
      (clear hS)
      go_simp
      try with_reducible rfl
    refine wpAnyH_done (by kernel_rfl) ?_ _
    obtain ⟨bT, hB2⟩ := hSb
    replace hOb := hOb.base (Nat.zero_le _)
    replace hvs := hvs.base (Nat.zero_le _)
    have hcn := cntL_cntN hp
    have hlb := lastSB_length zs m
    have cT := bT.cell
    obtain ⟨N, hN⟩ : ∃ N, cntN zs = N := ⟨_, rfl⟩
    have HN := Lib.hid hN
    have hN1 : 1 ≤ N ∧ N ≤ 4000 := by have := cntP_pos hp (Nat.le_refl zs.length); unfold cntL at hcn h4; omega
    obtain ⟨n1, hn1⟩ : ∃ n1, N = n1 + 1 := ⟨N - 1, by omega⟩
    have hbl := lastSB_full (m := m) hp (show cntN zs = n1 + 1 by omega)
    rw [hN] at hlb hOb ⊢
    have hcm := ho_cell hOb hlb (n := n1) (by omega)
    have hwr : IntKind.i64.wrap ((N : Int) - 1) = (n1 : Int) := by rw [IntKind.wrap_i64]; omega
    have hnl : (n1 : Int) < (N : Int) := by omega
    have Hn1 := Lib.hid hn1
    clear hN hcn hn1 hsl
    by_cases hcan : LastS zs m zs
    · rw [hbl.2 hcan] at hcm
      have Hok := Lib.hid (lpC_yes Hf.out hcan)
      clear hbl
      go_wp2_with fail
      have hmk1 : i0.bytes * N ≤ 281474976710656 := by rw [hz2]; omega
      have hmk2 : N ≤ maxLen := by unfold maxLen; omega
      have HOb := Lib.hid hOb
      have Hvs := Lib.hid hvs
      have Hlb := Lib.hid hlb
      have Hcan := Lib.hid hcan
      clear hOb hvs hlb hcm hwr hnl hcan
      refine' wp_thru3 (α := Nat) (β := Value) (γ := Nat) (fun gc vs go => { tmps := #[.agg #[.slice a zs.length cap], .int .i64 m, .pointer (some ⟨w.heap.size, 0, none⟩), undef, .slice none 0 0, .slice none 0 0, .int .i64 0, .int .i64 0, .slice (some ⟨gl, 0, none⟩) N N, .slice av sl.length cv, .slice (some ⟨gc, 0, none⟩) N N, vs, .slice (some ⟨go, 0, none⟩) 0 0, undef, undef, undef, undef, undef, undef, .agg #[.slice a zs.length cap], .int .i64 m, .int .i64 0, .int .i64 0, .bool false, undef, .agg #[.slice a zs.length cap], .int .i64 m, .slice (some ⟨gl, 0, none⟩) N N, .agg #[.slice a zs.length cap], .int .i64 m, .slice av sl.length cv, .slice (some ⟨gl, 0, none⟩) N N, .slice (some ⟨gl, 0, none⟩) N N, .int .i64 (N : Int), .int .i64 (n1 : Int), .pointer (some ⟨gl, n1, none⟩), .bool true, .bool false, .slice (some ⟨gl, 0, none⟩) N N, .int .i64 (N : Int), .slice (some ⟨gc, 0, none⟩) N N, .pointer (some ⟨w.heap.size, 0, none⟩), .slice a zs.length cap, vs, .slice (some ⟨go, 0, none⟩) 0 0, undef, undef, undef, undef, undef, undef, undef, undef, undef, undef, undef, undef, undef, undef, undef, undef, undef, undef, undef, undef, undef, undef, undef, undef, undef, undef, undef, undef, undef, undef, undef, undef, undef, undef, undef, undef, undef, undef, undef, undef, undef, undef, undef, undef, undef, undef, undef], defers := [] }) (fun gc vs go w' => Below w2.heap.size w2 w' ∧ w2.heap.size ≤ gc ∧ w2.heap.size ≤ go ∧ gc ≠ go ∧ OwnI w2.heap.size w' vs zs ∧ OwnI w2.heap.size w' (.slice (some ⟨gc, 0, none⟩) N N) (List.replicate N 0) ∧ OwnI w2.heap.size w' (.slice (some ⟨go, 0, none⟩) 0 0) [] ∧ vs.ownBlock ≠ some gc ∧ vs.ownBlock ≠ some go) _ _
      · refine wp_region_held_drew (S := fun w' => Boxed w' w.heap.size 28 (.slice a zs.length cap) ∧ Below w2.heap.size w2 w') hfw ⟨bT, (Below.refl _ _).drew⟩ ?_
        intro hS0
        refine wpAnyH_take (i := 0) (v := ?vq10) rfl (by kernel_rfl) (by kernel_rfl) (by kernel_rfl) (fun _ _ _ h => h) (.inl ⟨by first | kernel_rfl | rfl, ?yq10⟩) hS0 ?_
        case yq10 =>
          intro w' hS
          (have k1 := hS.1.cell; clear hS)
          go_simp
          try with_reducible rfl
        refine wpAnyH_take (i := 1) (v := ?vq11) rfl (by kernel_rfl) (by kernel_rfl) (by kernel_rfl) (fun _ _ _ h => h) (.inl ⟨by first | kernel_rfl | rfl, ?yq11⟩) hS0 ?_
        case yq11 =>
          intro w' hS
          (have k1 := hS.1.cell; clear hS)
          go_simp
          try with_reducible rfl
        refine wpAnyH_take (i := 3) (v := ?vq13) rfl (by kernel_rfl) (by kernel_rfl) (by kernel_rfl) (fun _ _ _ h => h) (.inl ⟨by first | kernel_rfl | rfl, ?yq13⟩) hS0 ?_
        case yq13 =>
          intro w' hS
          (have k1 := hS.1.cell; clear hS)
          go_simp
          try with_reducible rfl
        refine wpAnyH_take (i := 4) (v := ?vq14) rfl (by kernel_rfl) (by kernel_rfl) (by kernel_rfl) (fun _ _ _ h => h) (.inl ⟨by first | kernel_rfl | rfl, ?yq14⟩) hS0 ?_
        case yq14 =>
          intro w' hS
          (have k1 := hS.1.cell; clear hS)
          go_simp
          try with_reducible rfl
        try simp only [Act.put, List.getElem_toArray, List.getElem_cons_zero, List.getElem_cons_succ, List.setIfInBounds_toArray, List.set_cons_zero, List.set_cons_succ]
        obtain ⟨wd, hwd⟩ : ∃ wd, w2.drew = wd := ⟨_, rfl⟩
        rw [hwd] at hS0 ⊢
        clear hwd
        refine wpAnyH_ready (rs := [2, 5, 6]) (by kernel_rfl) (by simp) ?_
        refine AllReadyH.cons rfl (fun K' hK' => ?_) (AllReadyH.cons rfl (fun K' hK' => ?_) (AllReadyH.cons rfl (fun K' hK' => ?_) AllReadyH.nil))
        · rw [if_pos (by rfl)]
          obtain ⟨w_2, hrun, hoC0, hgr⟩ := run_make_full (P := Try.prog) wd w2.heap.size 22 2 i0 (.int .i64 0) 1 Try.underlying22 hi hz0 hz1 .i64 .i64 N hmk1 hmk2 hS0.2.size
          have hbw : Below wd.heap.size wd w_2 := (Below.refl _ _).grown hgr (Nat.le_refl _) (fun j e => by cases e)
          obtain ⟨gc, hgc⟩ : ∃ gc, wd.heap.size = gc := ⟨_, rfl⟩
          rw [hgc] at hrun hoC0
          go_simp
          refine hK'.out _ _ ⟨boxed_later hS0.1 hbw, hS0.2.trans (hbw.mono hS0.2.size)⟩ fun hS_2 => ?_
          have hgc1 : w2.heap.size ≤ gc := by rw [← hgc]; exact hS0.2.size
          have hoC := ownI_made (by rw [Nat.mul_one] at hoC0; exact hoC0)
          have hgc2 := (hoC.blk gc rfl).2
          have hs_w_2 := hbw.size
          clear hrun hoC0 hgr hbw hK'
          refine wpAnyH_ready (rs := [5, 6]) (by kernel_rfl) (by simp) ?_
          refine AllReadyH.cons rfl (fun K' hK' => ?_) (AllReadyH.cons rfl (fun K' hK' => ?_) AllReadyH.nil)
          · rw [if_pos (by rfl)]
            go_simp
            refine (l01Own_c _ zs w_2 (((hI.below hB2).below (hS_2.2.mono hB2.size)).mono (Nat.le_trans hB2.size hS_2.2.size)) (by omega) hm).mono ?_
            rintro e w_2_5 ⟨vs, rfl, hoV0, hbw⟩
            simp only [id]
            refine hK'.out _ _ ⟨boxed_later hS_2.1 hbw, hS_2.2.trans (hbw.mono hS_2.2.size)⟩ fun hS_2_5 => ?_
            have hoV := hoV0.base hS_2.2.size
            have hvb := hoV0.blk
            replace hoC := hoC.below hbw
            have hs_w_2_5 := hbw.size
            clear hoV0 hbw hK'
            refine wpAnyH_take (i := 7) (v := ?vw_2_57) rfl (by kernel_rfl) (by kernel_rfl) (by kernel_rfl) (fun _ _ _ h => h) (.inl ⟨by first | kernel_rfl | rfl, ?yw_2_57⟩) hS_2_5 ?_
            case yw_2_57 =>
              intro w' hS
              (clear hS)
              go_simp
              try with_reducible rfl
            refine wpAnyH_take (i := 8) (v := ?vw_2_58) rfl (by kernel_rfl) (by kernel_rfl) (by kernel_rfl) (fun _ _ _ h => h) (.inl ⟨by first | kernel_rfl | rfl, ?yw_2_58⟩) hS_2_5 ?_
            case yw_2_58 =>
              intro w' hS
              (clear hS)
              go_simp
              try with_reducible rfl
            try simp only [Act.put, List.getElem_toArray, List.getElem_cons_zero, List.getElem_cons_succ, List.setIfInBounds_toArray, List.set_cons_zero, List.set_cons_succ]
            refine wpAnyH_ready (rs := [6]) (by kernel_rfl) (by simp) ?_
            refine AllReadyH.cons rfl (fun K' hK' => ?_) AllReadyH.nil
            · rw [if_pos (by rfl)]
              go_simp
              obtain ⟨w_2_5_6, hw⟩ : ∃ wB, w_2_5.alloc (.cells #[] 2) = wB := ⟨_, rfl⟩
              have hbw : Below w_2_5.heap.size w_2_5 w_2_5_6 := by rw [← hw]; exact (Below.refl _ _).alloc (Nat.le_refl _) _
              have hoG0 : OwnI w_2_5.heap.size w_2_5_6 (.slice (some ⟨w_2_5.heap.size, 0, none⟩) 0 0) [] := by rw [← hw]; exact ownI_empty w_2_5
              have hoG := hoG0.base hS_2_5.2.size
              obtain ⟨go, hgo⟩ : ∃ go, w_2_5.heap.size = go := ⟨_, rfl⟩
              have hgo2 : go < w_2_5_6.heap.size := by rw [← hw, ← hgo, World.size_alloc]; omega
              rw [hw]
              rw [hgo] at hoG ⊢
              refine hK'.out _ _ ⟨boxed_later hS_2_5.1 hbw, hS_2_5.2.trans (hbw.mono hS_2_5.2.size)⟩ fun hS_2_5_6 => ?_
              have hgo1 : w2.heap.size ≤ go := by rw [← hgo]; exact hS_2_5.2.size
              replace hoC := hoC.below hbw
              replace hoV := hoV.below hbw
              have hs_w_2_5_6 := hbw.size
              clear hoG0 hw hbw hK'
              refine wpAnyH_take (i := 9) (v := ?vw_2_5_69) rfl (by kernel_rfl) (by kernel_rfl) (by kernel_rfl) (fun _ _ _ h => h) (.inl ⟨by first | kernel_rfl | rfl, ?yw_2_5_69⟩) hS_2_5_6 ?_
              case yw_2_5_69 =>
                intro w' hS
                (clear hS)
                go_simp
                try with_reducible rfl
              try simp only [Act.put, List.getElem_toArray, List.getElem_cons_zero, List.getElem_cons_succ, List.setIfInBounds_toArray, List.set_cons_zero, List.set_cons_succ]
              refine wpAnyH_done (by kernel_rfl) ?_ _
              refine ⟨gc, vs, go, ?_, hS_2_5_6.2, hgc1, hgo1, by omega, hoV, hoC, hoG, fun e => by have := hvb gc e; omega, fun e => by have := hvb go e; omega⟩
              first | (go_simp; done) | (go_simp; exact rfl)
          · rw [if_pos (by rfl)]
            go_simp
            obtain ⟨w_2_6, hw⟩ : ∃ wB, w_2.alloc (.cells #[] 2) = wB := ⟨_, rfl⟩
            have hbw : Below w_2.heap.size w_2 w_2_6 := by rw [← hw]; exact (Below.refl _ _).alloc (Nat.le_refl _) _
            have hoG0 : OwnI w_2.heap.size w_2_6 (.slice (some ⟨w_2.heap.size, 0, none⟩) 0 0) [] := by rw [← hw]; exact ownI_empty w_2
            have hoG := hoG0.base hS_2.2.size
            obtain ⟨go, hgo⟩ : ∃ go, w_2.heap.size = go := ⟨_, rfl⟩
            have hgo2 : go < w_2_6.heap.size := by rw [← hw, ← hgo, World.size_alloc]; omega
            rw [hw]
            rw [hgo] at hoG ⊢
            refine hK'.out _ _ ⟨boxed_later hS_2.1 hbw, hS_2.2.trans (hbw.mono hS_2.2.size)⟩ fun hS_2_6 => ?_
            have hgo1 : w2.heap.size ≤ go := by rw [← hgo]; exact hS_2.2.size
            replace hoC := hoC.below hbw
            have hs_w_2_6 := hbw.size
            clear hoG0 hw hbw hK'
            refine wpAnyH_ready (rs := [5]) (by kernel_rfl) (by simp) ?_
            refine AllReadyH.cons rfl (fun K' hK' => ?_) AllReadyH.nil
            · rw [if_pos (by rfl)]
              go_simp
              refine (l01Own_c _ zs w_2_6 (((hI.below hB2).below (hS_2_6.2.mono hB2.size)).mono (Nat.le_trans hB2.size hS_2_6.2.size)) (by omega) hm).mono ?_
              rintro e w_2_6_5 ⟨vs, rfl, hoV0, hbw⟩
              simp only [id]
              refine hK'.out _ _ ⟨boxed_later hS_2_6.1 hbw, hS_2_6.2.trans (hbw.mono hS_2_6.2.size)⟩ fun hS_2_6_5 => ?_
              have hoV := hoV0.base hS_2_6.2.size
              have hvb := hoV0.blk
              replace hoC := hoC.below hbw
              replace hoG := hoG.below hbw
              have hs_w_2_6_5 := hbw.size
              clear hoV0 hbw hK'
              refine wpAnyH_take (i := 7) (v := ?vw_2_6_57) rfl (by kernel_rfl) (by kernel_rfl) (by kernel_rfl) (fun _ _ _ h => h) (.inl ⟨by first | kernel_rfl | rfl, ?yw_2_6_57⟩) hS_2_6_5 ?_
              case yw_2_6_57 =>
                intro w' hS
                (clear hS)
                go_simp
                try with_reducible rfl
              refine wpAnyH_take (i := 8) (v := ?vw_2_6_58) rfl (by kernel_rfl) (by kernel_rfl) (by kernel_rfl) (fun _ _ _ h => h) (.inl ⟨by first | kernel_rfl | rfl, ?yw_2_6_58⟩) hS_2_6_5 ?_
              case yw_2_6_58 =>
                intro w' hS
                (clear hS)
                go_simp
                try with_reducible rfl
              refine wpAnyH_take (i := 9) (v := ?vw_2_6_59) rfl (by kernel_rfl) (by kernel_rfl) (by kernel_rfl) (fun _ _ _ h => h) (.inl ⟨by first | kernel_rfl | rfl, ?yw_2_6_59⟩) hS_2_6_5 ?_
              case yw_2_6_59 =>
                intro w' hS
                (clear hS)
                go_simp
                try with_reducible rfl
              try simp only [Act.put, List.getElem_toArray, List.getElem_cons_zero, List.getElem_cons_succ, List.setIfInBounds_toArray, List.set_cons_zero, List.set_cons_succ]
              refine wpAnyH_done (by kernel_rfl) ?_ _
              refine ⟨gc, vs, go, ?_, hS_2_6_5.2, hgc1, hgo1, by omega, hoV, hoC, hoG, fun e => by have := hvb gc e; omega, fun e => by have := hvb go e; omega⟩
              first | (go_simp; done) | (go_simp; exact rfl)
        · rw [if_pos (by rfl)]
          go_simp
          refine (l01Own_c _ zs wd (((hI.below hB2).below (hS0.2.mono hB2.size)).mono (Nat.le_trans hB2.size hS0.2.size)) (by omega) hm).mono ?_
          rintro e w_5 ⟨vs, rfl, hoV0, hbw⟩
          simp only [id]
          refine hK'.out _ _ ⟨boxed_later hS0.1 hbw, hS0.2.trans (hbw.mono hS0.2.size)⟩ fun hS_5 => ?_
          have hoV := hoV0.base hS0.2.size
          have hvb := hoV0.blk
          have hs_w_5 := hbw.size
          clear hoV0 hbw hK'
          refine wpAnyH_ready (rs := [2, 6]) (by kernel_rfl) (by simp) ?_
          refine AllReadyH.cons rfl (fun K' hK' => ?_) (AllReadyH.cons rfl (fun K' hK' => ?_) AllReadyH.nil)
          · rw [if_pos (by rfl)]
            obtain ⟨w_5_2, hrun, hoC0, hgr⟩ := run_make_full (P := Try.prog) w_5 w2.heap.size 22 2 i0 (.int .i64 0) 1 Try.underlying22 hi hz0 hz1 .i64 .i64 N hmk1 hmk2 hS_5.2.size
            have hbw : Below w_5.heap.size w_5 w_5_2 := (Below.refl _ _).grown hgr (Nat.le_refl _) (fun j e => by cases e)
            obtain ⟨gc, hgc⟩ : ∃ gc, w_5.heap.size = gc := ⟨_, rfl⟩
            rw [hgc] at hrun hoC0
            go_simp
            refine hK'.out _ _ ⟨boxed_later hS_5.1 hbw, hS_5.2.trans (hbw.mono hS_5.2.size)⟩ fun hS_5_2 => ?_
            have hgc1 : w2.heap.size ≤ gc := by rw [← hgc]; exact hS_5.2.size
            have hoC := ownI_made (by rw [Nat.mul_one] at hoC0; exact hoC0)
            have hgc2 := (hoC.blk gc rfl).2
            replace hoV := hoV.below hbw
            have hs_w_5_2 := hbw.size
            clear hrun hoC0 hgr hbw hK'
            refine wpAnyH_take (i := 7) (v := ?vw_5_27) rfl (by kernel_rfl) (by kernel_rfl) (by kernel_rfl) (fun _ _ _ h => h) (.inl ⟨by first | kernel_rfl | rfl, ?yw_5_27⟩) hS_5_2 ?_
            case yw_5_27 =>
              intro w' hS
              (clear hS)
              go_simp
              try with_reducible rfl
            refine wpAnyH_take (i := 8) (v := ?vw_5_28) rfl (by kernel_rfl) (by kernel_rfl) (by kernel_rfl) (fun _ _ _ h => h) (.inl ⟨by first | kernel_rfl | rfl, ?yw_5_28⟩) hS_5_2 ?_
            case yw_5_28 =>
              intro w' hS
              (clear hS)
              go_simp
              try with_reducible rfl
            try simp only [Act.put, List.getElem_toArray, List.getElem_cons_zero, List.getElem_cons_succ, List.setIfInBounds_toArray, List.set_cons_zero, List.set_cons_succ]
            refine wpAnyH_ready (rs := [6]) (by kernel_rfl) (by simp) ?_
            refine AllReadyH.cons rfl (fun K' hK' => ?_) AllReadyH.nil
            · rw [if_pos (by rfl)]
              go_simp
              obtain ⟨w_5_2_6, hw⟩ : ∃ wB, w_5_2.alloc (.cells #[] 2) = wB := ⟨_, rfl⟩
              have hbw : Below w_5_2.heap.size w_5_2 w_5_2_6 := by rw [← hw]; exact (Below.refl _ _).alloc (Nat.le_refl _) _
              have hoG0 : OwnI w_5_2.heap.size w_5_2_6 (.slice (some ⟨w_5_2.heap.size, 0, none⟩) 0 0) [] := by rw [← hw]; exact ownI_empty w_5_2
              have hoG := hoG0.base hS_5_2.2.size
              obtain ⟨go, hgo⟩ : ∃ go, w_5_2.heap.size = go := ⟨_, rfl⟩
              have hgo2 : go < w_5_2_6.heap.size := by rw [← hw, ← hgo, World.size_alloc]; omega
              rw [hw]
              rw [hgo] at hoG ⊢
              refine hK'.out _ _ ⟨boxed_later hS_5_2.1 hbw, hS_5_2.2.trans (hbw.mono hS_5_2.2.size)⟩ fun hS_5_2_6 => ?_
              have hgo1 : w2.heap.size ≤ go := by rw [← hgo]; exact hS_5_2.2.size
              replace hoC := hoC.below hbw
              replace hoV := hoV.below hbw
              have hs_w_5_2_6 := hbw.size
              clear hoG0 hw hbw hK'
              refine wpAnyH_take (i := 9) (v := ?vw_5_2_69) rfl (by kernel_rfl) (by kernel_rfl) (by kernel_rfl) (fun _ _ _ h => h) (.inl ⟨by first | kernel_rfl | rfl, ?yw_5_2_69⟩) hS_5_2_6 ?_
              case yw_5_2_69 =>
                intro w' hS
                (clear hS)
                go_simp
                try with_reducible rfl
              try simp only [Act.put, List.getElem_toArray, List.getElem_cons_zero, List.getElem_cons_succ, List.setIfInBounds_toArray, List.set_cons_zero, List.set_cons_succ]
              refine wpAnyH_done (by kernel_rfl) ?_ _
              refine ⟨gc, vs, go, ?_, hS_5_2_6.2, hgc1, hgo1, by omega, hoV, hoC, hoG, fun e => by have := hvb gc e; omega, fun e => by have := hvb go e; omega⟩
              first | (go_simp; done) | (go_simp; exact rfl)
          · rw [if_pos (by rfl)]
            go_simp
            obtain ⟨w_5_6, hw⟩ : ∃ wB, w_5.alloc (.cells #[] 2) = wB := ⟨_, rfl⟩
            have hbw : Below w_5.heap.size w_5 w_5_6 := by rw [← hw]; exact (Below.refl _ _).alloc (Nat.le_refl _) _
            have hoG0 : OwnI w_5.heap.size w_5_6 (.slice (some ⟨w_5.heap.size, 0, none⟩) 0 0) [] := by rw [← hw]; exact ownI_empty w_5
            have hoG := hoG0.base hS_5.2.size
            obtain ⟨go, hgo⟩ : ∃ go, w_5.heap.size = go := ⟨_, rfl⟩
            have hgo2 : go < w_5_6.heap.size := by rw [← hw, ← hgo, World.size_alloc]; omega
            rw [hw]
            rw [hgo] at hoG ⊢
            refine hK'.out _ _ ⟨boxed_later hS_5.1 hbw, hS_5.2.trans (hbw.mono hS_5.2.size)⟩ fun hS_5_6 => ?_
            have hgo1 : w2.heap.size ≤ go := by rw [← hgo]; exact hS_5.2.size
            replace hoV := hoV.below hbw
            have hs_w_5_6 := hbw.size
            clear hoG0 hw hbw hK'
            refine wpAnyH_ready (rs := [2]) (by kernel_rfl) (by simp) ?_
            refine AllReadyH.cons rfl (fun K' hK' => ?_) AllReadyH.nil
            · rw [if_pos (by rfl)]
              obtain ⟨w_5_6_2, hrun, hoC0, hgr⟩ := run_make_full (P := Try.prog) w_5_6 w2.heap.size 22 2 i0 (.int .i64 0) 1 Try.underlying22 hi hz0 hz1 .i64 .i64 N hmk1 hmk2 hS_5_6.2.size
              have hbw : Below w_5_6.heap.size w_5_6 w_5_6_2 := (Below.refl _ _).grown hgr (Nat.le_refl _) (fun j e => by cases e)
              obtain ⟨gc, hgc⟩ : ∃ gc, w_5_6.heap.size = gc := ⟨_, rfl⟩
              rw [hgc] at hrun hoC0
              go_simp
              refine hK'.out _ _ ⟨boxed_later hS_5_6.1 hbw, hS_5_6.2.trans (hbw.mono hS_5_6.2.size)⟩ fun hS_5_6_2 => ?_
              have hgc1 : w2.heap.size ≤ gc := by rw [← hgc]; exact hS_5_6.2.size
              have hoC := ownI_made (by rw [Nat.mul_one] at hoC0; exact hoC0)
              have hgc2 := (hoC.blk gc rfl).2
              replace hoV := hoV.below hbw
              replace hoG := hoG.below hbw
              have hs_w_5_6_2 := hbw.size
              clear hrun hoC0 hgr hbw hK'
              refine wpAnyH_take (i := 7) (v := ?vw_5_6_27) rfl (by kernel_rfl) (by kernel_rfl) (by kernel_rfl) (fun _ _ _ h => h) (.inl ⟨by first | kernel_rfl | rfl, ?yw_5_6_27⟩) hS_5_6_2 ?_
              case yw_5_6_27 =>
                intro w' hS
                (clear hS)
                go_simp
                try with_reducible rfl
              refine wpAnyH_take (i := 8) (v := ?vw_5_6_28) rfl (by kernel_rfl) (by kernel_rfl) (by kernel_rfl) (fun _ _ _ h => h) (.inl ⟨by first | kernel_rfl | rfl, ?yw_5_6_28⟩) hS_5_6_2 ?_
              case yw_5_6_28 =>
                intro w' hS
                (clear hS)
                go_simp
                try with_reducible rfl
              refine wpAnyH_take (i := 9) (v := ?vw_5_6_29) rfl (by kernel_rfl) (by kernel_rfl) (by kernel_rfl) (fun _ _ _ h => h) (.inl ⟨by first | kernel_rfl | rfl, ?yw_5_6_29⟩) hS_5_6_2 ?_
              case yw_5_6_29 =>
                intro w' hS
                (clear hS)
                go_simp
                try with_reducible rfl
              try simp only [Act.put, List.getElem_toArray, List.getElem_cons_zero, List.getElem_cons_succ, List.setIfInBounds_toArray, List.set_cons_zero, List.set_cons_succ]
              refine wpAnyH_done (by kernel_rfl) ?_ _
              refine ⟨gc, vs, go, ?_, hS_5_6_2.2, hgc1, hgo1, by omega, hoV, hoC, hoG, fun e => by have := hvb gc e; omega, fun e => by have := hvb go e; omega⟩
              first | (go_simp; done) | (go_simp; exact rfl)
        · rw [if_pos (by rfl)]
          go_simp
          obtain ⟨w_6, hw⟩ : ∃ wB, wd.alloc (.cells #[] 2) = wB := ⟨_, rfl⟩
          have hbw : Below wd.heap.size wd w_6 := by rw [← hw]; exact (Below.refl _ _).alloc (Nat.le_refl _) _
          have hoG0 : OwnI wd.heap.size w_6 (.slice (some ⟨wd.heap.size, 0, none⟩) 0 0) [] := by rw [← hw]; exact ownI_empty wd
          have hoG := hoG0.base hS0.2.size
          obtain ⟨go, hgo⟩ : ∃ go, wd.heap.size = go := ⟨_, rfl⟩
          have hgo2 : go < w_6.heap.size := by rw [← hw, ← hgo, World.size_alloc]; omega
          rw [hw]
          rw [hgo] at hoG ⊢
          refine hK'.out _ _ ⟨boxed_later hS0.1 hbw, hS0.2.trans (hbw.mono hS0.2.size)⟩ fun hS_6 => ?_
          have hgo1 : w2.heap.size ≤ go := by rw [← hgo]; exact hS0.2.size
          have hs_w_6 := hbw.size
          clear hoG0 hw hbw hK'
          refine wpAnyH_ready (rs := [2, 5]) (by kernel_rfl) (by simp) ?_
          refine AllReadyH.cons rfl (fun K' hK' => ?_) (AllReadyH.cons rfl (fun K' hK' => ?_) AllReadyH.nil)
          · rw [if_pos (by rfl)]
            obtain ⟨w_6_2, hrun, hoC0, hgr⟩ := run_make_full (P := Try.prog) w_6 w2.heap.size 22 2 i0 (.int .i64 0) 1 Try.underlying22 hi hz0 hz1 .i64 .i64 N hmk1 hmk2 hS_6.2.size
            have hbw : Below w_6.heap.size w_6 w_6_2 := (Below.refl _ _).grown hgr (Nat.le_refl _) (fun j e => by cases e)
            obtain ⟨gc, hgc⟩ : ∃ gc, w_6.heap.size = gc := ⟨_, rfl⟩
            rw [hgc] at hrun hoC0
            go_simp
            refine hK'.out _ _ ⟨boxed_later hS_6.1 hbw, hS_6.2.trans (hbw.mono hS_6.2.size)⟩ fun hS_6_2 => ?_
            have hgc1 : w2.heap.size ≤ gc := by rw [← hgc]; exact hS_6.2.size
            have hoC := ownI_made (by rw [Nat.mul_one] at hoC0; exact hoC0)
            have hgc2 := (hoC.blk gc rfl).2
            replace hoG := hoG.below hbw
            have hs_w_6_2 := hbw.size
            clear hrun hoC0 hgr hbw hK'
            refine wpAnyH_ready (rs := [5]) (by kernel_rfl) (by simp) ?_
            refine AllReadyH.cons rfl (fun K' hK' => ?_) AllReadyH.nil
            · rw [if_pos (by rfl)]
              go_simp
              refine (l01Own_c _ zs w_6_2 (((hI.below hB2).below (hS_6_2.2.mono hB2.size)).mono (Nat.le_trans hB2.size hS_6_2.2.size)) (by omega) hm).mono ?_
              rintro e w_6_2_5 ⟨vs, rfl, hoV0, hbw⟩
              simp only [id]
              refine hK'.out _ _ ⟨boxed_later hS_6_2.1 hbw, hS_6_2.2.trans (hbw.mono hS_6_2.2.size)⟩ fun hS_6_2_5 => ?_
              have hoV := hoV0.base hS_6_2.2.size
              have hvb := hoV0.blk
              replace hoC := hoC.below hbw
              replace hoG := hoG.below hbw
              have hs_w_6_2_5 := hbw.size
              clear hoV0 hbw hK'
              refine wpAnyH_take (i := 7) (v := ?vw_6_2_57) rfl (by kernel_rfl) (by kernel_rfl) (by kernel_rfl) (fun _ _ _ h => h) (.inl ⟨by first | kernel_rfl | rfl, ?yw_6_2_57⟩) hS_6_2_5 ?_
              case yw_6_2_57 =>
                intro w' hS
                (clear hS)
                go_simp
                try with_reducible rfl
              refine wpAnyH_take (i := 8) (v := ?vw_6_2_58) rfl (by kernel_rfl) (by kernel_rfl) (by kernel_rfl) (fun _ _ _ h => h) (.inl ⟨by first | kernel_rfl | rfl, ?yw_6_2_58⟩) hS_6_2_5 ?_
              case yw_6_2_58 =>
                intro w' hS
                (clear hS)
                go_simp
                try with_reducible rfl
              refine wpAnyH_take (i := 9) (v := ?vw_6_2_59) rfl (by kernel_rfl) (by kernel_rfl) (by kernel_rfl) (fun _ _ _ h => h) (.inl ⟨by first | kernel_rfl | rfl, ?yw_6_2_59⟩) hS_6_2_5 ?_
              case yw_6_2_59 =>
                intro w' hS
                (clear hS)
                go_simp
                try with_reducible rfl
              try simp only [Act.put, List.getElem_toArray, List.getElem_cons_zero, List.getElem_cons_succ, List.setIfInBounds_toArray, List.set_cons_zero, List.set_cons_succ]
              refine wpAnyH_done (by kernel_rfl) ?_ _
              refine ⟨gc, vs, go, ?_, hS_6_2_5.2, hgc1, hgo1, by omega, hoV, hoC, hoG, fun e => by have := hvb gc e; omega, fun e => by have := hvb go e; omega⟩
              first | (go_simp; done) | (go_simp; exact rfl)
          · rw [if_pos (by rfl)]
            go_simp
            refine (l01Own_c _ zs w_6 (((hI.below hB2).below (hS_6.2.mono hB2.size)).mono (Nat.le_trans hB2.size hS_6.2.size)) (by omega) hm).mono ?_
            rintro e w_6_5 ⟨vs, rfl, hoV0, hbw⟩
            simp only [id]
            refine hK'.out _ _ ⟨boxed_later hS_6.1 hbw, hS_6.2.trans (hbw.mono hS_6.2.size)⟩ fun hS_6_5 => ?_
            have hoV := hoV0.base hS_6.2.size
            have hvb := hoV0.blk
            replace hoG := hoG.below hbw
            have hs_w_6_5 := hbw.size
            clear hoV0 hbw hK'
            refine wpAnyH_ready (rs := [2]) (by kernel_rfl) (by simp) ?_
            refine AllReadyH.cons rfl (fun K' hK' => ?_) AllReadyH.nil
            · rw [if_pos (by rfl)]
              obtain ⟨w_6_5_2, hrun, hoC0, hgr⟩ := run_make_full (P := Try.prog) w_6_5 w2.heap.size 22 2 i0 (.int .i64 0) 1 Try.underlying22 hi hz0 hz1 .i64 .i64 N hmk1 hmk2 hS_6_5.2.size
              have hbw : Below w_6_5.heap.size w_6_5 w_6_5_2 := (Below.refl _ _).grown hgr (Nat.le_refl _) (fun j e => by cases e)
              obtain ⟨gc, hgc⟩ : ∃ gc, w_6_5.heap.size = gc := ⟨_, rfl⟩
              rw [hgc] at hrun hoC0
              go_simp
              refine hK'.out _ _ ⟨boxed_later hS_6_5.1 hbw, hS_6_5.2.trans (hbw.mono hS_6_5.2.size)⟩ fun hS_6_5_2 => ?_
              have hgc1 : w2.heap.size ≤ gc := by rw [← hgc]; exact hS_6_5.2.size
              have hoC := ownI_made (by rw [Nat.mul_one] at hoC0; exact hoC0)
              have hgc2 := (hoC.blk gc rfl).2
              replace hoV := hoV.below hbw
              replace hoG := hoG.below hbw
              have hs_w_6_5_2 := hbw.size
              clear hrun hoC0 hgr hbw hK'
              refine wpAnyH_take (i := 7) (v := ?vw_6_5_27) rfl (by kernel_rfl) (by kernel_rfl) (by kernel_rfl) (fun _ _ _ h => h) (.inl ⟨by first | kernel_rfl | rfl, ?yw_6_5_27⟩) hS_6_5_2 ?_
              case yw_6_5_27 =>
                intro w' hS
                (clear hS)
                go_simp
                try with_reducible rfl
              refine wpAnyH_take (i := 8) (v := ?vw_6_5_28) rfl (by kernel_rfl) (by kernel_rfl) (by kernel_rfl) (fun _ _ _ h => h) (.inl ⟨by first | kernel_rfl | rfl, ?yw_6_5_28⟩) hS_6_5_2 ?_
              case yw_6_5_28 =>
                intro w' hS
                (clear hS)
                go_simp
                try with_reducible rfl
              refine wpAnyH_take (i := 9) (v := ?vw_6_5_29) rfl (by kernel_rfl) (by kernel_rfl) (by kernel_rfl) (fun _ _ _ h => h) (.inl ⟨by first | kernel_rfl | rfl, ?yw_6_5_29⟩) hS_6_5_2 ?_
              case yw_6_5_29 =>
                intro w' hS
                (clear hS)
                go_simp
                try with_reducible rfl
              try simp only [Act.put, List.getElem_toArray, List.getElem_cons_zero, List.getElem_cons_succ, List.setIfInBounds_toArray, List.set_cons_zero, List.set_cons_succ]
              refine wpAnyH_done (by kernel_rfl) ?_ _
              refine ⟨gc, vs, go, ?_, hS_6_5_2.2, hgc1, hgo1, by omega, hoV, hoC, hoG, fun e => by have := hvb gc e; omega, fun e => by have := hvb go e; omega⟩
              first | (go_simp; done) | (go_simp; exact rfl)
      · rintro gc vs go w3 ⟨hB3, hgc, hgo, hne, hoV, hoC, hoG, hv1, hv2⟩
        have bT3 := boxed_later bT hB3
        have hB4 := hB2.trans (hB3.mono hB2.size)
        have hs2 := hB2.size
        have hgcl := (hoC.blk gc rfl).2
        have hbt2 := bT.lt
        go_wp2_with fail
        go_loopw [47] (fun i wr => ∃ k : Nat, k ≤ N ∧ i = .int .i64 k ∧ OwnI w2.heap.size wr (.slice (some ⟨gc, 0, none⟩) N N) (fillM N k) ∧ OwnI w2.heap.size wr vs zs ∧ OwnI w2.heap.size wr (.slice (some ⟨go, 0, none⟩) 0 0) [] ∧ Boxed wr w.heap.size 28 (.slice a zs.length cap) ∧ Below w2.heap.size w2 wr) (fun i _ => N - (intOf i).toNat)
        case atStart => exact ⟨0, Nat.zero_le _, rfl, by rw [fillM_zero]; exact hoC, hoV, hoG, bT3, hB3⟩
        case round =>
          obtain ⟨k, hk, rfl, hoC2, hoV2, hoG2, bT4, hB5⟩ := hrel
          clear hoC hoV hoG bT3 hB3 hB4
          by_cases hlt : k < N
          · have hc := hoC2.cellAt (j := k) (by rw [fillM_length]; exact hlt)
            have hz := hoC2.frozen k
            have hst := hoC2.stored k (-1)
            rw [fillM_set] at hst
            have Hst := Lib.hid hst.1
            have hgr := hst.2
            clear hst
            have hoV3 := hoV2.kept hgr (.inr hv1)
            have hoG3 := hoG2.kept hgr (.inr (by show some go ≠ some gc; simp; omega))
            have bT5 := bT4.kept hgr (by simp; omega)
            have hB6 := hB5.setCell (p := ⟨gc, k, none⟩) hgc (.int .i64 (-1))
            go_wp2
            exact ⟨⟨k + 1, by omega, by simp, Hst.out, hoV3, hoG3, bT5, hB6⟩, by simp [intOf]; omega⟩
          · obtain rfl : k = N := by omega
            have hcam : OwnI w2.heap.size wr (.slice (some ⟨gc, 0, none⟩) k k) (camP zs m 0) := by
              unfold camP; rw [HN.out, ← fillM_all]; exact hoC2
            clear hoC2
            have hcap : CapOk (.slice (some ⟨go, 0, none⟩) 0 0) 0 := ⟨_, _, rfl, Nat.le_refl _, Nat.zero_le _⟩
            go_wp2_with fail
            go_loopw [11, 12] (fun sv cv wr => ∃ (n g c : Nat), cv = .slice (some ⟨g, 0, none⟩) n c ∧ FreshP zs m n ∧ OwnI w2.heap.size wr sv (stP zs m n) ∧ OwnI w2.heap.size wr (.slice (some ⟨g, 0, none⟩) n c) (chsP zs m n) ∧ OwnI w2.heap.size wr (.slice (some ⟨gc, 0, none⟩) k k) (camP zs m n) ∧ sv.ownBlock ≠ some gc ∧ g ≠ gc ∧ sv.ownBlock ≠ some g ∧ Boxed wr w.heap.size 28 (.slice a zs.length cap) ∧ Below w2.heap.size w2 wr) (fun _ cv _ => k + 1 - lenV cv)
            case atStart => exact ⟨0, go, 0, rfl, fun i j h1 h2 => by omega, hoV2, hoG2, hcam, hv1, by omega, hv2, bT4, hB5⟩
            case round =>
              clear hoV2 hoG2 hcam bT4 hB5 hv1 hv2 hcap
              obtain ⟨n, g, c, rfl, hfr, hoS, hoG, hoC, hs1', hgne, hs2', bT5, hB6⟩ := hrel
              have hBw := hB2.trans (hB6.mono hB2.size)
              have hbd := freshP_bound hp Hcan.out hfr
              rw [HN.out] at hbd
              obtain ⟨hst, hla⟩ := stP_ok hp Hcan.out n
              have hcase := camP_case hp Hcan.out hfr
              obtain ⟨q, hq1, hq2, _⟩ := num_nat hp hst
              rw [HN.out] at hq2
              have hcamq := hoC.cellAt (j := q) (by rw [camP_length, HN.out]; exact hq2)
              rw [hq1] at hcase
              simp only [Int.toNat_natCast] at hcase
              have Hq1 := Lib.hid hq1
              have Hst := Lib.hid hst
              have Hla := Lib.hid hla
              have Hfr := Lib.hid hfr
              have cT := bT5.cell
              obtain ⟨cq, hcq⟩ : ∃ cq, nth (camP zs m n) q = cq := ⟨_, rfl⟩
              rw [hcq] at hcamq hcase
              have Hcase := Lib.hid hcase
              obtain ⟨sa, sc, hse⟩ := hoS.ints.shape
              have hsl := hst.1
              rw [hsl] at hse
              subst hse
              clear hq1 hst hla hfr hcq hcase
              go_wp2_with fail
              refine (l02Number_c _ zs _ (stP zs m n) _ (hI.later hBw) ht hoS.ints Hst.out).mono ?_
              rintro e w4 ⟨rfl, hb⟩
              rw [Hq1.out]
              have hB7 := hB6.trans (hb.mono hB6.size)
              have hoS2 := hoS.below hb
              have hoG2 := hoG.below hb
              have hoC2 := hoC.below hb
              have hs6 := hB7.size
              replace bT5 := boxed_later bT5 hb
              have hcamq2 := (hb.cell (p := ⟨gc, q, none⟩) (hoC.blk gc rfl).2).trans hcamq
              clear hoS hoG hoC hb hB6 hBw cT hcamq
              rcases Hcase.out with ⟨ia, hia, hag, rfl⟩ | ⟨hfn, rfl⟩
              · obtain ⟨e1, e2⟩ := lp_again Hok.out hag
                have He1 := Lib.hid e1
                have He2 := Lib.hid e2
                have hcl := chsP_length zs m n
                have hI3 : Ints w4.heap.size w4 (.slice (some ⟨g, 0, none⟩) (chsP zs m n).length c) (chsP zs m n) := by have := hoG2.ints; rwa [hcl]
                have hcc : n ≤ c := by
                  obtain ⟨_, c2, e3, h5, _⟩ := hoG2.capOk
                  injection e3 with e4 e5 e6
                  rw [hcl] at h5; rw [e6]; exact h5
                have htk : Ints w4.heap.size w4 (.slice (some ⟨g, 0, none⟩) ((chsP zs m n).take ia).length c) ((chsP zs m n).take ia) := by
                  have := ints_take hI3 (n := ia) (by omega)
                  rwa [show ((chsP zs m n).take ia).length = ia by simp; omega]
                have hdr : Ints w4.heap.size w4 (.slice (some ⟨g, ia, none⟩) ((chsP zs m n).drop ia).length (c - ia)) ((chsP zs m n).drop ia) := by
                  have := ints_drop hI3 (n := ia) (by omega)
                  simpa using this
                have l1 : ((chsP zs m n).take ia).length = ia := by simp; omega
                have l2 : ((chsP zs m n).drop ia).length = n - ia := by simp [hcl]
                have hiac : ia ≤ c := by omega
                have hian : ia ≤ n := by omega
                have hca : ¬ c = ia := by omega
                have hb4 : n ≤ 1048576 := by omega
                clear hcl hI3 e1 e2 hag
                go_wp2_with fail
                refine wp_region_held_drew (S := fun w' => Below w4.heap.size w4 w') hfw ((Below.refl _ _).drew) ?_
                intro hS0
                refine wpAnyH_take (i := 0) (v := ?vr0) rfl (by kernel_rfl) (by kernel_rfl) (by kernel_rfl) (fun _ _ _ h => h) (.inl ⟨by rfl, ?yr0⟩) hS0 ?_
                case yr0 =>
                  intro w' hS
                  (clear hS)
                  go_simp
                  try with_reducible rfl
                refine wpAnyH_take (i := 1) (v := ?vr1) rfl (by kernel_rfl) (by kernel_rfl) (by kernel_rfl) (fun _ _ _ h => h) (.inl ⟨by rfl, ?yr1⟩) hS0 ?_
                case yr1 =>
                  intro w' hS
                  (clear hS)
                  go_simp
                  try with_reducible rfl
                refine wpAnyH_take (i := 2) (v := ?vr2) rfl (by kernel_rfl) (by kernel_rfl) (by kernel_rfl) (fun _ _ _ h => h) (.inl ⟨by rfl, ?yr2⟩) hS0 ?_
                case yr2 =>
                  intro w' hS
                  (clear hS)
                  go_simp
                  try with_reducible rfl
                refine wpAnyH_take (i := 4) (v := ?vr4) rfl (by kernel_rfl) (by kernel_rfl) (by kernel_rfl) (fun _ _ _ h => h) (.inl ⟨by rfl, ?yr4⟩) hS0 ?_
                case yr4 =>
                  intro w' hS
                  (clear hS)
                  go_simp
                  try with_reducible rfl
                refine wpAnyH_take (i := 5) (v := ?vr5) rfl (by kernel_rfl) (by kernel_rfl) (by kernel_rfl) (fun _ _ _ h => h) (.inl ⟨by rfl, ?yr5⟩) hS0 ?_
                case yr5 =>
                  intro w' hS
                  (clear hS)
                  go_simp
                  try with_reducible rfl
                refine wpAnyH_take (i := 6) (v := ?vr6) rfl (by kernel_rfl) (by kernel_rfl) (by kernel_rfl) (fun _ _ _ h => h) (.inl ⟨by rfl, ?yr6⟩) hS0 ?_
                case yr6 =>
                  intro w' hS
                  (clear hS)
                  go_simp
                  try with_reducible rfl
                refine wpAnyH_ready (rs := [3]) (by kernel_rfl) (by simp) ?_
                refine AllReadyH.cons rfl (fun K' hK' => ?_) AllReadyH.nil
                rw [if_pos (by rfl)]
                go_simp
                have hc1 := l01OwnS_c g 0 c ((chsP zs m n).take ia) w4.drew htk (by omega)
                rw [l1] at hc1
                refine hc1.mono ?_
                rintro e w5 ⟨v1, rfl, ho1, hb5⟩
                simp only [id]
                have hB8 : Below w4.heap.size w4 w5 := hS0.trans (hb5.mono hS0.size)
                refine hK'.out _ _ hB8 fun hS1 => ?_
                clear hK' hc1
                refine wpAnyH_ready (rs := [7]) (by kernel_rfl) (by simp) ?_
                refine AllReadyH.cons rfl (fun K' hK' => ?_) AllReadyH.nil
                rw [if_pos (by rfl)]
                go_simp
                have hc2 := l01OwnS_c g ia (c - ia) ((chsP zs m n).drop ia) w5 (hdr.later hB8) (by omega)
                rw [l2] at hc2
                refine hc2.mono ?_
                rintro e w6 ⟨v2, rfl, ho2, hb6⟩
                simp only [id]
                have hB9 : Below w4.heap.size w4 w6 := hB8.trans (hb6.mono hB8.size)
                refine hK'.out _ _ hB9 fun hS2 => ?_
                clear hK' hc2
                refine wpAnyH_take (i := 8) (v := ?vz8) rfl (by kernel_rfl) (by kernel_rfl) (by kernel_rfl) (fun _ _ _ h => h) (.inl ⟨by rfl, ?yz8⟩) hS2 ?_
                case yz8 =>
                  intro w' hS
                  (clear hS)
                  go_simp
                  try with_reducible rfl
                refine wpAnyH_take (i := 9) (v := ?vz9) rfl (by kernel_rfl) (by kernel_rfl) (by kernel_rfl) (fun _ _ _ h => h) (.inl ⟨by rfl, ?yz9⟩) hS2 ?_
                case yz9 =>
                  intro w' hS
                  (clear hS)
                  go_simp
                  try with_reducible rfl
                refine wpAnyH_take (i := 10) (v := ?vz10) rfl (by kernel_rfl) (by kernel_rfl) (by kernel_rfl) (fun _ _ _ h => h) (.inl ⟨by rfl, ?yz10⟩) hS2 ?_
                case yz10 =>
                  intro w' hS
                  (clear hS)
                  go_simp
                  try with_reducible rfl
                refine wpAnyH_done (by kernel_rfl) ?_ _
                have g2 := Seg.new ho2
                have g1 := (Seg.new ho1).below hb6
                have h5s := hB8.size
                have hBf : Below w.heap.size w w6 := hB2.trans ((hB7.trans (hB9.mono hB7.size)).mono hB2.size)
                clear hb5 hb6 ho1 ho2 hS0 hS1 hS2 htk hdr
                go_wp2
                go_ret3
                exact ⟨v2, v1, w5.heap.size, by rw [Hok.out]; rfl, by rw [He2.out]; exact g2, by rw [He1.out]; exact ⟨g1.own.base (by show w.heap.size ≤ w4.heap.size; omega), g1.top, g1.le⟩, by omega, hBf⟩
              · have Hcam : Hid (camP zs m (n + 1) = (camP zs m n).set q (n : Int)) := Lib.hid (by show (camP zs m n).set (numL zs (stP zs m n)).toNat n = _; rw [Hq1.out, Int.toNat_natCast])
                have hst2 := hoC2.stored q (n : Int)
                rw [← Hcam.out] at hst2
                have hgr := hst2.2
                have hoC3 := hst2.1
                have hfz := hoC2.frozen q
                have hoS3 := hoS2.kept hgr (.inr hs1')
                have hoG3 := hoG2.kept hgr (.inr (by simp [Value.ownBlock]; omega))
                have bT6 := bT5.kept hgr (by simp; omega)
                have hB8 := hB7.setCell (p := ⟨gc, q, none⟩) hgc (.int .i64 (n : Int))
                obtain ⟨w5, hw5⟩ : ∃ w5, w4.setCell ⟨gc, q, none⟩ (.int .i64 (n : Int)) = w5 := ⟨_, rfl⟩
                have cT6 := bT6.cell
                rw [hw5] at hoC3 hoS3 hoG3 bT6 hB8 cT6
                have Hcamq := Lib.hid hcamq2
                have hcl := chsP_length zs m n
                clear hst2 hgr hoS2 hoG2 hoC2
                have hBw5 := hB2.trans (hB8.mono hB2.size)
                have hOb5 := HOb.out.below hB8
                have hvs5 := Hvs.out.below hB8
                go_wp2_with fail
                refine (l08First_c _ zs _ sl m gl k (lastSB zs m) _ (stP zs m n) w5 (hI.later hBw5) ht Hsl.out hvs5.ints hOb5 Hlb.out HN.out hoS3.ints Hst.out).mono ?_
                rintro e w6 ⟨hb6, hres⟩
                have Hex := Lib.hid (show ∃ s, GoS zs m (lastSB zs m) (stP zs m n) s from ⟨_, (goS_goL hp Hst.out _).2 (chS1_ok Hla.out).1⟩)
                rcases hres with ⟨s, hgo, hle, rfl⟩ | ⟨hno, _⟩
                · have hcs := chS1_is ((goS_goL hp Hst.out _).1 hgo) (fun t ht hg => hle t ht ((goS_goL hp Hst.out _).2 hg))
                  have Hpc : Hid (chP zs m n = (s : Int)) := Lib.hid (by unfold chP; rw [hcs])
                  have Hnx : Hid (stP zs m (n + 1) = stepS zs (stP zs m n) s) := Lib.hid (by show stepS zs (stP zs m n) (chS1 zs m (stP zs m n)) = _; rw [hcs])
                  have hst1 := (stP_ok hp Hcan.out (n + 1)).1
                  have hnb := numL_bd hst1
                  have hof := ofL_numL hst1
                  rw [Hnx.out] at hnb hof
                  obtain ⟨pc, hpc⟩ : ∃ pc, (s : Int) = pc := ⟨_, rfl⟩
                  obtain ⟨nx, hnx⟩ : ∃ nx, numL zs (stepS zs (stP zs m n) s) = nx := ⟨_, rfl⟩
                  rw [hnx] at hnb hof ⊢
                  rw [hpc] at Hpc ⊢
                  have Hnb := Lib.hid hnb
                  have Hof := Lib.hid hof
                  have hB9 := hB8.trans (hb6.mono hB8.size)
                  have hoS4 := hoS3.below hb6
                  have hoG4 := hoG3.below hb6
                  have hoC4 := hoC3.below hb6
                  have hs9 := hB9.size
                  replace bT6 := boxed_later bT6 hb6
                  have hrow : w6.ownsRow w2.heap.size 2 1 (.slice (some ⟨g, 0, none⟩) n c) n ((chsP zs m n).map (.int .i64)) := by have h := hoG4; unfold OwnI at h; rwa [hcl] at h
                  clear hb6 hoS3 hoG3 hoC3 hpc hw5 cT6 hBw5 hOb5 hvs5 hB8 hgo hle hcs hst1 hnb hof hnx
                  go_wp2_with (at_builtin; refine wpList_append_own_at _ rfl _ _ 22 rfl w2.heap.size 2 i0 (.int .i64 0) 1 8 Try.underlying22 hi hz0 hz1 hz2 rfl (by decide) _ _ _ rfl (World.ownsRow.alloc hrow _) ⟨w6.heap.size, 0, none⟩ 1 1 [.int .i64 pc] rfl rfl (Go.cell_one_new _ _ _) (by simp [Value.oneCell']) (by unfold maxLen; omega) (by omega) (by simp; omega) ?_)
                  intro v' w7 hown' hgrow _ hat
                  have ho7 := ownI_snoc (xs := chsP zs m n) (x := pc) (by rw [hcl]; exact hown')
                  rw [← Hpc.out, ← chsP_succ] at ho7
                  obtain ⟨g7, c7, rfl, hg7a, hg7b⟩ := ho7.shape (by rw [chsP_length]; omega)
                  rw [chsP_length] at ho7 ⊢
                  have hgr7 := (World.grownBy_alloc w6 (.cells #[.int .i64 pc] 2) (Value.slice (some ⟨g, 0, none⟩) n c).ownBlock).trans hgrow
                  have hlt4 := hoC4.blk gc rfl
                  have hoC7 := hoC4.kept hgr7 (.inr (by simp [Value.ownBlock]; omega))
                  have bT7 := bT6.kept hgr7 (by simp [Value.ownBlock]; have := (hoG4.blk g rfl).1; omega)
                  have hB10 : Below w2.heap.size w2 w7 := hB9.grown hgr7 hs9 (fun j e => by have := (hoG4.blk j e).1; omega)
                  have hg7 : g7 ≠ gc := by
                    simp only [Value.ownBlock, Option.some.injEq] at hat
                    omega
                  have hBw7 := hB2.trans (hB10.mono hB2.size)
                  have cT7 := bT7.cell
                  have hs10 := hB10.size
                  have hg7l := (ho7.blk g7 rfl).2
                  have hgc7 := (hoC7.blk gc rfl).2
                  clear hown' hgrow hat hgr7 hoS4 hoG4 hoC4 bT6 hB9 hrow
                  go_wp2_with fail
                  refine (l02Of_c _ zs nx _ (hI.later hBw7) ht Hnb.out.1 Hnb.out.2).mono ?_
                  rintro e w8 ⟨v8, rfl, ho8, hb8⟩
                  simp only [id]
                  rw [Hof.out, ← Hnx.out] at ho8
                  have hb8' := ho8.blk
                  replace ho8 := ho8.base hs10
                  have hr2 := ho7.below hb8
                  have hr3 := hoC7.below hb8
                  have hr4 := boxed_later bT7 hb8
                  have hr5 := hB10.trans (hb8.mono hs10)
                  clear ho7 hoC7 bT7 hB10 hb8 cT7
                  go_wp2
                  go_roundw
                  case rel => exact ⟨n + 1, g7, c7, rfl, hfn, ho8, hr2, hr3, fun e => by have := hb8' gc e; omega, hg7, fun e => by have := hb8' g7 e; omega, hr4, hr5⟩
                  case measure => simp [lenV]; omega
                · exact absurd Hex.out.choose_spec (hno _)
    · rw [show bAt (lastSB zs m) (n1 : Int) = false by cases h : bAt (lastSB zs m) (n1 : Int) with | false => rfl | true => exact absurd (hbl.1 h) hcan] at hcm
      obtain ⟨h1, h2, h3⟩ := lpC_no Hf.out hcan
      have h9 := Lib.hid (Hnil.out w2 4 hB2 h1 h3 h2)
      clear h1 h2 h3 hbl hOb hvs
      go_wp2_with fail
      go_ret3
      exact h9.out
  · obtain ⟨h1, h2, h3⟩ := lpC_few hf
    have h9 := Lib.hid (Hnil.out w1 (onC zs m) hB1 h1 h3 h2)
    have hq : (onC zs m != 0) = true := by simpa using hf
    clear h1 h2 h3
    go_wp2_with fail
    go_ret3
    exact h9.out

end Go.Proofs.Ytieobjoijalijaa
