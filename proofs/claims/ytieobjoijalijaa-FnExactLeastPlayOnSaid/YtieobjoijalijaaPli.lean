/-
  The program's least play on channels, and whether tasks can be served on them.
  Conditions: tasks with at most 4000 states.
-/
import Derived.Test.YtieobjoijalijaaPlg
import Derived.Test.YtieobjoijalijaaCod
namespace Go.Proofs.Ytieobjoijalijaa
open Go.RowKit Go.Shelf Go.Maps
attribute [local go_sem] Oper.semAt_some

theorem unkP_bd {gs : List Int} (ht : tasksOk gs = true) (h4 : cntL gs ≤ 4000) (P : Places) : unkP gs P ≤ 4000 := by
  have h1 : unkP gs P ≤ cntN gs := by unfold unkP unk; rw [← allSt_length]; exact List.countP_le_length
  have h2 := cntL_cntN (pos_of ht)
  omega
def Plr0 (W : World) (b : Nat) : Prop := W.heap[b]? = some (.cells #[.slice none 0 0, .slice none 0 0, .slice none 0 0, .map none] 161 (0, 0))
theorem Plr0.lt {W : World} {b : Nat} (h : Plr0 W b) : b < W.heap.size := (Array.getElem?_eq_some_iff.1 h).1
theorem Plr0.later {W W' : World} {b : Nat} (h : Plr0 W b) (hb : Below W.heap.size W W') : Plr0 W' b := (hb.block b h.lt).trans h
theorem Plr0.new (W : World) : Plr0 (W.alloc (.cells #[.slice none 0 0, .slice none 0 0, .slice none 0 0, .map none] 161)) W.heap.size := World.alloc_heap_new _ _
theorem Plr0.c {W : World} {b : Nat} (h : Plr0 W b) : W.cell? ⟨b, 0, none⟩ = some (.slice none 0 0) ∧ W.cell? ⟨b, 1, none⟩ = some (.slice none 0 0) ∧ W.cell? ⟨b, 2, none⟩ = some (.slice none 0 0) ∧ W.cell? ⟨b, 3, none⟩ = some (.map none) := by simp [World.cell?, show W.heap[b]? = _ from h]
theorem Plr0.frozen {W : World} {b : Nat} (h : Plr0 W b) (i : Nat) : W.frozen? ⟨b, i, none⟩ = false := by simp [World.frozen?, show W.heap[b]? = _ from h]
theorem setCell_heap {W : World} {b i : Nat} {cs : Array Value} {t : TypeId} (h : W.heap[b]? = some (.cells cs t (0, 0))) (v : Value) : (W.setCell ⟨b, i, none⟩ v).heap[b]? = some (.cells (cs.setIfInBounds i v) t (0, 0)) := by
  obtain ⟨hlt, hk⟩ := Array.getElem?_eq_some_iff.1 h
  show (W.heap.modify b _)[b]? = _
  rw [Array.getElem?_eq_getElem (by rw [Array.size_modify]; exact hlt), Array.getElem_modify_self, hk]
  rfl
theorem Plr0.fill {W : World} {b m : Nat} (h : Plr0 W b) (vt vs v : Value) : Plr ((((W.setCell ⟨b, 0, none⟩ vt).setCell ⟨b, 1, none⟩ vs).setCell ⟨b, 2, none⟩ v).setCell ⟨b, 3, none⟩ (.map (some m))) b vt vs v m := by
  have h1 := setCell_heap (i := 3) (setCell_heap (i := 2) (setCell_heap (i := 1) (setCell_heap (i := 0) h vt) vs) v) (.map (some m))
  exact h1.trans (by simp)
def MapNew (W : World) (b : Nat) : Prop := W.heap[b]? = some (.map #[] 0)
theorem MapNew.lt {W : World} {b : Nat} (h : MapNew W b) : b < W.heap.size := (Array.getElem?_eq_some_iff.1 h).1
theorem MapNew.later {W W' : World} {b : Nat} (h : MapNew W b) (hb : Below W.heap.size W W') : MapNew W' b := (hb.block b h.lt).trans h
theorem fill_facts {W : World} {bP mP n : Nat} {vs : Value} {sl : List Int} (kP : Plr0 W bP) (kM : MapNew W mP) (hvs : OwnI n W vs sl) (vt v : Value) :
    ∃ W', ((((W.setCell ⟨bP, 0, none⟩ vt).setCell ⟨bP, 1, none⟩ vs).setCell ⟨bP, 2, none⟩ v).setCell ⟨bP, 3, none⟩ (.map (some mP))) = W' ∧ Plr W' bP vt vs v mP ∧ MapNew W' mP ∧ OwnI n W' vs sl ∧ W.grownBy W' (some bP) ∧ bP ≠ mP := by
  have hne : bP ≠ mP := by
    rintro rfl
    have := (show W.heap[bP]? = _ from kP).symm.trans kM
    simp at this
  have hno : vs.ownBlock ≠ some bP := by
    intro e
    obtain ⟨_, h2⟩ := hvs
    rcases h2 with ⟨rfl, _⟩ | ⟨g, cap, cur, rfl, _, hh, _⟩
    · simp [Value.ownBlock] at e
    · obtain rfl : g = bP := by simpa [Value.ownBlock] using e
      have := hh.symm.trans kP
      simp at this
  have hg := (((grownBy_setCell2 W bP 0 vt).trans (grownBy_setCell2 _ bP 1 vs)).trans (grownBy_setCell2 _ bP 2 v)).trans (grownBy_setCell2 _ bP 3 (.map (some mP)))
  exact ⟨_, rfl, kP.fill vt vs v, (hg.block mP kM.lt (fun e => hne (Option.some.inj e).symm)).trans kM, hvs.kept hg (.inr hno), hg, hne⟩

set_option maxRecDepth 100000 in
set_option maxHeartbeats 16000000 in
theorem leastPlayOn_c (c0 : Value) (zs : List Int) (m : Int) (w : World) (hI : Ints w.heap.size w c0 zs) (ht : tasksOk zs = true) (h4 : cntL zs ≤ 4000) :
    Calls Try.prog 86 #[.agg #[c0], .int .i64 m] w fun e w' => Below w.heap.size w w' ∧ ∃ v ps, OwnI w.heap.size w' v ps ∧
      ((∃ p : Nat, e = .returned (.tuple #[v, .int .i64 (p : Int), .bool true]) ∧ Found zs m ps p ∧ ps.length ≤ 1000000) ∨ (e = .returned (.tuple #[v, .int .i64 (-1), .bool false]) ∧ ¬ LastS zs m zs)) := by
  obtain ⟨a, cap, rfl⟩ := hI.shape
  have hfw : Try.prog.follows Departure.mixedOrders = true := by kernel_rfl
  have hl8 := tasksOk_len ht
  have hB0 : Below w.heap.size w (w.alloc (.cells #[.slice a zs.length cap] 28)) := (Below.refl _ w).alloc (Nat.le_refl _) _
  have bT0 : Boxed (w.alloc (.cells #[.slice a zs.length cap] 28)) w.heap.size 28 (.slice a zs.length cap) := Boxed.new _ _ _
  obtain ⟨w0, hw0⟩ : ∃ w0, w.alloc (.cells #[.slice a zs.length cap] 28) = w0 := ⟨_, rfl⟩
  have hs0 : w0.heap.size = w.heap.size + 1 := by rw [← hw0]; simp
  have hmk : ∀ w, (Instr.makeMap 159 none).run Try.prog w = .ok (.map (some w.heap.size)) (w.alloc (.map #[] 0)) := fun _ => rfl
  go_enter Try.func86, Try.ntmps86
  have k0 : (w.alloc (.cells #[.slice a zs.length cap] 28)).cell? ⟨w.heap.size, 0, none⟩ = some (.slice a zs.length cap) := bT0.cell
  go_wp2_with fail
  rw [hw0] at k0 hB0 bT0
  clear hw0 k0
  refine wp_region_held_drew (S := fun w' => Boxed w' w.heap.size 28 (.slice a zs.length cap) ∧ Below w0.heap.size w0 w') hfw ⟨bT0, (Below.refl _ _).drew⟩ ?_
  intro hS0
  obtain ⟨W0, hW0⟩ : ∃ W0, w0.drew = W0 := ⟨_, rfl⟩
  rw [hW0] at hS0 ⊢
  clear hW0
  refine wpAnyH_take (i := 0) (v := ?vr10) rfl (by kernel_rfl) (by kernel_rfl) (by kernel_rfl) (fun _ _ _ h => h) (.inl ⟨by rfl, ?yr10⟩) hS0 ?_
  case yr10 =>
    intro w' hS
    (have k1 := hS.1.cell; clear hS)
    go_simp
    try with_reducible rfl
  refine wpAnyH_take (i := 1) (v := ?vr11) rfl (by kernel_rfl) (by kernel_rfl) (by kernel_rfl) (fun _ _ _ h => h) (.inl ⟨by rfl, ?yr11⟩) hS0 ?_
  case yr11 =>
    intro w' hS
    (have k1 := hS.1.cell; clear hS)
    go_simp
    try with_reducible rfl
  refine wpAnyH_take (i := 2) (v := ?vr12) rfl (by kernel_rfl) (by kernel_rfl) (by kernel_rfl) (fun _ _ _ h => h) (.inl ⟨by rfl, ?yr12⟩) hS0 ?_
  case yr12 =>
    intro w' hS
    (have k1 := hS.1.cell; clear hS)
    go_simp
    try with_reducible rfl
  refine wpAnyH_take (i := 3) (v := ?vr13) rfl (by kernel_rfl) (by kernel_rfl) (by kernel_rfl) (fun _ _ _ h => h) (.inl ⟨by rfl, ?yr13⟩) hS0 ?_
  case yr13 =>
    intro w' hS
    (have k1 := hS.1.cell; clear hS)
    go_simp
    try with_reducible rfl
  refine wpAnyH_take (i := 4) (v := ?vr14) rfl (by kernel_rfl) (by kernel_rfl) (by kernel_rfl) (fun _ _ _ h => h) (.inl ⟨by rfl, ?yr14⟩) hS0 ?_
  case yr14 =>
    intro w' hS
    (have k1 := hS.1.cell; clear hS)
    go_simp
    try with_reducible rfl
  refine wpAnyH_ready (rs := [5, 6, 8]) (by kernel_rfl) (by simp) ?_
  refine (AllReadyH.cons rfl (fun K' hK' => ?_) (AllReadyH.cons rfl (fun K' hK' => ?_) (AllReadyH.cons rfl (fun K' hK' => ?_) AllReadyH.nil)))
  · rw [if_pos (by rfl)]
    go_simp
    refine (setsOf_c zs.length m W0 hl8.2).mono ?_
    rintro e W1 ⟨vs, rfl, hvs, hx⟩
    obtain ⟨av, cv, rfl⟩ := hvs.ints.shape
    simp only [id]
    replace hvs := hvs.base (show w.heap.size ≤ W0.heap.size by have := hS0.2.size; omega)
    refine hK'.out _ _ ⟨boxed_later hS0.1 hx, hS0.2.trans (hx.mono hS0.2.size)⟩ fun hS1 => ?_
    clear hK' hS0 hx
    refine wpAnyH_ready (rs := [6, 8]) (by kernel_rfl) (by simp) ?_
    refine (AllReadyH.cons rfl (fun K' hK' => ?_) (AllReadyH.cons rfl (fun K' hK' => ?_) AllReadyH.nil))
    · rw [if_pos (by rfl)]
      go_simp
      have hx : Below W1.heap.size W1 (W1.alloc (.map #[] 0)) := (Below.refl _ _).alloc (Nat.le_refl _) _
      have kM : MapNew (W1.alloc (.map #[] 0)) W1.heap.size := World.alloc_heap_new _ _
      obtain ⟨mP, hmP⟩ : ∃ mP, W1.heap.size = mP := ⟨_, rfl⟩
      have hmPl : w0.heap.size ≤ mP := by have := hS1.2.size; omega
      obtain ⟨W2, hN⟩ : ∃ W2, W1.alloc (.map #[] 0) = W2 := ⟨_, rfl⟩
      rw [hN] at hx kM ⊢
      rw [hmP] at kM ⊢
      clear hN hmP
      replace hvs := hvs.of_block fun k hk => hx.block k (hvs.blk k hk).2
      refine hK'.out _ _ ⟨boxed_later hS1.1 hx, hS1.2.trans (hx.mono hS1.2.size)⟩ fun hS2 => ?_
      clear hK' hS1 hx
      refine wpAnyH_take (i := 7) (v := ?vr52567) rfl (by kernel_rfl) (by kernel_rfl) (by kernel_rfl) (fun _ _ _ h => h) (.inl ⟨by rfl, ?yr52567⟩) hS2 ?_
      case yr52567 =>
        intro w' hS
        (clear hS)
        go_simp
        try with_reducible rfl
      refine wpAnyH_ready (rs := [8]) (by kernel_rfl) (by simp) ?_
      refine (AllReadyH.cons rfl (fun K' hK' => ?_) AllReadyH.nil)
      · rw [if_pos (by rfl)]
        go_simp
        have hx : Below W2.heap.size W2 (W2.alloc (.cells #[.slice none 0 0, .slice none 0 0, .slice none 0 0, .map none] 161)) := (Below.refl _ _).alloc (Nat.le_refl _) _
        have kP := Plr0.new W2
        obtain ⟨bP, hbP⟩ : ∃ bP, W2.heap.size = bP := ⟨_, rfl⟩
        have hbPl : w0.heap.size ≤ bP := by have := hS2.2.size; omega
        obtain ⟨W3, hN⟩ : ∃ W3, W2.alloc (.cells #[.slice none 0 0, .slice none 0 0, .slice none 0 0, .map none] 161) = W3 := ⟨_, rfl⟩
        rw [hN] at hx kP ⊢
        rw [hbP] at kP ⊢
        clear hN hbP
        replace hvs := hvs.of_block fun k hk => hx.block k (hvs.blk k hk).2
        replace kM := kM.later hx
        refine hK'.out _ _ ⟨boxed_later hS2.1 hx, hS2.2.trans (hx.mono hS2.2.size)⟩ fun hS3 => ?_
        clear hK' hS2 hx
        obtain ⟨c0, c1, c2, c3⟩ := kP.c
        have f0 := kP.frozen 0
        have f1 := kP.frozen 1
        have f2 := kP.frozen 2
        have f3 := kP.frozen 3
        refine wpAnyH_ready (rs := [9]) (by kernel_rfl) (by simp) ?_
        refine AllReadyH.cons rfl (fun K' hK' => ?_) AllReadyH.nil
        rw [if_pos (by rfl)]
        go_simp
        clear c0 c1 c2 c3 f0 f1 f2 f3
        obtain ⟨W4, hW4, q1, q2, q3, q4, q5⟩ := fill_facts kP kM hvs (.slice a zs.length cap) (.slice none 0 0)
        rw [hW4]
        clear hW4 kP kM hvs
        have hB4 : Below w0.heap.size w0 W4 := hS3.2.grown q4 hS3.2.size (fun j e => by have := Option.some.inj e; omega)
        have bT4 : Boxed W4 w.heap.size 28 (.slice a zs.length cap) := hS3.1.kept q4 (fun e => by have := Option.some.inj e; omega)
        refine hK'.out _ _ ⟨bT4, hB4⟩ fun hS4 => ?_
        refine wpAnyH_done (by kernel_rfl) ?_ _
        have hBw : Below w.heap.size w W4 := hB0.trans (hB4.mono hB0.size)
        have k1 := bT4.cell
        have Hl8 := Lib.hid hl8
        clear hK' hS3 hS4 hl8 bT4 bT0 q4 hmk
        go_wp2_with fail
        refine (taskStateOf_c _ zs W4 (hI.later hBw) Hl8.out.2 (fun k hk => by have := tasksOk_nth ht hk; omega)).mono ?_
        rintro e W5 ⟨rfl, hb5⟩
        go_wp2_with fail
        have hB5 : Below w.heap.size w W5 := hBw.trans (hb5.mono hBw.size)
        have p1 := q1.later hb5
        have p3 := q3.below hb5
        have hub := unkP_bd ht h4 (fun _ => none)
        refine (goOn_c ht rfl (unkP zs (fun _ => none)) (.slice none 0 0) [] (2 * unkP zs (fun _ => none)) (fun _ => none) W5 zs (Nat.le_refl _) ⟨p1, PMap.new (q2.later hb5), ownI_nil _ _, hI.below hB5, p3, fun k hk => (p3.blk k hk).2, Nat.le_refl _, p1.lt, (q2.later hb5).lt, by omega, by omega, q5⟩ (WayP.nil _ _) (KnowP.start _ _) rfl (by omega) (by simp; omega)).mono ?_
        rintro e W6 ⟨v', ps', P', E6, hc6, -, -, hcase⟩
        have hB6 : Below w.heap.size w W6 := hc6.below hB5 (fun k hk h => by
          rcases h with h | h | h
          · omega
          · omega
          · simp [Value.ownBlock] at h) hB5.size
        have ho6 := E6.row.base hB5.size
        have k6 := E6.plr.c2
        clear E6 hc6 p1 p3 hb5 hB5 q1 q2 q3 k1 hBw
        rcases hcase with ⟨p, rfl, hf, hl⟩ | ⟨rfl, rfl, -, hnl⟩
        · go_wp2
          go_ret3
          exact ⟨hB6, v', ps', ho6, .inl ⟨p, rfl, hf, hl⟩⟩
        · go_wp2
          go_ret3
          exact ⟨hB6, v', [], ho6, .inr ⟨rfl, hnl⟩⟩
    · rw [if_pos (by rfl)]
      go_simp
      have hx : Below W1.heap.size W1 (W1.alloc (.cells #[.slice none 0 0, .slice none 0 0, .slice none 0 0, .map none] 161)) := (Below.refl _ _).alloc (Nat.le_refl _) _
      have kP := Plr0.new W1
      obtain ⟨bP, hbP⟩ : ∃ bP, W1.heap.size = bP := ⟨_, rfl⟩
      have hbPl : w0.heap.size ≤ bP := by have := hS1.2.size; omega
      obtain ⟨W2, hN⟩ : ∃ W2, W1.alloc (.cells #[.slice none 0 0, .slice none 0 0, .slice none 0 0, .map none] 161) = W2 := ⟨_, rfl⟩
      rw [hN] at hx kP ⊢
      rw [hbP] at kP ⊢
      clear hN hbP
      replace hvs := hvs.of_block fun k hk => hx.block k (hvs.blk k hk).2
      refine hK'.out _ _ ⟨boxed_later hS1.1 hx, hS1.2.trans (hx.mono hS1.2.size)⟩ fun hS2 => ?_
      clear hK' hS1 hx
      refine wpAnyH_ready (rs := [6]) (by kernel_rfl) (by simp) ?_
      refine (AllReadyH.cons rfl (fun K' hK' => ?_) AllReadyH.nil)
      · rw [if_pos (by rfl)]
        go_simp
        have hx : Below W2.heap.size W2 (W2.alloc (.map #[] 0)) := (Below.refl _ _).alloc (Nat.le_refl _) _
        have kM : MapNew (W2.alloc (.map #[] 0)) W2.heap.size := World.alloc_heap_new _ _
        obtain ⟨mP, hmP⟩ : ∃ mP, W2.heap.size = mP := ⟨_, rfl⟩
        have hmPl : w0.heap.size ≤ mP := by have := hS2.2.size; omega
        obtain ⟨W3, hN⟩ : ∃ W3, W2.alloc (.map #[] 0) = W3 := ⟨_, rfl⟩
        rw [hN] at hx kM ⊢
        rw [hmP] at kM ⊢
        clear hN hmP
        replace hvs := hvs.of_block fun k hk => hx.block k (hvs.blk k hk).2
        replace kP := kP.later hx
        refine hK'.out _ _ ⟨boxed_later hS2.1 hx, hS2.2.trans (hx.mono hS2.2.size)⟩ fun hS3 => ?_
        clear hK' hS2 hx
        refine wpAnyH_take (i := 7) (v := ?vr2c7) rfl (by kernel_rfl) (by kernel_rfl) (by kernel_rfl) (fun _ _ _ h => h) (.inl ⟨by rfl, ?yr2c7⟩) hS3 ?_
        case yr2c7 =>
          intro w' hS
          (clear hS)
          go_simp
          try with_reducible rfl
        obtain ⟨c0, c1, c2, c3⟩ := kP.c
        have f0 := kP.frozen 0
        have f1 := kP.frozen 1
        have f2 := kP.frozen 2
        have f3 := kP.frozen 3
        refine wpAnyH_ready (rs := [9]) (by kernel_rfl) (by simp) ?_
        refine AllReadyH.cons rfl (fun K' hK' => ?_) AllReadyH.nil
        rw [if_pos (by rfl)]
        go_simp
        clear c0 c1 c2 c3 f0 f1 f2 f3
        obtain ⟨W4, hW4, q1, q2, q3, q4, q5⟩ := fill_facts kP kM hvs (.slice a zs.length cap) (.slice none 0 0)
        rw [hW4]
        clear hW4 kP kM hvs
        have hB4 : Below w0.heap.size w0 W4 := hS3.2.grown q4 hS3.2.size (fun j e => by have := Option.some.inj e; omega)
        have bT4 : Boxed W4 w.heap.size 28 (.slice a zs.length cap) := hS3.1.kept q4 (fun e => by have := Option.some.inj e; omega)
        refine hK'.out _ _ ⟨bT4, hB4⟩ fun hS4 => ?_
        refine wpAnyH_done (by kernel_rfl) ?_ _
        have hBw : Below w.heap.size w W4 := hB0.trans (hB4.mono hB0.size)
        have k1 := bT4.cell
        have Hl8 := Lib.hid hl8
        clear hK' hS3 hS4 hl8 bT4 bT0 q4 hmk
        go_wp2_with fail
        refine (taskStateOf_c _ zs W4 (hI.later hBw) Hl8.out.2 (fun k hk => by have := tasksOk_nth ht hk; omega)).mono ?_
        rintro e W5 ⟨rfl, hb5⟩
        go_wp2_with fail
        have hB5 : Below w.heap.size w W5 := hBw.trans (hb5.mono hBw.size)
        have p1 := q1.later hb5
        have p3 := q3.below hb5
        have hub := unkP_bd ht h4 (fun _ => none)
        refine (goOn_c ht rfl (unkP zs (fun _ => none)) (.slice none 0 0) [] (2 * unkP zs (fun _ => none)) (fun _ => none) W5 zs (Nat.le_refl _) ⟨p1, PMap.new (q2.later hb5), ownI_nil _ _, hI.below hB5, p3, fun k hk => (p3.blk k hk).2, Nat.le_refl _, p1.lt, (q2.later hb5).lt, by omega, by omega, q5⟩ (WayP.nil _ _) (KnowP.start _ _) rfl (by omega) (by simp; omega)).mono ?_
        rintro e W6 ⟨v', ps', P', E6, hc6, -, -, hcase⟩
        have hB6 : Below w.heap.size w W6 := hc6.below hB5 (fun k hk h => by
          rcases h with h | h | h
          · omega
          · omega
          · simp [Value.ownBlock] at h) hB5.size
        have ho6 := E6.row.base hB5.size
        have k6 := E6.plr.c2
        clear E6 hc6 p1 p3 hb5 hB5 q1 q2 q3 k1 hBw
        rcases hcase with ⟨p, rfl, hf, hl⟩ | ⟨rfl, rfl, -, hnl⟩
        · go_wp2
          go_ret3
          exact ⟨hB6, v', ps', ho6, .inl ⟨p, rfl, hf, hl⟩⟩
        · go_wp2
          go_ret3
          exact ⟨hB6, v', [], ho6, .inr ⟨rfl, hnl⟩⟩
  · rw [if_pos (by rfl)]
    go_simp
    have hx : Below W0.heap.size W0 (W0.alloc (.map #[] 0)) := (Below.refl _ _).alloc (Nat.le_refl _) _
    have kM : MapNew (W0.alloc (.map #[] 0)) W0.heap.size := World.alloc_heap_new _ _
    obtain ⟨mP, hmP⟩ : ∃ mP, W0.heap.size = mP := ⟨_, rfl⟩
    have hmPl : w0.heap.size ≤ mP := by have := hS0.2.size; omega
    obtain ⟨W1, hN⟩ : ∃ W1, W0.alloc (.map #[] 0) = W1 := ⟨_, rfl⟩
    rw [hN] at hx kM ⊢
    rw [hmP] at kM ⊢
    clear hN hmP
    refine hK'.out _ _ ⟨boxed_later hS0.1 hx, hS0.2.trans (hx.mono hS0.2.size)⟩ fun hS1 => ?_
    clear hK' hS0 hx
    refine wpAnyH_ready (rs := [5, 8]) (by kernel_rfl) (by simp) ?_
    refine (AllReadyH.cons rfl (fun K' hK' => ?_) (AllReadyH.cons rfl (fun K' hK' => ?_) AllReadyH.nil))
    · rw [if_pos (by rfl)]
      go_simp
      refine (setsOf_c zs.length m W1 hl8.2).mono ?_
      rintro e W2 ⟨vs, rfl, hvs, hx⟩
      obtain ⟨av, cv, rfl⟩ := hvs.ints.shape
      simp only [id]
      replace hvs := hvs.base (show w.heap.size ≤ W1.heap.size by have := hS1.2.size; omega)
      replace kM := kM.later hx
      refine hK'.out _ _ ⟨boxed_later hS1.1 hx, hS1.2.trans (hx.mono hS1.2.size)⟩ fun hS2 => ?_
      clear hK' hS1 hx
      refine wpAnyH_take (i := 7) (v := ?vr52657) rfl (by kernel_rfl) (by kernel_rfl) (by kernel_rfl) (fun _ _ _ h => h) (.inl ⟨by rfl, ?yr52657⟩) hS2 ?_
      case yr52657 =>
        intro w' hS
        (clear hS)
        go_simp
        try with_reducible rfl
      refine wpAnyH_ready (rs := [8]) (by kernel_rfl) (by simp) ?_
      refine (AllReadyH.cons rfl (fun K' hK' => ?_) AllReadyH.nil)
      · rw [if_pos (by rfl)]
        go_simp
        have hx : Below W2.heap.size W2 (W2.alloc (.cells #[.slice none 0 0, .slice none 0 0, .slice none 0 0, .map none] 161)) := (Below.refl _ _).alloc (Nat.le_refl _) _
        have kP := Plr0.new W2
        obtain ⟨bP, hbP⟩ : ∃ bP, W2.heap.size = bP := ⟨_, rfl⟩
        have hbPl : w0.heap.size ≤ bP := by have := hS2.2.size; omega
        obtain ⟨W3, hN⟩ : ∃ W3, W2.alloc (.cells #[.slice none 0 0, .slice none 0 0, .slice none 0 0, .map none] 161) = W3 := ⟨_, rfl⟩
        rw [hN] at hx kP ⊢
        rw [hbP] at kP ⊢
        clear hN hbP
        replace hvs := hvs.of_block fun k hk => hx.block k (hvs.blk k hk).2
        replace kM := kM.later hx
        refine hK'.out _ _ ⟨boxed_later hS2.1 hx, hS2.2.trans (hx.mono hS2.2.size)⟩ fun hS3 => ?_
        clear hK' hS2 hx
        obtain ⟨c0, c1, c2, c3⟩ := kP.c
        have f0 := kP.frozen 0
        have f1 := kP.frozen 1
        have f2 := kP.frozen 2
        have f3 := kP.frozen 3
        refine wpAnyH_ready (rs := [9]) (by kernel_rfl) (by simp) ?_
        refine AllReadyH.cons rfl (fun K' hK' => ?_) AllReadyH.nil
        rw [if_pos (by rfl)]
        go_simp
        clear c0 c1 c2 c3 f0 f1 f2 f3
        obtain ⟨W4, hW4, q1, q2, q3, q4, q5⟩ := fill_facts kP kM hvs (.slice a zs.length cap) (.slice none 0 0)
        rw [hW4]
        clear hW4 kP kM hvs
        have hB4 : Below w0.heap.size w0 W4 := hS3.2.grown q4 hS3.2.size (fun j e => by have := Option.some.inj e; omega)
        have bT4 : Boxed W4 w.heap.size 28 (.slice a zs.length cap) := hS3.1.kept q4 (fun e => by have := Option.some.inj e; omega)
        refine hK'.out _ _ ⟨bT4, hB4⟩ fun hS4 => ?_
        refine wpAnyH_done (by kernel_rfl) ?_ _
        have hBw : Below w.heap.size w W4 := hB0.trans (hB4.mono hB0.size)
        have k1 := bT4.cell
        have Hl8 := Lib.hid hl8
        clear hK' hS3 hS4 hl8 bT4 bT0 q4 hmk
        go_wp2_with fail
        refine (taskStateOf_c _ zs W4 (hI.later hBw) Hl8.out.2 (fun k hk => by have := tasksOk_nth ht hk; omega)).mono ?_
        rintro e W5 ⟨rfl, hb5⟩
        go_wp2_with fail
        have hB5 : Below w.heap.size w W5 := hBw.trans (hb5.mono hBw.size)
        have p1 := q1.later hb5
        have p3 := q3.below hb5
        have hub := unkP_bd ht h4 (fun _ => none)
        refine (goOn_c ht rfl (unkP zs (fun _ => none)) (.slice none 0 0) [] (2 * unkP zs (fun _ => none)) (fun _ => none) W5 zs (Nat.le_refl _) ⟨p1, PMap.new (q2.later hb5), ownI_nil _ _, hI.below hB5, p3, fun k hk => (p3.blk k hk).2, Nat.le_refl _, p1.lt, (q2.later hb5).lt, by omega, by omega, q5⟩ (WayP.nil _ _) (KnowP.start _ _) rfl (by omega) (by simp; omega)).mono ?_
        rintro e W6 ⟨v', ps', P', E6, hc6, -, -, hcase⟩
        have hB6 : Below w.heap.size w W6 := hc6.below hB5 (fun k hk h => by
          rcases h with h | h | h
          · omega
          · omega
          · simp [Value.ownBlock] at h) hB5.size
        have ho6 := E6.row.base hB5.size
        have k6 := E6.plr.c2
        clear E6 hc6 p1 p3 hb5 hB5 q1 q2 q3 k1 hBw
        rcases hcase with ⟨p, rfl, hf, hl⟩ | ⟨rfl, rfl, -, hnl⟩
        · go_wp2
          go_ret3
          exact ⟨hB6, v', ps', ho6, .inl ⟨p, rfl, hf, hl⟩⟩
        · go_wp2
          go_ret3
          exact ⟨hB6, v', [], ho6, .inr ⟨rfl, hnl⟩⟩
    · rw [if_pos (by rfl)]
      go_simp
      have hx : Below W1.heap.size W1 (W1.alloc (.cells #[.slice none 0 0, .slice none 0 0, .slice none 0 0, .map none] 161)) := (Below.refl _ _).alloc (Nat.le_refl _) _
      have kP := Plr0.new W1
      obtain ⟨bP, hbP⟩ : ∃ bP, W1.heap.size = bP := ⟨_, rfl⟩
      have hbPl : w0.heap.size ≤ bP := by have := hS1.2.size; omega
      obtain ⟨W2, hN⟩ : ∃ W2, W1.alloc (.cells #[.slice none 0 0, .slice none 0 0, .slice none 0 0, .map none] 161) = W2 := ⟨_, rfl⟩
      rw [hN] at hx kP ⊢
      rw [hbP] at kP ⊢
      clear hN hbP
      replace kM := kM.later hx
      refine hK'.out _ _ ⟨boxed_later hS1.1 hx, hS1.2.trans (hx.mono hS1.2.size)⟩ fun hS2 => ?_
      clear hK' hS1 hx
      refine wpAnyH_ready (rs := [5]) (by kernel_rfl) (by simp) ?_
      refine (AllReadyH.cons rfl (fun K' hK' => ?_) AllReadyH.nil)
      · rw [if_pos (by rfl)]
        go_simp
        refine (setsOf_c zs.length m W2 hl8.2).mono ?_
        rintro e W3 ⟨vs, rfl, hvs, hx⟩
        obtain ⟨av, cv, rfl⟩ := hvs.ints.shape
        simp only [id]
        replace hvs := hvs.base (show w.heap.size ≤ W2.heap.size by have := hS2.2.size; omega)
        replace kM := kM.later hx
        replace kP := kP.later hx
        refine hK'.out _ _ ⟨boxed_later hS2.1 hx, hS2.2.trans (hx.mono hS2.2.size)⟩ fun hS3 => ?_
        clear hK' hS2 hx
        refine wpAnyH_take (i := 7) (v := ?vr2e7) rfl (by kernel_rfl) (by kernel_rfl) (by kernel_rfl) (fun _ _ _ h => h) (.inl ⟨by rfl, ?yr2e7⟩) hS3 ?_
        case yr2e7 =>
          intro w' hS
          (clear hS)
          go_simp
          try with_reducible rfl
        obtain ⟨c0, c1, c2, c3⟩ := kP.c
        have f0 := kP.frozen 0
        have f1 := kP.frozen 1
        have f2 := kP.frozen 2
        have f3 := kP.frozen 3
        refine wpAnyH_ready (rs := [9]) (by kernel_rfl) (by simp) ?_
        refine AllReadyH.cons rfl (fun K' hK' => ?_) AllReadyH.nil
        rw [if_pos (by rfl)]
        go_simp
        clear c0 c1 c2 c3 f0 f1 f2 f3
        obtain ⟨W4, hW4, q1, q2, q3, q4, q5⟩ := fill_facts kP kM hvs (.slice a zs.length cap) (.slice none 0 0)
        rw [hW4]
        clear hW4 kP kM hvs
        have hB4 : Below w0.heap.size w0 W4 := hS3.2.grown q4 hS3.2.size (fun j e => by have := Option.some.inj e; omega)
        have bT4 : Boxed W4 w.heap.size 28 (.slice a zs.length cap) := hS3.1.kept q4 (fun e => by have := Option.some.inj e; omega)
        refine hK'.out _ _ ⟨bT4, hB4⟩ fun hS4 => ?_
        refine wpAnyH_done (by kernel_rfl) ?_ _
        have hBw : Below w.heap.size w W4 := hB0.trans (hB4.mono hB0.size)
        have k1 := bT4.cell
        have Hl8 := Lib.hid hl8
        clear hK' hS3 hS4 hl8 bT4 bT0 q4 hmk
        go_wp2_with fail
        refine (taskStateOf_c _ zs W4 (hI.later hBw) Hl8.out.2 (fun k hk => by have := tasksOk_nth ht hk; omega)).mono ?_
        rintro e W5 ⟨rfl, hb5⟩
        go_wp2_with fail
        have hB5 : Below w.heap.size w W5 := hBw.trans (hb5.mono hBw.size)
        have p1 := q1.later hb5
        have p3 := q3.below hb5
        have hub := unkP_bd ht h4 (fun _ => none)
        refine (goOn_c ht rfl (unkP zs (fun _ => none)) (.slice none 0 0) [] (2 * unkP zs (fun _ => none)) (fun _ => none) W5 zs (Nat.le_refl _) ⟨p1, PMap.new (q2.later hb5), ownI_nil _ _, hI.below hB5, p3, fun k hk => (p3.blk k hk).2, Nat.le_refl _, p1.lt, (q2.later hb5).lt, by omega, by omega, q5⟩ (WayP.nil _ _) (KnowP.start _ _) rfl (by omega) (by simp; omega)).mono ?_
        rintro e W6 ⟨v', ps', P', E6, hc6, -, -, hcase⟩
        have hB6 : Below w.heap.size w W6 := hc6.below hB5 (fun k hk h => by
          rcases h with h | h | h
          · omega
          · omega
          · simp [Value.ownBlock] at h) hB5.size
        have ho6 := E6.row.base hB5.size
        have k6 := E6.plr.c2
        clear E6 hc6 p1 p3 hb5 hB5 q1 q2 q3 k1 hBw
        rcases hcase with ⟨p, rfl, hf, hl⟩ | ⟨rfl, rfl, -, hnl⟩
        · go_wp2
          go_ret3
          exact ⟨hB6, v', ps', ho6, .inl ⟨p, rfl, hf, hl⟩⟩
        · go_wp2
          go_ret3
          exact ⟨hB6, v', [], ho6, .inr ⟨rfl, hnl⟩⟩
  · rw [if_pos (by rfl)]
    go_simp
    have hx : Below W0.heap.size W0 (W0.alloc (.cells #[.slice none 0 0, .slice none 0 0, .slice none 0 0, .map none] 161)) := (Below.refl _ _).alloc (Nat.le_refl _) _
    have kP := Plr0.new W0
    obtain ⟨bP, hbP⟩ : ∃ bP, W0.heap.size = bP := ⟨_, rfl⟩
    have hbPl : w0.heap.size ≤ bP := by have := hS0.2.size; omega
    obtain ⟨W1, hN⟩ : ∃ W1, W0.alloc (.cells #[.slice none 0 0, .slice none 0 0, .slice none 0 0, .map none] 161) = W1 := ⟨_, rfl⟩
    rw [hN] at hx kP ⊢
    rw [hbP] at kP ⊢
    clear hN hbP
    refine hK'.out _ _ ⟨boxed_later hS0.1 hx, hS0.2.trans (hx.mono hS0.2.size)⟩ fun hS1 => ?_
    clear hK' hS0 hx
    refine wpAnyH_ready (rs := [5, 6]) (by kernel_rfl) (by simp) ?_
    refine (AllReadyH.cons rfl (fun K' hK' => ?_) (AllReadyH.cons rfl (fun K' hK' => ?_) AllReadyH.nil))
    · rw [if_pos (by rfl)]
      go_simp
      refine (setsOf_c zs.length m W1 hl8.2).mono ?_
      rintro e W2 ⟨vs, rfl, hvs, hx⟩
      obtain ⟨av, cv, rfl⟩ := hvs.ints.shape
      simp only [id]
      replace hvs := hvs.base (show w.heap.size ≤ W1.heap.size by have := hS1.2.size; omega)
      replace kP := kP.later hx
      refine hK'.out _ _ ⟨boxed_later hS1.1 hx, hS1.2.trans (hx.mono hS1.2.size)⟩ fun hS2 => ?_
      clear hK' hS1 hx
      refine wpAnyH_ready (rs := [6]) (by kernel_rfl) (by simp) ?_
      refine (AllReadyH.cons rfl (fun K' hK' => ?_) AllReadyH.nil)
      · rw [if_pos (by rfl)]
        go_simp
        have hx : Below W2.heap.size W2 (W2.alloc (.map #[] 0)) := (Below.refl _ _).alloc (Nat.le_refl _) _
        have kM : MapNew (W2.alloc (.map #[] 0)) W2.heap.size := World.alloc_heap_new _ _
        obtain ⟨mP, hmP⟩ : ∃ mP, W2.heap.size = mP := ⟨_, rfl⟩
        have hmPl : w0.heap.size ≤ mP := by have := hS2.2.size; omega
        obtain ⟨W3, hN⟩ : ∃ W3, W2.alloc (.map #[] 0) = W3 := ⟨_, rfl⟩
        rw [hN] at hx kM ⊢
        rw [hmP] at kM ⊢
        clear hN hmP
        replace hvs := hvs.of_block fun k hk => hx.block k (hvs.blk k hk).2
        replace kP := kP.later hx
        refine hK'.out _ _ ⟨boxed_later hS2.1 hx, hS2.2.trans (hx.mono hS2.2.size)⟩ fun hS3 => ?_
        clear hK' hS2 hx
        refine wpAnyH_take (i := 7) (v := ?vr2f7) rfl (by kernel_rfl) (by kernel_rfl) (by kernel_rfl) (fun _ _ _ h => h) (.inl ⟨by rfl, ?yr2f7⟩) hS3 ?_
        case yr2f7 =>
          intro w' hS
          (clear hS)
          go_simp
          try with_reducible rfl
        obtain ⟨c0, c1, c2, c3⟩ := kP.c
        have f0 := kP.frozen 0
        have f1 := kP.frozen 1
        have f2 := kP.frozen 2
        have f3 := kP.frozen 3
        refine wpAnyH_ready (rs := [9]) (by kernel_rfl) (by simp) ?_
        refine AllReadyH.cons rfl (fun K' hK' => ?_) AllReadyH.nil
        rw [if_pos (by rfl)]
        go_simp
        clear c0 c1 c2 c3 f0 f1 f2 f3
        obtain ⟨W4, hW4, q1, q2, q3, q4, q5⟩ := fill_facts kP kM hvs (.slice a zs.length cap) (.slice none 0 0)
        rw [hW4]
        clear hW4 kP kM hvs
        have hB4 : Below w0.heap.size w0 W4 := hS3.2.grown q4 hS3.2.size (fun j e => by have := Option.some.inj e; omega)
        have bT4 : Boxed W4 w.heap.size 28 (.slice a zs.length cap) := hS3.1.kept q4 (fun e => by have := Option.some.inj e; omega)
        refine hK'.out _ _ ⟨bT4, hB4⟩ fun hS4 => ?_
        refine wpAnyH_done (by kernel_rfl) ?_ _
        have hBw : Below w.heap.size w W4 := hB0.trans (hB4.mono hB0.size)
        have k1 := bT4.cell
        have Hl8 := Lib.hid hl8
        clear hK' hS3 hS4 hl8 bT4 bT0 q4 hmk
        go_wp2_with fail
        refine (taskStateOf_c _ zs W4 (hI.later hBw) Hl8.out.2 (fun k hk => by have := tasksOk_nth ht hk; omega)).mono ?_
        rintro e W5 ⟨rfl, hb5⟩
        go_wp2_with fail
        have hB5 : Below w.heap.size w W5 := hBw.trans (hb5.mono hBw.size)
        have p1 := q1.later hb5
        have p3 := q3.below hb5
        have hub := unkP_bd ht h4 (fun _ => none)
        refine (goOn_c ht rfl (unkP zs (fun _ => none)) (.slice none 0 0) [] (2 * unkP zs (fun _ => none)) (fun _ => none) W5 zs (Nat.le_refl _) ⟨p1, PMap.new (q2.later hb5), ownI_nil _ _, hI.below hB5, p3, fun k hk => (p3.blk k hk).2, Nat.le_refl _, p1.lt, (q2.later hb5).lt, by omega, by omega, q5⟩ (WayP.nil _ _) (KnowP.start _ _) rfl (by omega) (by simp; omega)).mono ?_
        rintro e W6 ⟨v', ps', P', E6, hc6, -, -, hcase⟩
        have hB6 : Below w.heap.size w W6 := hc6.below hB5 (fun k hk h => by
          rcases h with h | h | h
          · omega
          · omega
          · simp [Value.ownBlock] at h) hB5.size
        have ho6 := E6.row.base hB5.size
        have k6 := E6.plr.c2
        clear E6 hc6 p1 p3 hb5 hB5 q1 q2 q3 k1 hBw
        rcases hcase with ⟨p, rfl, hf, hl⟩ | ⟨rfl, rfl, -, hnl⟩
        · go_wp2
          go_ret3
          exact ⟨hB6, v', ps', ho6, .inl ⟨p, rfl, hf, hl⟩⟩
        · go_wp2
          go_ret3
          exact ⟨hB6, v', [], ho6, .inr ⟨rfl, hnl⟩⟩
    · rw [if_pos (by rfl)]
      go_simp
      have hx : Below W1.heap.size W1 (W1.alloc (.map #[] 0)) := (Below.refl _ _).alloc (Nat.le_refl _) _
      have kM : MapNew (W1.alloc (.map #[] 0)) W1.heap.size := World.alloc_heap_new _ _
      obtain ⟨mP, hmP⟩ : ∃ mP, W1.heap.size = mP := ⟨_, rfl⟩
      have hmPl : w0.heap.size ≤ mP := by have := hS1.2.size; omega
      obtain ⟨W2, hN⟩ : ∃ W2, W1.alloc (.map #[] 0) = W2 := ⟨_, rfl⟩
      rw [hN] at hx kM ⊢
      rw [hmP] at kM ⊢
      clear hN hmP
      replace kP := kP.later hx
      refine hK'.out _ _ ⟨boxed_later hS1.1 hx, hS1.2.trans (hx.mono hS1.2.size)⟩ fun hS2 => ?_
      clear hK' hS1 hx
      refine wpAnyH_ready (rs := [5]) (by kernel_rfl) (by simp) ?_
      refine (AllReadyH.cons rfl (fun K' hK' => ?_) AllReadyH.nil)
      · rw [if_pos (by rfl)]
        go_simp
        refine (setsOf_c zs.length m W2 hl8.2).mono ?_
        rintro e W3 ⟨vs, rfl, hvs, hx⟩
        obtain ⟨av, cv, rfl⟩ := hvs.ints.shape
        simp only [id]
        replace hvs := hvs.base (show w.heap.size ≤ W2.heap.size by have := hS2.2.size; omega)
        replace kM := kM.later hx
        replace kP := kP.later hx
        refine hK'.out _ _ ⟨boxed_later hS2.1 hx, hS2.2.trans (hx.mono hS2.2.size)⟩ fun hS3 => ?_
        clear hK' hS2 hx
        refine wpAnyH_take (i := 7) (v := ?vr2g7) rfl (by kernel_rfl) (by kernel_rfl) (by kernel_rfl) (fun _ _ _ h => h) (.inl ⟨by rfl, ?yr2g7⟩) hS3 ?_
        case yr2g7 =>
          intro w' hS
          (clear hS)
          go_simp
          try with_reducible rfl
        obtain ⟨c0, c1, c2, c3⟩ := kP.c
        have f0 := kP.frozen 0
        have f1 := kP.frozen 1
        have f2 := kP.frozen 2
        have f3 := kP.frozen 3
        refine wpAnyH_ready (rs := [9]) (by kernel_rfl) (by simp) ?_
        refine AllReadyH.cons rfl (fun K' hK' => ?_) AllReadyH.nil
        rw [if_pos (by rfl)]
        go_simp
        clear c0 c1 c2 c3 f0 f1 f2 f3
        obtain ⟨W4, hW4, q1, q2, q3, q4, q5⟩ := fill_facts kP kM hvs (.slice a zs.length cap) (.slice none 0 0)
        rw [hW4]
        clear hW4 kP kM hvs
        have hB4 : Below w0.heap.size w0 W4 := hS3.2.grown q4 hS3.2.size (fun j e => by have := Option.some.inj e; omega)
        have bT4 : Boxed W4 w.heap.size 28 (.slice a zs.length cap) := hS3.1.kept q4 (fun e => by have := Option.some.inj e; omega)
        refine hK'.out _ _ ⟨bT4, hB4⟩ fun hS4 => ?_
        refine wpAnyH_done (by kernel_rfl) ?_ _
        have hBw : Below w.heap.size w W4 := hB0.trans (hB4.mono hB0.size)
        have k1 := bT4.cell
        have Hl8 := Lib.hid hl8
        clear hK' hS3 hS4 hl8 bT4 bT0 q4 hmk
        go_wp2_with fail
        refine (taskStateOf_c _ zs W4 (hI.later hBw) Hl8.out.2 (fun k hk => by have := tasksOk_nth ht hk; omega)).mono ?_
        rintro e W5 ⟨rfl, hb5⟩
        go_wp2_with fail
        have hB5 : Below w.heap.size w W5 := hBw.trans (hb5.mono hBw.size)
        have p1 := q1.later hb5
        have p3 := q3.below hb5
        have hub := unkP_bd ht h4 (fun _ => none)
        refine (goOn_c ht rfl (unkP zs (fun _ => none)) (.slice none 0 0) [] (2 * unkP zs (fun _ => none)) (fun _ => none) W5 zs (Nat.le_refl _) ⟨p1, PMap.new (q2.later hb5), ownI_nil _ _, hI.below hB5, p3, fun k hk => (p3.blk k hk).2, Nat.le_refl _, p1.lt, (q2.later hb5).lt, by omega, by omega, q5⟩ (WayP.nil _ _) (KnowP.start _ _) rfl (by omega) (by simp; omega)).mono ?_
        rintro e W6 ⟨v', ps', P', E6, hc6, -, -, hcase⟩
        have hB6 : Below w.heap.size w W6 := hc6.below hB5 (fun k hk h => by
          rcases h with h | h | h
          · omega
          · omega
          · simp [Value.ownBlock] at h) hB5.size
        have ho6 := E6.row.base hB5.size
        have k6 := E6.plr.c2
        clear E6 hc6 p1 p3 hb5 hB5 q1 q2 q3 k1 hBw
        rcases hcase with ⟨p, rfl, hf, hl⟩ | ⟨rfl, rfl, -, hnl⟩
        · go_wp2
          go_ret3
          exact ⟨hB6, v', ps', ho6, .inl ⟨p, rfl, hf, hl⟩⟩
        · go_wp2
          go_ret3
          exact ⟨hB6, v', [], ho6, .inr ⟨rfl, hnl⟩⟩

end Go.Proofs.Ytieobjoijalijaa
