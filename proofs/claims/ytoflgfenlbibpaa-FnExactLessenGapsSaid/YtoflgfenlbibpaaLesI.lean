/-
  LessenGaps of both.
  Conditions: lists of at most 1048576 elements.
-/
import Derived.Test.YtoflgfenlbibpaaLes
import Derived.Test.YtoflgfenlbibpaaSort
namespace Go.Proofs.Ytoflgfenlbibpaa
open Go.RowKit Go.Shelf
attribute [local go_sem] Oper.semAt_some

set_option maxRecDepth 100000 in
set_option maxHeartbeats 8000000 in
theorem i_LessenGaps (c0 : Value) (zs : List Int) (x : Int) (w : World) (hI : Ints w.heap.size w c0 zs) (_hN : I64s zs) (hm : zs.length ≤ 1048576) (hx : I64 x) :
    Calls Try.prog 91 #[.agg #[c0], .int .i64 x] w (GivesI w (lesR zs x) fun v => .tuple #[.agg #[v], .int .i64 (lesC zs x)]) := by
  obtain ⟨a, cap, rfl⟩ := hI.shape
  obtain ⟨hx0, hx1⟩ := hx
  go_enter Try.func91, Try.ntmps91
  go_wp2_with fail
  obtain ⟨W0, hW1⟩ : ∃ W0, ((w.alloc (.cells #[.slice a zs.length cap] 26)).alloc (.cells #[.slice none 0 0] 26)) = W0 := ⟨_, rfl⟩
  have hB1 : Below w.heap.size w W0 := by rw [← hW1]; exact (((Below.refl _ w).alloc (Nat.le_refl _) _).alloc (by simp; try omega) _)
  have hs1 : w.heap.size + 2 ≤ W0.heap.size := by rw [← hW1]; simp
  have bT : Boxed W0 (w.heap.size) 26 (.slice a zs.length cap) := by rw [← hW1]; repeat first | (refine boxed_at ?_; (simp; done)) | refine Boxed.alloc ?_ _
  have bQ : Boxed W0 (w.heap.size + 1) 26 (.slice none 0 0) := by rw [← hW1]; repeat first | (refine boxed_at ?_; (simp; done)) | refine Boxed.alloc ?_ _
  rw [hW1]
  clear hW1
  refine (isTasks_c _ zs _ (hI.later hB1) (by omega)).mono ?_
  rintro e w1 ⟨rfl, hb⟩
  have hB2 := hB1.trans (hb.mono (by omega))
  have hs2 := hb.size
  replace bT := boxed_later bT hb
  replace bQ := boxed_later bQ hb
  have cT := bT.cell
  have cQ := bQ.cell
  have fQ := bQ.frozen
  clear hb hB1
  cases ht : tasksOk zs
  · have Hc := Lib.hid (show lesC zs x = 1 by unfold lesC; rw [ht]; rfl)
    have Hr := Lib.hid (show lesR zs x = [] by unfold lesR; rw [Hc.out]; rfl)
    clear ht
    go_wp2_with fail
    have k1 := (bQ.set (.slice none 0 0)).cell
    exact bodyPost_ret (v := .tuple #[.agg #[.slice none 0 0], .int .i64 1]) (by simp [results, Try.f91, go_sem, k1]) rfl ⟨_, ret_t2 Hc.out.symm, by rw [Hr.out]; exact ownI_nil _ _, hB2.setCell (p := ⟨w.heap.size + 1, 0, none⟩) (by show w.heap.size ≤ w.heap.size + 1; omega) _⟩
  have hl := tasksOk_len ht
  have Ht := Lib.hid ht
  clear ht
  by_cases hin : 1 ≤ x ∧ x ≤ 40
  · have Hin := Lib.hid (show inB x 1 40 = true from inB_true.2 hin)
    have h1 : ¬ x < 1 := by omega
    have h2 : ¬ 40 < x := by omega
    go_wp2_with fail
    refine (min_c _ zs _ (hI.later hB2) (by omega) (by omega)).mono ?_
    rintro e w2 ⟨rfl, rfl⟩
    by_cases hlt : leastL zs < x
    · have Hc := Lib.hid (show lesC zs x = 5 by unfold lesC; rw [Ht.out, if_pos rfl, Hin.out, if_pos rfl, if_pos hlt])
      have Hr := Lib.hid (show lesR zs x = [] by unfold lesR; rw [Hc.out]; rfl)
      go_wp2_with fail
      have k1 := (bQ.set (.slice none 0 0)).cell
      exact bodyPost_ret (v := .tuple #[.agg #[.slice none 0 0], .int .i64 5]) (by simp [results, Try.f91, go_sem, k1]) rfl ⟨_, ret_t2 Hc.out.symm, by rw [Hr.out]; exact ownI_nil _ _, hB2.setCell (p := ⟨w.heap.size + 1, 0, none⟩) (by show w.heap.size ≤ w.heap.size + 1; omega) _⟩
    · have hc0 : lesC zs x = 0 := by unfold lesC; rw [Ht.out, if_pos rfl, Hin.out, if_pos rfl, if_neg hlt]
      have Hc := Lib.hid hc0
      have Hr := Lib.hid (show lesR zs x = lesTo x zs zs.length by unfold lesR; rw [if_pos hc0])
      clear hc0
      have hfw : Try.prog.follows Departure.mixedOrders = true := by kernel_rfl
      have hbd : ∀ k, k < zs.length → nth zs k ≤ 40 := fun k hk => (tasksOk_nth Ht.out hk).2
      have Hbd := Lib.hid hbd
      clear hbd
      go_wp2_with fail
      refine wp_region_held_drew (S := fun w' => Boxed w' w.heap.size 26 (.slice a zs.length cap) ∧ Below w.heap.size w w') hfw ⟨bT, hB2.drew⟩ ?_
      intro hS0
      refine wpAnyH_take (i := 0) (v := ?v0) rfl (by kernel_rfl) (by kernel_rfl) (by kernel_rfl) (fun _ _ _ h => h) (.inl ⟨by rfl, ?y0⟩) hS0 ?_
      case y0 =>
        intro w' hS
        (have k1 := hS.1.cell; clear hS)
        go_simp
        try with_reducible rfl
      refine wpAnyH_take (i := 1) (v := ?v1) rfl (by kernel_rfl) (by kernel_rfl) (by kernel_rfl) (fun _ _ _ h => h) (.inl ⟨by rfl, ?y1⟩) hS0 ?_
      case y1 =>
        intro w' hS
        (have k1 := hS.1.cell; clear hS)
        go_simp
        try with_reducible rfl
      refine wpAnyH_ready (rs := [2]) (by kernel_rfl) (by simp) ?_
      refine AllReadyH.cons rfl (fun K' hK' => ?_) AllReadyH.nil
      rw [if_pos (by rfl)]
      go_simp
      refine (lessenedTo_c x _).mono ?_
      rintro e w3 ⟨rfl, rfl⟩
      have s1 := hS0.1.alloc (.cells #[.int .i64 x] 2)
      have s2 := hS0.2.alloc hS0.2.size (.cells #[.int .i64 x] 2)
      have s3 : Boxed (w1.drew.alloc (.cells #[.int .i64 x] 2)) w1.heap.size 2 (.int .i64 x) := Boxed.new w1.drew 2 (.int .i64 x)
      have s4 : Boxed (w1.drew.alloc (.cells #[.int .i64 x] 2)) (w.heap.size + 1) 26 (.slice none 0 0) := (show Boxed w1.drew (w.heap.size + 1) 26 (.slice none 0 0) from bQ).alloc _
      refine hK'.out _ _ ⟨s1, s2⟩ fun hS1 => ?_
      refine wpAnyH_take (i := 3) (v := ?vb3) rfl (by kernel_rfl) (by kernel_rfl) (by kernel_rfl) (fun _ _ _ h => h) (.inl ⟨by rfl, ?yb3⟩) hS1 ?_
      case yb3 =>
        intro w' hS
        (clear hS)
        go_simp
        try with_reducible rfl
      refine wpAnyH_ready (rs := [4]) (by kernel_rfl) (by simp) ?_
      refine AllReadyH.cons rfl (fun K' hK' => ?_) AllReadyH.nil
      rw [if_pos (by rfl)]
      go_simp
      refine (tasksOfKind_les _ zs w1.heap.size x _ (hI.later s2) (by omega) s3 hin Hbd.out).mono ?_
      rintro e w4 ⟨v, rfl, ho, hb⟩
      have t1 := boxed_later s1 hb
      have t2 := s2.trans (hb.mono s2.size)
      have t4 := boxed_later s4 hb
      refine hK'.out _ _ ⟨t1, t2⟩ fun hS2 => ?_
      clear hS0 hS1 hS2 s1 s2 s3 s4 hb
      obtain ⟨av, cv, rfl⟩ := ho.ints.shape
      rw [lesTo_length] at ho ⊢
      have q1 := t4.cell
      have q2 := t4.frozen
      have hsz : w1.heap.size ≤ (w1.drew.alloc (.cells #[.int .i64 x] 2)).heap.size := by show w1.heap.size ≤ (w1.drew.alloc _).heap.size; rw [World.size_alloc]; exact Nat.le_succ _
      have ho9 : OwnI w.heap.size (w4.setCell ⟨w.heap.size + 1, 0, none⟩ (.slice av zs.length cv)) (.slice av zs.length cv) (lesTo x zs zs.length) := (ho.kept (grownBy_setCell2 _ _ _ _) (.inr (fun e => by have := (ho.blk _ e).1; omega))).base (by omega)
      have t5 := t2.setCell (p := ⟨w.heap.size + 1, 0, none⟩) (by show w.heap.size ≤ w.heap.size + 1; omega) (.slice av zs.length cv)
      have k1 := (t4.set (.slice av zs.length cv)).cell
      clear ho hsz
      refine wpAnyH_ready (rs := [5]) (by kernel_rfl) (by simp) ?_
      refine AllReadyH.cons rfl (fun K' hK' => ?_) AllReadyH.nil
      rw [if_pos (by rfl)]
      go_simp
      refine hK'.out _ _ ⟨boxed_setFar t1 (by omega), t5⟩ fun hS4 => ?_
      refine wpAnyH_take (i := 6) (v := ?vc6) rfl (by kernel_rfl) (by kernel_rfl) (by kernel_rfl) (fun _ _ _ h => h) (.inl ⟨by rfl, ?yc6⟩) hS4 ?_
      case yc6 =>
        intro w' hS
        (clear hS)
        go_simp
        try with_reducible rfl
      refine wpAnyH_done (by kernel_rfl) ?_ _
      clear hS4 hK' q1 q2 t1
      go_wp2_with fail
      exact bodyPost_ret (v := .tuple #[.agg #[.slice av zs.length cv], .int .i64 0]) (by simp [results, Try.f91, go_sem, k1]) rfl ⟨_, ret_t2 Hc.out.symm, by rw [Hr.out]; exact ho9, t5⟩
  · have Hin := Lib.hid (show inB x 1 40 = false by rw [inB_false]; omega)
    have Hc := Lib.hid (show lesC zs x = 2 by unfold lesC; rw [Ht.out, if_pos rfl, Hin.out]; rfl)
    have Hr := Lib.hid (show lesR zs x = [] by unfold lesR; rw [Hc.out]; rfl)
    by_cases h1 : x < 1
    · go_wp2_with fail
      have k1 := (bQ.set (.slice none 0 0)).cell
      exact bodyPost_ret (v := .tuple #[.agg #[.slice none 0 0], .int .i64 2]) (by simp [results, Try.f91, go_sem, k1]) rfl ⟨_, ret_t2 Hc.out.symm, by rw [Hr.out]; exact ownI_nil _ _, hB2.setCell (p := ⟨w.heap.size + 1, 0, none⟩) (by show w.heap.size ≤ w.heap.size + 1; omega) _⟩
    · have h2 : 40 < x := by omega
      go_wp2_with fail
      have k1 := (bQ.set (.slice none 0 0)).cell
      exact bodyPost_ret (v := .tuple #[.agg #[.slice none 0 0], .int .i64 2]) (by simp [results, Try.f91, go_sem, k1]) rfl ⟨_, ret_t2 Hc.out.symm, by rw [Hr.out]; exact ownI_nil _ _, hB2.setCell (p := ⟨w.heap.size + 1, 0, none⟩) (by show w.heap.size ≤ w.heap.size + 1; omega) _⟩

/-- is no gap less than x? -/
def lesOk (zs : List Int) (x : Int) : Bool := decide (x ≤ leastL zs)
def lesV (zs : List Int) (x : Int) : List Int := if lesOk zs x then lesTo x zs zs.length else []
theorem lesOk_no {zs : List Int} {x : Int} {k : Nat} (hk : k < zs.length) (h : nth zs k < x) : lesOk zs x = false := decide_eq_false (by have := leastL_le hk; omega)
theorem lesOk_yes {zs : List Int} {x : Int} (h0 : 0 < zs.length) (h : ∀ m, m < zs.length → x ≤ nth zs m) : lesOk zs x = true := by
  obtain ⟨j, hj, e⟩ := leastL_mem (zs := zs) h0
  exact decide_eq_true (by rw [e]; exact h j hj)
theorem ret_tb {v : Value} {a a' : Bool} (h : a = a') : Ending.returned (.tuple #[v, .bool a]) = .returned (.tuple #[v, .bool a']) := by rw [h]

set_option maxRecDepth 100000 in
set_option maxHeartbeats 8000000 in
theorem l03Lessened_c (c0 : Value) (zs : List Int) (x : Int) (w : World) (hI : Ints w.heap.size w c0 zs) (ht : tasksOk zs = true) (hx : 1 ≤ x ∧ x ≤ 41) :
    Calls Try.prog 186 #[.agg #[c0], .int .i64 x] w fun e w' => ∃ v, e = .returned (.tuple #[.agg #[v], .bool (lesOk zs x)]) ∧ OwnI w.heap.size w' v (lesV zs x) ∧ Below w.heap.size w w' := by
  obtain ⟨i0, hi, hz0, hz1, hz2⟩ := info_parts Try.infoI2
  obtain ⟨a, cap, rfl⟩ := hI.shape
  have hl := tasksOk_len ht
  have Ht := Lib.hid ht
  clear ht
  go_enter Try.func186, Try.ntmps186
  go_wp2
  have ho0 := (ownI_empty ((w.alloc (.cells #[.slice a zs.length cap] 26)).alloc (.cells #[.slice none 0 0] 26))).alloc (.cells #[.slice (some ⟨w.heap.size + 1 + 1, 0, none⟩) 0 0] 26)
  simp only [World.size_alloc] at ho0
  obtain ⟨W0, hW0⟩ : ∃ W0, (((w.alloc (.cells #[.slice a zs.length cap] 26)).alloc (.cells #[.slice none 0 0] 26)).alloc (.cells #[] 2)).alloc (.cells #[.slice (some ⟨w.heap.size + 1 + 1, 0, none⟩) 0 0] 26) = W0 := ⟨_, rfl⟩
  have hB0 : Below w.heap.size w W0 := by rw [← hW0]; exact ((((Below.refl _ w).alloc (Nat.le_refl _) _).alloc (by simp) _).alloc (by simp; omega) _).alloc (by simp; omega) _
  have bT : Boxed W0 w.heap.size 26 (.slice a zs.length cap) := by rw [← hW0]; repeat first | (refine boxed_at ?_; (simp; done)) | refine Boxed.alloc ?_ _
  have bQ : Boxed W0 (w.heap.size + 1) 26 (.slice none 0 0) := by rw [← hW0]; repeat first | (refine boxed_at ?_; (simp; done)) | refine Boxed.alloc ?_ _
  have bO : Boxed W0 (w.heap.size + 1 + 1 + 1) 26 (.slice (some ⟨w.heap.size + 1 + 1, 0, none⟩) 0 0) := by rw [← hW0]; repeat first | (refine boxed_at ?_; (simp; done)) | refine Boxed.alloc ?_ _
  have hsz0 : w.heap.size + 4 ≤ W0.heap.size := by rw [← hW0]; simp
  rw [hW0] at ho0 ⊢
  clear hW0
  go_loopw [7] (fun i wr => ∃ (k : Nat) (v : Value), k ≤ zs.length ∧ i = .int .i64 k ∧ Boxed wr (w.heap.size + 1 + 1 + 1) 26 v ∧ OwnI (w.heap.size + 1 + 1) wr v (lesTo x zs k) ∧ (∀ m, m < k → x ≤ nth zs m) ∧ Boxed wr w.heap.size 26 (.slice a zs.length cap) ∧ Boxed wr (w.heap.size + 1) 26 (.slice none 0 0) ∧ Below w.heap.size w wr) (fun i _ => zs.length - (intOf i).toNat)
  case atStart => exact ⟨0, _, Nat.zero_le _, rfl, bO, ho0, fun m h => by omega, bT, bQ, hB0⟩
  case round =>
    obtain ⟨k, v, hk, rfl, bOk, hok, hall, bTk, bQk, hB⟩ := hrel
    have Hall := Lib.hid hall
    clear bO ho0 bT bQ hB0 hall
    have cO := bOk.cell
    have fO := bOk.frozen
    have cT := bTk.cell
    have cQ := bQk.cell
    have fQ := bQk.frozen
    obtain ⟨av, cv, ev⟩ := hok.ints.shape
    rw [lesTo_length] at ev
    subst ev
    by_cases hlt : k < zs.length
    · obtain ⟨b, off, rfl, hb, hc⟩ := (hI.below hB).at_ hlt
      have hcx := hc k hlt
      have hg := tasksOk_nth Ht.out hlt
      clear hc
      by_cases hlow : nth zs k < x
      · have hd := lesOk_no hlt hlow
        have Hd := Lib.hid hd
        have Hv := Lib.hid (show lesV zs x = [] by unfold lesV; rw [hd]; rfl)
        clear hd
        go_wp2
        have k1 := (bQk.set (.slice none 0 0)).cell
        exact bodyPost_ret (v := .tuple #[.agg #[.slice none 0 0], .bool false]) (by simp [results, Try.f186, go_sem, k1]) rfl ⟨_, ret_tb Hd.out.symm, by rw [Hv.out]; exact ownI_nil _ _, hB.setCell (p := ⟨w.heap.size + 1, 0, none⟩) (by show w.heap.size ≤ w.heap.size + 1; omega) _⟩
      · go_wp2
        go_loop [8] (fun i => ∃ (n : Nat) (o : Int), i = .int .i64 o ∧ les x (nth zs k) = dblF n o (nth zs k) ∧ 1 ≤ o ∧ o ≤ 40 ∧ 40 < o + n) (fun i => 41 - (intOf i).toNat)
        case atStart => exact ⟨64, x, rfl, rfl, hx.1, by omega, by omega⟩
        case round =>
          obtain ⟨n, o, rfl, he, h1, h2, h3⟩ := hrel
          have He := Lib.hid he
          clear he
          by_cases hd : 2 * o ≤ nth zs k
          · obtain ⟨m, rfl⟩ : ∃ m, n = m + 1 := ⟨n - 1, by omega⟩
            have Hs := Lib.hid (dblF_step (n := m) hd)
            go_wp2
            exact ⟨⟨m, 2 * o, rfl, by rw [He.out, Hs.out], by omega, by omega, by omega⟩, by simp [intOf]; omega⟩
          · have Hs := Lib.hid (dblF_stop (n := n) hd)
            have hle : les x (nth zs k) = o := by rw [He.out, Hs.out]
            have Hle := Lib.hid hle
            clear hle
            have hrow : wr.ownsRow (w.heap.size + 1 + 1) 2 1 (.slice av k cv) k ((lesTo x zs k).map (.int .i64)) := by have h := hok; unfold OwnI at h; rwa [lesTo_length] at h
            have hbk := hok.blk
            have hne := ownI_ne_box hok bOk
            have hpB := hB.size
            have hbo := bOk.lt
            have Hsu := Lib.hid (lesTo_succ x zs k)
            go_wp2_with (at_builtin; refine wpList_append_own _ rfl _ _ 24 rfl (w.heap.size + 1 + 1) 2 i0 (.int .i64 0) 1 8 Try.underlying24 hi hz0 hz1 hz2 rfl (by decide) _ _ _ rfl (World.ownsRow.alloc hrow _) ⟨wr.heap.size, 0, none⟩ 1 1 [.int .i64 o] rfl rfl (Go.cell_one_new _ _ _) (by simp [Value.oneCell']) (by unfold maxLen; omega) (by omega) (by simp; omega) ?_)
            intro v' w4 hown' hgrow _
            have ho4 := ownI_snoc (xs := lesTo x zs k) (x := o) (by rw [lesTo_length]; exact hown')
            rw [← Hle.out, ← Hsu.out] at ho4
            obtain ⟨g, c2, rfl, hg1, hg2⟩ := ho4.shape (by rw [lesTo_length]; omega)
            rw [lesTo_length] at ho4
            rw [lesTo_length]
            have b4 := (bOk.alloc (.cells #[.int .i64 o] 2)).kept hgrow (fun e => hne e.symm)
            have t4 := (bTk.alloc (.cells #[.int .i64 o] 2)).kept hgrow (fun e => by have := (hbk _ e.symm).1; omega)
            have q4 := (bQk.alloc (.cells #[.int .i64 o] 2)).kept hgrow (fun e => by have := (hbk _ e.symm).1; omega)
            have hB4 : Below w.heap.size w w4 := (hB.alloc hB.size _).grown hgrow (by simp; omega) (fun j e => by have := (hbk j e).1; omega)
            clear hown' hgrow hrow cO fO cT cQ fQ
            have cO := b4.cell
            have fO := b4.frozen
            have hge : x ≤ nth zs k := by omega
            go_wp2
            go_roundw
            case rel => exact ⟨k + 1, _, by omega, by simp, b4.set _, ho4.kept (grownBy_setCell2 _ _ _ _) (.inr (ownI_ne_box ho4 b4)), fun m hm => by by_cases e : m = k; (subst e; exact hge); exact Hall.out m (by omega), boxed_setFar t4 (by omega), boxed_setFar q4 (by omega), hB4.setCell (p := ⟨w.heap.size + 1 + 1 + 1, 0, none⟩) (by show w.heap.size ≤ w.heap.size + 1 + 1 + 1; omega) _⟩
            case measure => simp [intOf]; omega
    · obtain rfl : k = zs.length := by omega
      have hd := lesOk_yes (by omega) Hall.out
      have Hd := Lib.hid hd
      have Hv := Lib.hid (show lesV zs x = lesTo x zs zs.length by unfold lesV; rw [hd]; rfl)
      clear hd
      go_wp2
      have k1 := (bQk.set (.slice av zs.length cv)).cell
      have ho9 : OwnI w.heap.size (wr.setCell ⟨w.heap.size + 1, 0, none⟩ (.slice av zs.length cv)) (.slice av zs.length cv) (lesTo x zs zs.length) := (hok.kept (grownBy_setCell2 _ _ _ _) (.inr (fun e => by have := (hok.blk _ e).1; omega))).base (by omega)
      exact bodyPost_ret (v := .tuple #[.agg #[.slice av zs.length cv], .bool true]) (by simp [results, Try.f186, go_sem, k1]) rfl ⟨_, ret_tb Hd.out.symm, by rw [Hv.out]; exact ho9, hB.setCell (p := ⟨w.heap.size + 1, 0, none⟩) (by show w.heap.size ≤ w.heap.size + 1; omega) _⟩

set_option maxRecDepth 100000 in
set_option maxHeartbeats 8000000 in
theorem s_LessenGaps (c0 : Value) (zs : List Int) (x : Int) (w : World) (hI : Ints w.heap.size w c0 zs) (_hN : I64s zs) (hm : zs.length ≤ 1048576) (hx : I64 x) :
    Calls Try.prog 90 #[.agg #[c0], .int .i64 x] w (GivesI w (lesR zs x) fun v => .tuple #[.agg #[v], .int .i64 (lesC zs x)]) := by
  obtain ⟨a, cap, rfl⟩ := hI.shape
  obtain ⟨hx0, hx1⟩ := hx
  go_enter Try.func90, Try.ntmps90
  go_wp2_with fail
  obtain ⟨W0, hW1⟩ : ∃ W0, ((w.alloc (.cells #[.slice a zs.length cap] 26)).alloc (.cells #[.slice none 0 0] 26)) = W0 := ⟨_, rfl⟩
  have hB1 : Below w.heap.size w W0 := by rw [← hW1]; exact (((Below.refl _ w).alloc (Nat.le_refl _) _).alloc (by simp; try omega) _)
  have hs1 : w.heap.size + 2 ≤ W0.heap.size := by rw [← hW1]; simp
  have bT : Boxed W0 (w.heap.size) 26 (.slice a zs.length cap) := by rw [← hW1]; repeat first | (refine boxed_at ?_; (simp; done)) | refine Boxed.alloc ?_ _
  have bQ : Boxed W0 (w.heap.size + 1) 26 (.slice none 0 0) := by rw [← hW1]; repeat first | (refine boxed_at ?_; (simp; done)) | refine Boxed.alloc ?_ _
  rw [hW1]
  clear hW1
  refine (l01Is_c _ zs _ (hI.later hB1) (by omega)).mono ?_
  rintro e w1 ⟨rfl, hb⟩
  have hB2 := hB1.trans (hb.mono (by omega))
  have hs2 := hb.size
  replace bT := boxed_later bT hb
  replace bQ := boxed_later bQ hb
  have cT := bT.cell
  have cQ := bQ.cell
  have fQ := bQ.frozen
  clear hb hB1
  cases ht : tasksOk zs
  · have Hc := Lib.hid (show lesC zs x = 1 by unfold lesC; rw [ht]; rfl)
    have Hr := Lib.hid (show lesR zs x = [] by unfold lesR; rw [Hc.out]; rfl)
    clear ht
    go_wp2_with fail
    have k1 := (bQ.set (.slice none 0 0)).cell
    exact bodyPost_ret (v := .tuple #[.agg #[.slice none 0 0], .int .i64 1]) (by simp [results, Try.f90, go_sem, k1]) rfl ⟨_, ret_t2 Hc.out.symm, by rw [Hr.out]; exact ownI_nil _ _, hB2.setCell (p := ⟨w.heap.size + 1, 0, none⟩) (by show w.heap.size ≤ w.heap.size + 1; omega) _⟩
  have hl := tasksOk_len ht
  have Ht := Lib.hid ht
  clear ht
  cases hin : inB x 1 40
  · have Hin := Lib.hid hin
    have Hc := Lib.hid (show lesC zs x = 2 by unfold lesC; rw [Ht.out, if_pos rfl, hin]; rfl)
    have Hr := Lib.hid (show lesR zs x = [] by unfold lesR; rw [Hc.out]; rfl)
    clear hin
    go_wp2_with fail
    refine (l01In_d false _ _ _ _ Hin.out).mono ?_
    rintro e w3 ⟨rfl, rfl⟩
    go_wp2_with fail
    have k1 := (bQ.set (.slice none 0 0)).cell
    exact bodyPost_ret (v := .tuple #[.agg #[.slice none 0 0], .int .i64 2]) (by simp [results, Try.f90, go_sem, k1]) rfl ⟨_, ret_t2 Hc.out.symm, by rw [Hr.out]; exact ownI_nil _ _, hB2.setCell (p := ⟨w.heap.size + 1, 0, none⟩) (by show w.heap.size ≤ w.heap.size + 1; omega) _⟩
  have Hin := Lib.hid hin
  have hxb := inB_true.1 hin
  clear hin
  go_wp2_with fail
  refine (l01In_d true _ _ _ _ Hin.out).mono ?_
  rintro e w3 ⟨rfl, rfl⟩
  go_wp2_with fail
  refine (l03Lessened_c _ zs x _ (hI.later hB2) Ht.out (by omega)).mono ?_
  rintro e w4 ⟨v, rfl, ho, hb⟩
  have hB3 := hB2.trans (hb.mono hB2.size)
  have hs3 := hb.size
  have hs12 : w.heap.size + 2 ≤ w1.heap.size := by omega
  replace bT := boxed_later bT hb
  replace bQ := boxed_later bQ hb
  clear hb hB2 cT cQ fQ
  cases hok : lesOk zs x
  · have hlt : leastL zs < x := by unfold lesOk at hok; simpa using hok
    have Hc := Lib.hid (show lesC zs x = 5 by unfold lesC; rw [Ht.out, if_pos rfl, Hin.out, if_pos rfl, if_pos hlt])
    have Hr := Lib.hid (show lesR zs x = [] by unfold lesR; rw [Hc.out]; rfl)
    have hv : lesV zs x = [] := by unfold lesV; rw [hok]; rfl
    rw [hv] at ho
    clear hv hok hlt
    obtain ⟨av, cv, rfl⟩ := ho.ints.shape
    simp only [List.length_nil] at ho ⊢
    have cQ := (bQ.alloc (.cells #[.slice av 0 cv] 26)).cell
    have fQ := (bQ.alloc (.cells #[.slice av 0 cv] 26)).frozen
    have k1 := ((bQ.alloc (.cells #[.slice av 0 cv] 26)).set (.slice none 0 0)).cell
    go_wp2_with fail
    exact bodyPost_ret (v := .tuple #[.agg #[.slice none 0 0], .int .i64 5]) (by simp [results, Try.f90, go_sem, k1]) rfl ⟨_, ret_t2 Hc.out.symm, by rw [Hr.out]; exact ownI_nil _ _, (hB3.alloc hB3.size _).setCell (p := ⟨w.heap.size + 1, 0, none⟩) (by show w.heap.size ≤ w.heap.size + 1; omega) _⟩
  · have hlt : ¬ leastL zs < x := by unfold lesOk at hok; simp at hok; omega
    have hc0 : lesC zs x = 0 := by unfold lesC; rw [Ht.out, if_pos rfl, Hin.out, if_pos rfl, if_neg hlt]
    have Hc := Lib.hid hc0
    have Hr := Lib.hid (show lesR zs x = lesTo x zs zs.length by unfold lesR; rw [if_pos hc0])
    have hv : lesV zs x = lesTo x zs zs.length := by unfold lesV; rw [hok]; rfl
    rw [hv] at ho
    clear hv hok hlt hc0
    obtain ⟨av, cv, rfl⟩ := ho.ints.shape
    rw [lesTo_length] at ho ⊢
    have cQ := (bQ.alloc (.cells #[.slice av zs.length cv] 26)).cell
    have fQ := (bQ.alloc (.cells #[.slice av zs.length cv] 26)).frozen
    have k1 := ((bQ.alloc (.cells #[.slice av zs.length cv] 26)).set (.slice av zs.length cv)).cell
    have hoA : OwnI w1.heap.size (w4.alloc (.cells #[.slice av zs.length cv] 26)) (.slice av zs.length cv) (lesTo x zs zs.length) := World.ownsRow.alloc ho _
    have ho9 : OwnI w.heap.size ((w4.alloc (.cells #[.slice av zs.length cv] 26)).setCell ⟨w.heap.size + 1, 0, none⟩ (.slice av zs.length cv)) (.slice av zs.length cv) (lesTo x zs zs.length) := (hoA.kept (grownBy_setCell2 _ _ _ _) (.inr (fun e => by have := (ho.blk _ e).1; omega))).base (by omega)
    go_wp2_with fail
    exact bodyPost_ret (v := .tuple #[.agg #[.slice av zs.length cv], .int .i64 0]) (by simp [results, Try.f90, go_sem, k1]) rfl ⟨_, ret_t2 Hc.out.symm, by rw [Hr.out]; exact ho9, (hB3.alloc hB3.size _).setCell (p := ⟨w.heap.size + 1, 0, none⟩) (by show w.heap.size ≤ w.heap.size + 1; omega) _⟩

end Go.Proofs.Ytoflgfenlbibpaa
