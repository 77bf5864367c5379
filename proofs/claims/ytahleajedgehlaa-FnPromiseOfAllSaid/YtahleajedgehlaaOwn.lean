/-
  Tasks with the gaps of a kind: their own ones.
  Conditions: lists of at most 1048576 elements.
-/
import Derived.Test.YtahleajedgehlaaLes
namespace Go.Proofs.Ytahleajedgehlaa
open Go.RowKit Go.Shelf
attribute [local go_sem] Oper.semAt_some

/-- the first k gaps -/
def lesTo0 (zs : List Int) (k : Nat) : List Int := (List.range k).map fun (m : Nat) => nth zs m
theorem lesTo0_succ (zs : List Int) (k : Nat) : lesTo0 zs (k + 1) = lesTo0 zs k ++ [nth zs k] := by simp [lesTo0, List.range_succ]
theorem lesTo0_length (zs : List Int) (k : Nat) : (lesTo0 zs k).length = k := by simp [lesTo0]
theorem lesTo0_all (zs : List Int) : lesTo0 zs zs.length = zs := ext_nth (lesTo0_length _ _) fun m hm => by
  rw [lesTo0_length] at hm
  simp [nth, lesTo0, hm]

set_option maxRecDepth 100000 in
set_option maxHeartbeats 8000000 in
theorem tasksOfKind_own (c0 : Value) (zs : List Int) (w : World) (hI : Ints w.heap.size w c0 zs) (hl : zs.length ≤ 1048576) :
    Calls Try.prog 37 #[.agg #[c0], .iface 37 (.agg #[])] w (GivesI w zs fun v => .agg #[v]) := by
  obtain ⟨i0, hi, hz0, hz1, hz2⟩ := info_parts Try.infoI2
  obtain ⟨a, cap, rfl⟩ := hI.shape
  refine (callsIn_wide (n := 9)).1 ?_
  refine callsIn_of_wp_marks Try.func37 rfl trivial ?_ rfl
  simp only [Try.ntmps37, List.size_toArray, List.length_cons, List.length_nil, Nat.reduceAdd, Nat.reduceSub, Array.replicate_succ, Array.replicate_zero, List.push_toArray, List.append_toArray, List.nil_append, List.cons_append]
  have hB0 : Below w.heap.size w ((((w.alloc (.cells #[.slice a zs.length cap] 24)).alloc (.cells #[.iface 37 (.agg #[])] 56)).alloc (.cells #[.slice none 0 0] 24)).alloc (.cells #[.slice none 0 0] 22)) :=
    ((((Below.refl _ w).alloc (Nat.le_refl _) _).alloc (by simp; try omega) _).alloc (by simp; try omega) _).alloc (by simp; try omega) _
  gi_wp2_with (first | (gi_at_call 21; refine (callsIn_wide.2 (numbered_c _ _ _ _)).mono ?_; rintro e w' ⟨rfl, rfl⟩) | (refine ⟨trivial, ?_⟩; gi_at_call 21; refine (callsIn_wide.2 (numbered_c _ _ _ _)).mono ?_; rintro e w' ⟨rfl, rfl⟩))
  obtain ⟨W0, hW0⟩ : ∃ W0, (((((w.alloc (.cells #[.slice a zs.length cap] 24)).alloc (.cells #[.iface 37 (.agg #[])] 56)).alloc (.cells #[.slice none 0 0] 24)).alloc (.cells #[.slice none 0 0] 22)).alloc (.cells #[.slice a zs.length cap] 22)) = W0 := ⟨_, rfl⟩
  have hB0 : Below w.heap.size w W0 := by rw [← hW0]; exact ((((((Below.refl _ w).alloc (Nat.le_refl _) _).alloc (by simp; try omega) _).alloc (by simp; try omega) _).alloc (by simp; try omega) _).alloc (by simp; try omega) _)
  have hs0 : w.heap.size + 5 ≤ W0.heap.size := by rw [← hW0]; simp
  have bT : Boxed W0 (w.heap.size) 24 (.slice a zs.length cap) := by rw [← hW0]; repeat first | (refine boxed_at ?_; (simp; done)) | refine Boxed.alloc ?_ _
  have bK : Boxed W0 (w.heap.size + 1) 56 (.iface 37 (.agg #[])) := by rw [← hW0]; repeat first | (refine boxed_at ?_; (simp; done)) | refine Boxed.alloc ?_ _
  have bQ : Boxed W0 (w.heap.size + 1 + 1) 24 (.slice none 0 0) := by rw [← hW0]; repeat first | (refine boxed_at ?_; (simp; done)) | refine Boxed.alloc ?_ _
  have bG : Boxed W0 (w.heap.size + 1 + 1 + 1) 22 (.slice none 0 0) := by rw [← hW0]; repeat first | (refine boxed_at ?_; (simp; done)) | refine Boxed.alloc ?_ _
  have bN : Boxed W0 (w.heap.size + 1 + 1 + 1 + 1) 22 (.slice a zs.length cap) := by rw [← hW0]; repeat first | (refine boxed_at ?_; (simp; done)) | refine Boxed.alloc ?_ _
  rw [hW0]
  clear hW0
  obtain ⟨top, htop⟩ : ∃ top, W0.heap.size + 2 + 0 = top := ⟨_, rfl⟩
  have Htop := Lib.hid htop
  refine range_outA rfl (by omega) rfl trivial (enters_of Try.func40 (by kernel_rfl) rfl) (numbered_at Fence.wide 8 trivial rfl (by omega) _ w.heap.size _ zs (by omega) W0 bN (by omega) (hI.below hB0)) (fun b hb => by omega) (fun _ => rfl)
    (fun k W => (∃ v, Boxed W (w.heap.size + 1 + 1 + 1) 22 v ∧ OwnI top W v (lesTo0 zs k)) ∧ Boxed W (w.heap.size + 1) 56 (.iface 37 (.agg #[])) ∧ Boxed W (w.heap.size + 1 + 1) 24 (.slice none 0 0) ∧ Below w.heap.size w W ∧ (k = 0 ∨ top ≤ W.heap.size))
    (fun _ _ _ => False)
    (OwnFrom.and (Own.from (boxRow_Own _ _ _ _) _) (OwnFrom.and (Own.from (boxed_own _ _ _) _) (OwnFrom.and (Own.from (boxed_own _ _ _) _) (OwnFrom.and (ownFrom_below (Nat.le_refl _) (by omega)) (ownFrom_size _ _)))))
    (fun _ _ _ _ _ hs _ _ => hs)
    ⟨⟨_, bG, ownI_nil _ _⟩, bK, bQ, hB0, .inl rfl⟩ ?a1 ?assign ?body ?done ?stop
  case assign =>
    intro l k W K hk hK
    simp only [numAt]
    gi_wp2
    exact hK
  case body =>
    rintro l k W hl2 hr ⟨⟨v, bG1, ho1⟩, bK1, bQ1, hB1, _⟩ hlt hsW
    have hsW2 : top ≤ W.heap.size := by omega
    have hbnd : ∀ j, top ≤ j → ¬ (Band (fun b => b < w.heap.size) W0.heap.size (W0.heap.size + 2 + 0)) j := fun j hj hx => by
      rcases hx with hx | hx
      · have : j < w.heap.size := hx
        omega
      · omega
    have Hbd := Lib.hid hbnd
    have Hn := Lib.hid (not_band (n := w.heap.size) (lo := W0.heap.size) (hi := W0.heap.size + 2 + 0) (b := (w.heap.size + 1 + 1 + 1)) (by omega) (by omega))
    have hwt : w.heap.size + 5 ≤ top := by omega
    clear htop hbnd hsW
    obtain ⟨av, cv, ev⟩ := ho1.ints.shape
    rw [lesTo0_length] at ev
    subst ev
    have Hsu := Lib.hid (lesTo0_succ zs k)
    have cG := bG1.cell
    have fG := bG1.frozen
    have cK := bK1.cell
    have hfw : Try.prog.follows Departure.mixedOrders = true := by kernel_rfl
    gi_wp2_with fail
    refine wpIn_region_held (S := fun w' => Boxed w' (w.heap.size + 1) 56 (.iface 37 (.agg #[])) ∧ Boxed w' (w.heap.size + 1 + 1) 24 (.slice none 0 0) ∧ Below w.heap.size w w' ∧ Kps (Band (fun b => b < w.heap.size) W0.heap.size (W0.heap.size + 2 + 0)) W w') hfw (by kernel_rfl) (fun ⟨_, _, h⟩ => h) ⟨bK1, bQ1, hB1.drew, ⟨Nat.le_refl _, fun _ _ _ => rfl⟩⟩ ?_
    intro hS0
    refine wpAnyH_take (i := 1) (v := ?v1) rfl (by kernel_rfl) (by kernel_rfl) (by kernel_rfl) (fun _ _ _ h => h) (.inl ⟨by rfl, ?y1⟩) hS0 ?_
    case y1 =>
      intro w' hS
      (have k1 := hS.1.cell; clear hS)
      go_simp
      try with_reducible rfl
    refine wpAnyH_take (i := 2) (v := ?v2) rfl (by kernel_rfl) (by kernel_rfl) (by kernel_rfl) (fun _ _ _ h => h) (.inl ⟨by rfl, ?y2⟩) hS0 ?_
    case y2 =>
      intro w' hS
      (have k1 := hS.1.cell; clear hS)
      go_simp
      try with_reducible rfl
    refine wpAnyH_ready (rs := [0, 3]) (by kernel_rfl) (by simp) ?_
    refine AllReadyH.cons rfl (fun K' hK' => ?_) (AllReadyH.cons rfl (fun K' hK' => ?_) AllReadyH.nil)
    · rw [if_pos (by rfl)]
      go_simp
      refine hK'.out _ _ hS0 fun hS9 => ?_
      clear hS9
      refine wpAnyH_ready (rs := [3]) (by kernel_rfl) (by simp) ?_
      refine AllReadyH.cons rfl (fun K' hK' => ?_) AllReadyH.nil
      rw [if_pos (by rfl)]
      go_simp
      refine (gapFor_own (nth zs k) _).mono ?_
      rintro e w9 ⟨rfl, hb9⟩
      have hS8 := show _ ∧ _ ∧ _ ∧ _ from ⟨boxed_later hS0.1 hb9, boxed_later hS0.2.1 hb9, hS0.2.2.1.trans (hb9.mono hS0.2.2.1.size), hS0.2.2.2.trans (Kps.below hb9)⟩
      have bG9 : Boxed w9 (w.heap.size + 1 + 1 + 1) 22 (.slice av k cv) := boxed_later (show Boxed W.drew (w.heap.size + 1 + 1 + 1) 22 (.slice av k cv) from bG1) hb9
      have hrow9 : w9.ownsRow top 2 1 (.slice av k cv) k ((lesTo0 zs k).map (.int .i64)) := by
        have h := (show OwnI top W.drew (.slice av k cv) (lesTo0 zs k) from ho1).below hb9
        unfold OwnI at h; rwa [lesTo0_length] at h
      have hs9 : top ≤ w9.heap.size := Nat.le_trans hsW2 hb9.size
      have cG9 := bG9.cell
      have fG9 := bG9.frozen
      clear hb9
      refine hK'.out _ _ hS8 fun hS7 => ?_
      clear hS7
      refine wpAnyH_ready (rs := [4]) (by kernel_rfl) (by simp) ?_
      refine AllReadyH.cons rfl (fun K' hK' => ?_) AllReadyH.nil
      rw [if_pos (by rfl)]
      go_simp
      have hS1 := show _ ∧ _ ∧ _ ∧ _ from ⟨hS8.1.alloc (.cells #[.int .i64 (nth zs k)] 2), hS8.2.1.alloc (.cells #[.int .i64 (nth zs k)] 2), hS8.2.2.1.alloc hS8.2.2.1.size (.cells #[.int .i64 (nth zs k)] 2), hS8.2.2.2.trans (Kps.alloc _ _ (.cells #[.int .i64 (nth zs k)] 2))⟩
      refine hK'.out _ _ hS1 fun hS7 => ?_
      clear hS7
      refine wpAnyH_ready (rs := [5]) (by kernel_rfl) (by simp) ?_
      refine AllReadyH.cons rfl (fun K' hK' => ?_) AllReadyH.nil
      rw [if_pos (by rfl)]
      refine wp_append_own _ (.tmp 13) (.tmp 17) 22 rfl top 2 i0 (.int .i64 0) 1 8 Try.underlying22 hi hz0 hz1 hz2 rfl (by decide) _ _ _ rfl (World.ownsRow.alloc hrow9 _) ⟨w9.heap.size, 0, none⟩ 1 1 [.int .i64 (nth zs k)] rfl rfl (Go.cell_one_new _ _ _) (by simp [Value.oneCell']) (by unfold maxLen; omega) (by omega) (by simp; omega) ?_
      intro v' w5 hown' hgrow hfar
      have ho6 := ownI_snoc (xs := lesTo0 zs k) (x := nth zs k) (by rw [lesTo0_length]; exact hown')
      rw [← Hsu.out] at ho6
      obtain ⟨av', cv', ev'⟩ := ho6.ints.shape
      rw [lesTo0_length] at ev'
      subst ev'
      have hb5 : ∀ j, (Value.slice av k cv).ownBlock = some j → top ≤ j := fun j e => (ho1.blk j e).1
      have bO5 : Boxed w5 (w.heap.size + 1 + 1 + 1) 22 (.slice av k cv) := (bG9.alloc (.cells #[.int .i64 (nth zs k)] 2)).kept hgrow (fun e => by have := hb5 _ e.symm; omega)
      have s1 := hS1.1.kept hgrow (fun e => by have := hb5 _ e.symm; omega)
      have s4 := hS1.2.1.kept hgrow (fun e => by have := hb5 _ e.symm; omega)
      have s2 : Below w.heap.size w w5 := hS1.2.2.1.grown hgrow hS1.2.2.1.size (fun j e => by have := hb5 j e; omega)
      have s3 : Kps (Band (fun b => b < w.heap.size) W0.heap.size (W0.heap.size + 2 + 0)) W w5 := hS1.2.2.2.trans (Kps.grown hgrow (fun j e => Hbd.out j (hb5 j e)))
      have hsz5 : top ≤ w5.heap.size := Nat.le_trans hsW2 s3.size
      have cO5 := bO5.cell
      have fO5 := bO5.frozen
      clear hown' hgrow hfar hS1 hS0 hS8 hrow9 cG9 fG9
      refine hK'.out _ _ ⟨s1, s4, s2, s3⟩ fun hS3 => ?_
      refine wpAnyH_ready (rs := [6]) (by kernel_rfl) (by simp) ?_
      refine AllReadyH.cons rfl (fun K' hK' => ?_) AllReadyH.nil
      rw [if_pos (by rfl)]
      go_simp
      have t6 : OwnI top (w5.setCell ⟨(w.heap.size + 1 + 1 + 1), 0, none⟩ (.slice av' (k + 1) cv')) (.slice av' (k + 1) cv') (lesTo0 zs (k + 1)) := ho6.kept (grownBy_setCell2 _ _ _ _) (.inr (fun e => by have := (ho6.blk _ e).1; omega))
      have t7 : Kps (Band (fun b => b < w.heap.size) W0.heap.size (W0.heap.size + 2 + 0)) W (w5.setCell ⟨(w.heap.size + 1 + 1 + 1), 0, none⟩ (.slice av' (k + 1) cv')) := s3.trans (Kps.setCell _ _ _ _ (Hn.out))
      refine hK'.out _ _ ⟨boxed_setFar s1 (by omega), boxed_setFar s4 (by omega), s2.setCell (p := ⟨(w.heap.size + 1 + 1 + 1), 0, none⟩) (by show w.heap.size ≤ (w.heap.size + 1 + 1 + 1); omega) _, t7⟩ fun hS4 => wpAnyH_done (by kernel_rfl) ?_ _
      exact ⟨t7, ⟨⟨_, bO5.set _, t6⟩, hS4.1, hS4.2.1, hS4.2.2.1, .inr (by simpa using hsz5)⟩⟩
    · rw [if_pos (by rfl)]
      go_simp
      refine (gapFor_own (nth zs k) _).mono ?_
      rintro e w9 ⟨rfl, hb9⟩
      have hS8 := show _ ∧ _ ∧ _ ∧ _ from ⟨boxed_later hS0.1 hb9, boxed_later hS0.2.1 hb9, hS0.2.2.1.trans (hb9.mono hS0.2.2.1.size), hS0.2.2.2.trans (Kps.below hb9)⟩
      have bG9 : Boxed w9 (w.heap.size + 1 + 1 + 1) 22 (.slice av k cv) := boxed_later (show Boxed W.drew (w.heap.size + 1 + 1 + 1) 22 (.slice av k cv) from bG1) hb9
      have hrow9 : w9.ownsRow top 2 1 (.slice av k cv) k ((lesTo0 zs k).map (.int .i64)) := by
        have h := (show OwnI top W.drew (.slice av k cv) (lesTo0 zs k) from ho1).below hb9
        unfold OwnI at h; rwa [lesTo0_length] at h
      have hs9 : top ≤ w9.heap.size := Nat.le_trans hsW2 hb9.size
      have cG9 := bG9.cell
      have fG9 := bG9.frozen
      clear hb9
      refine hK'.out _ _ hS8 fun hS7 => ?_
      clear hS7
      refine wpAnyH_ready (rs := [0, 4]) (by kernel_rfl) (by simp) ?_
      refine AllReadyH.cons rfl (fun K' hK' => ?_) (AllReadyH.cons rfl (fun K' hK' => ?_) AllReadyH.nil)
      · rw [if_pos (by rfl)]
        go_simp
        refine hK'.out _ _ hS8 fun hS9 => ?_
        clear hS9
        refine wpAnyH_ready (rs := [4]) (by kernel_rfl) (by simp) ?_
        refine AllReadyH.cons rfl (fun K' hK' => ?_) AllReadyH.nil
        rw [if_pos (by rfl)]
        go_simp
        have hS1 := show _ ∧ _ ∧ _ ∧ _ from ⟨hS8.1.alloc (.cells #[.int .i64 (nth zs k)] 2), hS8.2.1.alloc (.cells #[.int .i64 (nth zs k)] 2), hS8.2.2.1.alloc hS8.2.2.1.size (.cells #[.int .i64 (nth zs k)] 2), hS8.2.2.2.trans (Kps.alloc _ _ (.cells #[.int .i64 (nth zs k)] 2))⟩
        refine hK'.out _ _ hS1 fun hS7 => ?_
        clear hS7
        refine wpAnyH_ready (rs := [5]) (by kernel_rfl) (by simp) ?_
        refine AllReadyH.cons rfl (fun K' hK' => ?_) AllReadyH.nil
        rw [if_pos (by rfl)]
        refine wp_append_own _ (.tmp 13) (.tmp 17) 22 rfl top 2 i0 (.int .i64 0) 1 8 Try.underlying22 hi hz0 hz1 hz2 rfl (by decide) _ _ _ rfl (World.ownsRow.alloc hrow9 _) ⟨w9.heap.size, 0, none⟩ 1 1 [.int .i64 (nth zs k)] rfl rfl (Go.cell_one_new _ _ _) (by simp [Value.oneCell']) (by unfold maxLen; omega) (by omega) (by simp; omega) ?_
        intro v' w5 hown' hgrow hfar
        have ho6 := ownI_snoc (xs := lesTo0 zs k) (x := nth zs k) (by rw [lesTo0_length]; exact hown')
        rw [← Hsu.out] at ho6
        obtain ⟨av', cv', ev'⟩ := ho6.ints.shape
        rw [lesTo0_length] at ev'
        subst ev'
        have hb5 : ∀ j, (Value.slice av k cv).ownBlock = some j → top ≤ j := fun j e => (ho1.blk j e).1
        have bO5 : Boxed w5 (w.heap.size + 1 + 1 + 1) 22 (.slice av k cv) := (bG9.alloc (.cells #[.int .i64 (nth zs k)] 2)).kept hgrow (fun e => by have := hb5 _ e.symm; omega)
        have s1 := hS1.1.kept hgrow (fun e => by have := hb5 _ e.symm; omega)
        have s4 := hS1.2.1.kept hgrow (fun e => by have := hb5 _ e.symm; omega)
        have s2 : Below w.heap.size w w5 := hS1.2.2.1.grown hgrow hS1.2.2.1.size (fun j e => by have := hb5 j e; omega)
        have s3 : Kps (Band (fun b => b < w.heap.size) W0.heap.size (W0.heap.size + 2 + 0)) W w5 := hS1.2.2.2.trans (Kps.grown hgrow (fun j e => Hbd.out j (hb5 j e)))
        have hsz5 : top ≤ w5.heap.size := Nat.le_trans hsW2 s3.size
        have cO5 := bO5.cell
        have fO5 := bO5.frozen
        clear hown' hgrow hfar hS1 hS0 hS8 hrow9 cG9 fG9
        refine hK'.out _ _ ⟨s1, s4, s2, s3⟩ fun hS3 => ?_
        refine wpAnyH_ready (rs := [6]) (by kernel_rfl) (by simp) ?_
        refine AllReadyH.cons rfl (fun K' hK' => ?_) AllReadyH.nil
        rw [if_pos (by rfl)]
        go_simp
        have t6 : OwnI top (w5.setCell ⟨(w.heap.size + 1 + 1 + 1), 0, none⟩ (.slice av' (k + 1) cv')) (.slice av' (k + 1) cv') (lesTo0 zs (k + 1)) := ho6.kept (grownBy_setCell2 _ _ _ _) (.inr (fun e => by have := (ho6.blk _ e).1; omega))
        have t7 : Kps (Band (fun b => b < w.heap.size) W0.heap.size (W0.heap.size + 2 + 0)) W (w5.setCell ⟨(w.heap.size + 1 + 1 + 1), 0, none⟩ (.slice av' (k + 1) cv')) := s3.trans (Kps.setCell _ _ _ _ (Hn.out))
        refine hK'.out _ _ ⟨boxed_setFar s1 (by omega), boxed_setFar s4 (by omega), s2.setCell (p := ⟨(w.heap.size + 1 + 1 + 1), 0, none⟩) (by show w.heap.size ≤ (w.heap.size + 1 + 1 + 1); omega) _, t7⟩ fun hS4 => wpAnyH_done (by kernel_rfl) ?_ _
        exact ⟨t7, ⟨⟨_, bO5.set _, t6⟩, hS4.1, hS4.2.1, hS4.2.2.1, .inr (by simpa using hsz5)⟩⟩
      · rw [if_pos (by rfl)]
        go_simp
        have hS1 := show _ ∧ _ ∧ _ ∧ _ from ⟨hS8.1.alloc (.cells #[.int .i64 (nth zs k)] 2), hS8.2.1.alloc (.cells #[.int .i64 (nth zs k)] 2), hS8.2.2.1.alloc hS8.2.2.1.size (.cells #[.int .i64 (nth zs k)] 2), hS8.2.2.2.trans (Kps.alloc _ _ (.cells #[.int .i64 (nth zs k)] 2))⟩
        refine hK'.out _ _ hS1 fun hS7 => ?_
        clear hS7
        have cG2 := (bG9.alloc (.cells #[.int .i64 (nth zs k)] 2)).cell
        refine wpAnyH_ready (rs := [0]) (by kernel_rfl) (by simp) ?_
        refine AllReadyH.cons rfl (fun K' hK' => ?_) AllReadyH.nil
        rw [if_pos (by rfl)]
        go_simp
        refine hK'.out _ _ hS1 fun hS9 => ?_
        clear hS9
        refine wpAnyH_ready (rs := [5]) (by kernel_rfl) (by simp) ?_
        refine AllReadyH.cons rfl (fun K' hK' => ?_) AllReadyH.nil
        rw [if_pos (by rfl)]
        refine wp_append_own _ (.tmp 13) (.tmp 17) 22 rfl top 2 i0 (.int .i64 0) 1 8 Try.underlying22 hi hz0 hz1 hz2 rfl (by decide) _ _ _ rfl (World.ownsRow.alloc hrow9 _) ⟨w9.heap.size, 0, none⟩ 1 1 [.int .i64 (nth zs k)] rfl rfl (Go.cell_one_new _ _ _) (by simp [Value.oneCell']) (by unfold maxLen; omega) (by omega) (by simp; omega) ?_
        intro v' w5 hown' hgrow hfar
        have ho6 := ownI_snoc (xs := lesTo0 zs k) (x := nth zs k) (by rw [lesTo0_length]; exact hown')
        rw [← Hsu.out] at ho6
        obtain ⟨av', cv', ev'⟩ := ho6.ints.shape
        rw [lesTo0_length] at ev'
        subst ev'
        have hb5 : ∀ j, (Value.slice av k cv).ownBlock = some j → top ≤ j := fun j e => (ho1.blk j e).1
        have bO5 : Boxed w5 (w.heap.size + 1 + 1 + 1) 22 (.slice av k cv) := (bG9.alloc (.cells #[.int .i64 (nth zs k)] 2)).kept hgrow (fun e => by have := hb5 _ e.symm; omega)
        have s1 := hS1.1.kept hgrow (fun e => by have := hb5 _ e.symm; omega)
        have s4 := hS1.2.1.kept hgrow (fun e => by have := hb5 _ e.symm; omega)
        have s2 : Below w.heap.size w w5 := hS1.2.2.1.grown hgrow hS1.2.2.1.size (fun j e => by have := hb5 j e; omega)
        have s3 : Kps (Band (fun b => b < w.heap.size) W0.heap.size (W0.heap.size + 2 + 0)) W w5 := hS1.2.2.2.trans (Kps.grown hgrow (fun j e => Hbd.out j (hb5 j e)))
        have hsz5 : top ≤ w5.heap.size := Nat.le_trans hsW2 s3.size
        have cO5 := bO5.cell
        have fO5 := bO5.frozen
        clear hown' hgrow hfar hS1 hS0 hS8 hrow9 cG9 fG9
        refine hK'.out _ _ ⟨s1, s4, s2, s3⟩ fun hS3 => ?_
        refine wpAnyH_ready (rs := [6]) (by kernel_rfl) (by simp) ?_
        refine AllReadyH.cons rfl (fun K' hK' => ?_) AllReadyH.nil
        rw [if_pos (by rfl)]
        go_simp
        have t6 : OwnI top (w5.setCell ⟨(w.heap.size + 1 + 1 + 1), 0, none⟩ (.slice av' (k + 1) cv')) (.slice av' (k + 1) cv') (lesTo0 zs (k + 1)) := ho6.kept (grownBy_setCell2 _ _ _ _) (.inr (fun e => by have := (ho6.blk _ e).1; omega))
        have t7 : Kps (Band (fun b => b < w.heap.size) W0.heap.size (W0.heap.size + 2 + 0)) W (w5.setCell ⟨(w.heap.size + 1 + 1 + 1), 0, none⟩ (.slice av' (k + 1) cv')) := s3.trans (Kps.setCell _ _ _ _ (Hn.out))
        refine hK'.out _ _ ⟨boxed_setFar s1 (by omega), boxed_setFar s4 (by omega), s2.setCell (p := ⟨(w.heap.size + 1 + 1 + 1), 0, none⟩) (by show w.heap.size ≤ (w.heap.size + 1 + 1 + 1); omega) _, t7⟩ fun hS4 => wpAnyH_done (by kernel_rfl) ?_ _
        exact ⟨t7, ⟨⟨_, bO5.set _, t6⟩, hS4.1, hS4.2.1, hS4.2.2.1, .inr (by simpa using hsz5)⟩⟩
  case done =>
    rintro D W hD ⟨⟨v, bG1, ho1⟩, bK1, bQ1, hB1, htp⟩ hK
    have cG := bG1.cell
    have cQ := bQ1.cell
    have fQ := bQ1.frozen
    obtain ⟨av, cv, ev⟩ := ho1.ints.shape
    rw [lesTo0_length] at ev
    subst ev
    rw [lesTo0_all] at ho1
    gi_wp2
    have hK' := (KeepsOthers.setCell W ⟨w.heap.size + 1 + 1, 0, none⟩ (.slice av zs.length cv)).same D _ hK rfl
    have k1 := (boxed_shut (bQ1.set (.slice av zs.length cv)) hK').cell
    have ho9 : OwnI w.heap.size (W.setCell ⟨w.heap.size + 1 + 1, 0, none⟩ (.slice av zs.length cv)) (.slice av zs.length cv) zs := (ho1.kept (grownBy_setCell2 _ _ _ _) (.inr (fun e => by have := (ho1.blk _ e).1; omega))).base (by omega)
    exact retM1 hK' ⟨.agg #[.slice av zs.length cv], by simp [results, Try.f37, go_sem, k1], _, rfl, ho9.shut hK', below_shut (hB1.setCell (p := ⟨w.heap.size + 1 + 1, 0, none⟩) (by show w.heap.size ≤ w.heap.size + 1 + 1; omega) _) (by omega)⟩
  case stop =>
    rintro D c k W hD hk h
    exact h.elim

end Go.Proofs.Ytahleajedgehlaa
