/-
  JobsOfTasks of the program.
  Conditions: lists of at most 1048576 elements.
-/
import Derived.Test.YtmmpoaphjjpjaaaJot
namespace Go.Proofs.Ytmmpoaphjjpjaaa
open Go.RowKit Go.Shelf
attribute [local go_sem] Oper.semAt_some

set_option maxRecDepth 100000 in
set_option maxHeartbeats 8000000 in
theorem i_JobsOfTasks (c0 : Value) (zs : List Int) (w : World) (hI : Ints w.heap.size w c0 zs) (_hN : I64s zs) (hm : zs.length ≤ 1048576) :
    Calls Try.prog 57 #[.agg #[c0]] w (Gives3 w (jotL zs) (jotP zs) (jotP zs) fun u v x => .tuple #[.agg #[u, v, x], .int .i64 (jotC zs)]) := by
  obtain ⟨i0, hi, hz0, hz1, hz2⟩ := info_parts Try.infoI2
  obtain ⟨a, cap, rfl⟩ := hI.shape
  refine (callsIn_wide (n := 9)).1 ?_
  cases ht : tasksOk zs
  · have H := Lib.hid (jot_no ht)
    have Ht := Lib.hid ht
    clear ht
    refine callsIn_of_wp_marks Try.func57 rfl trivial ?_ rfl
    simp only [Try.ntmps57, List.size_toArray, List.length_cons, List.length_nil, Nat.reduceAdd, Nat.reduceSub, Array.replicate_succ, Array.replicate_zero, List.push_toArray, List.append_toArray, List.nil_append, List.cons_append]
    gi_wp2_with fail
    obtain ⟨W0, hW1⟩ : ∃ W0, ((w.alloc (.cells #[.slice a zs.length cap] 28)).alloc (.cells #[.slice none 0 0, .slice none 0 0, .slice none 0 0] 41)) = W0 := ⟨_, rfl⟩
    have hB1 : Below w.heap.size w W0 := by rw [← hW1]; exact (((Below.refl _ w).alloc (Nat.le_refl _) _).alloc (by simp; try omega) _)
    have hs1 : w.heap.size + 2 ≤ W0.heap.size := by rw [← hW1]; simp
    have bQ : Box3 W0 (w.heap.size + 1) 41 (.slice none 0 0) (.slice none 0 0) (.slice none 0 0) := by rw [← hW1]; repeat first | (refine box3_at ?_; (simp; done)) | refine Box3.alloc ?_ _
    rw [hW1]
    clear hW1
    refine ⟨trivial, (callsIn_wide.2 (isTasks_c _ zs _ (hI.later hB1) (by omega))).mono ?_⟩
    rintro e w1 ⟨he, hb⟩
    rw [Ht.out] at he
    subst he
    have hB2 := hB1.trans (hb.mono (by omega))
    replace bQ := bQ.later hb
    have c0 := bQ.c0
    have c1 := bQ.c1
    have c2 := bQ.c2
    have f0 := bQ.frozen 0
    have f1 := bQ.frozen 1
    have f2 := bQ.frozen 2
    gi_wp2
    have bF := ((bQ.set0 (.slice none 0 0)).set1 (.slice none 0 0)).set2 (.slice none 0 0)
    have n0 := bF.c0
    have n1 := bF.c1
    have n2 := bF.c2
    exact retM0 ⟨.tuple #[.agg #[.slice none 0 0, .slice none 0 0, .slice none 0 0], .int .i64 1], by simp [results, Try.f57, go_sem, n0, n1, n2], _, _, _, by rw [H.out.2.2], by rw [H.out.1, H.out.2.1]; exact ⟨ownI_nil _ _, ownI_nil _ _, ownI_nil _ _, by simp [Value.ownBlock], by simp [Value.ownBlock], by simp [Value.ownBlock]⟩,
      ((hB2.setCell (p := ⟨w.heap.size + 1, 0, none⟩) (by show w.heap.size ≤ w.heap.size + 1; omega) _).setCell (p := ⟨w.heap.size + 1, 1, none⟩) (by show w.heap.size ≤ w.heap.size + 1; omega) _).setCell (p := ⟨w.heap.size + 1, 2, none⟩) (by show w.heap.size ≤ w.heap.size + 1; omega) _⟩
  · have hl := tasksOk_len ht
    have H := Lib.hid (jot_ok ht)
    have Ht := Lib.hid ht
    clear ht
    refine callsIn_of_wp_marks Try.func57 rfl trivial ?_ rfl
    simp only [Try.ntmps57, List.size_toArray, List.length_cons, List.length_nil, Nat.reduceAdd, Nat.reduceSub, Array.replicate_succ, Array.replicate_zero, List.push_toArray, List.append_toArray, List.nil_append, List.cons_append]
    gi_wp2_with fail
    obtain ⟨W0, hW1⟩ : ∃ W0, ((w.alloc (.cells #[.slice a zs.length cap] 28)).alloc (.cells #[.slice none 0 0, .slice none 0 0, .slice none 0 0] 41)) = W0 := ⟨_, rfl⟩
    have hB1 : Below w.heap.size w W0 := by rw [← hW1]; exact (((Below.refl _ w).alloc (Nat.le_refl _) _).alloc (by simp; try omega) _)
    have hs1 : w.heap.size + 2 ≤ W0.heap.size := by rw [← hW1]; simp
    have bT : Boxed W0 (w.heap.size) 28 (.slice a zs.length cap) := by rw [← hW1]; repeat first | (refine boxed_at ?_; (simp; done)) | refine Boxed.alloc ?_ _
    have bQ : Box3 W0 (w.heap.size + 1) 41 (.slice none 0 0) (.slice none 0 0) (.slice none 0 0) := by rw [← hW1]; repeat first | (refine box3_at ?_; (simp; done)) | refine Box3.alloc ?_ _
    rw [hW1]
    clear hW1
    refine ⟨trivial, (callsIn_wide.2 (isTasks_c _ zs _ (hI.later hB1) (by omega))).mono ?_⟩
    rintro e w1 ⟨he, hb⟩
    rw [Ht.out] at he
    subst he
    have hB2 := hB1.trans (hb.mono (by omega))
    have hs2 := hb.size
    replace bT := boxed_later bT hb
    replace bQ := bQ.later hb
    clear hb hB1
    have cTa := (bT.alloc (.cells #[.slice none 0 0, .slice none 0 0, .slice none 0 0] 41)).cell
    gi_wp2_with (first | (gi_at_call 84; refine (callsIn_wide.2 (numbered_c _ _ _ _)).mono ?_; rintro e w' ⟨rfl, rfl⟩) | (refine ⟨trivial, ?_⟩; gi_at_call 84; refine (callsIn_wide.2 (numbered_c _ _ _ _)).mono ?_; rintro e w' ⟨rfl, rfl⟩))
    obtain ⟨W2, hW3⟩ : ∃ W2, ((w1.alloc (.cells #[.slice none 0 0, .slice none 0 0, .slice none 0 0] 41)).alloc (.cells #[.slice a zs.length cap] 22)) = W2 := ⟨_, rfl⟩
    have hB3 : Below w1.heap.size w1 W2 := by rw [← hW3]; exact (((Below.refl _ w1).alloc (Nat.le_refl _) _).alloc (by simp; try omega) _)
    have hs3 : w1.heap.size + 2 ≤ W2.heap.size := by rw [← hW3]; simp
    have q0 : Box3 W2 (w1.heap.size) 41 (.slice none 0 0) (.slice none 0 0) (.slice none 0 0) := by rw [← hW3]; repeat first | (refine box3_at ?_; (simp; done)) | refine Box3.alloc ?_ _
    have bN : Boxed W2 (w1.heap.size + 1) 22 (.slice a zs.length cap) := by rw [← hW3]; repeat first | (refine boxed_at ?_; (simp; done)) | refine Boxed.alloc ?_ _
    rw [hW3]
    clear hW3
    have hB3' := hB2.trans (hB3.mono hB2.size)
    have hsw1 := bQ.lt
    replace bQ := bQ.later hB3
    obtain ⟨top, htop⟩ : ∃ top, W2.heap.size + 2 + 0 = top := ⟨_, rfl⟩
    have Htop := Lib.hid htop
    clear cTa bT
    refine range_outA rfl (by omega) rfl trivial (enters_of Try.func116 (by kernel_rfl) rfl) (numbered_at Fence.wide 8 trivial rfl (by omega) _ w.heap.size _ zs (by omega) W2 bN (by omega) (hI.below hB3')) (fun b hb => by omega) (fun _ => rfl)
      (fun k W => (∃ u v x, Box3 W w1.heap.size 41 u v x ∧ Own3 top W u v x (onesL k) (halves zs k) (halves zs k)) ∧ Box3 W (w.heap.size + 1) 41 (.slice none 0 0) (.slice none 0 0) (.slice none 0 0) ∧ Below w.heap.size w W ∧ (k = 0 ∨ top ≤ W.heap.size))
      (fun _ _ _ => False)
      (OwnFrom.and (Own.from (own3_Own _ _ _ _ _ _) _) (OwnFrom.and (Own.from (box3_own _ _ _ _ _) _) (OwnFrom.and (ownFrom_below (Nat.le_refl _) (by omega)) (ownFrom_size _ _))))
      (fun _ _ _ _ _ hs _ _ => hs)
      ⟨⟨_, _, _, q0, ⟨ownI_nil _ _, ownI_nil _ _, ownI_nil _ _, by simp [Value.ownBlock], by simp [Value.ownBlock], by simp [Value.ownBlock]⟩⟩, bQ, hB3', .inl rfl⟩ ?a1 ?assign ?body ?done ?stop
    case assign =>
      intro l k W K hk hK
      simp only [numAt]
      gi_wp2
      exact hK
    case body =>
      rintro l k W hl2 hr ⟨⟨u, v, x, Q, O⟩, bQ1, hB1, _⟩ hlt hsW
      have hsW2 : top ≤ W.heap.size := by omega
      have hband : ∀ j, Band (fun b => b < w.heap.size) W2.heap.size (W2.heap.size + 2 + 0) j → ¬ (j = w1.heap.size ∨ top ≤ j) := fun j hj => by
        rcases hj with hj | hj
        · have : j < w.heap.size := hj
          omega
        · omega
      have Hband := Lib.hid hband
      have hg := tasksOk_nth Ht.out hlt
      have hh := half_bd (show 1 ≤ nth zs k ∧ nth zs k ≤ 40 by omega)
      have Hst := Lib.hid (jot_step zs k)
      have l1 : (onesL k).length ≤ 8 := by rw [onesL_length]; omega
      have l2 : (halves zs k).length ≤ 8 := by rw [halves_length]; omega
      obtain ⟨h, hhz⟩ : ∃ h, half (nth zs k) = h := ⟨_, rfl⟩
      rw [hhz] at hh Hst
      have hdiv := hh.1
      have C := Chg.refl (fun j => j = w1.heap.size ∨ top ≤ j) W
      have HBW := Lib.hid hB1
      have HQ := Lib.hid bQ1
      have hwt : w.heap.size + 2 ≤ w1.heap.size ∧ w1.heap.size < top := by omega
      have c0 := Q.c0
      have c1 := Q.c1
      have c2 := Q.c2
      clear htop hband hsW hr hhz hB1 bQ1
      gi_wp2_with (gi_at_builtin; refine wpListIn_append_own_at _ rfl _ _ 22 rfl top 2 i0 (.int .i64 0) 1 8 Try.underlying22 hi hz0 hz1 hz2 rfl (by decide) _ _ _ rfl (World.ownsRow.alloc O.o0 _) ⟨W.heap.size, 0, none⟩ 1 1 [.int .i64 (1)] rfl rfl (Go.cell_one_new _ _ _) (by simp [Value.oneCell']) (by unfold maxLen; omega) (by omega) (by simp only [World.size_alloc]; omega) ?_)
      intro y0 V0 hown' hgrow hat
      have O' := O.appended hown' hgrow (by simpa using hat)
      obtain ⟨p0, q0, ep0⟩ := O'.o0.ints.shape
      simp only [List.length_append, List.length_cons, List.length_nil, Nat.zero_add] at ep0
      subst ep0
      have Q' := box3_grown Q O hgrow
      have C' := O.chg (b := w1.heap.size) (j := 0) (y := .slice p0 ((onesL k).length + 1) q0) hgrow
      have hsV := hgrow.size
      simp only [World.size_alloc] at hsV
      have g0 := Q'.c0
      have g1 := Q'.c1
      have g2 := Q'.c2
      have g3 := Q'.frozen 0
      clear hown' hgrow hat O Q
      have O := (O'.store (j := 0) Q' (.slice p0 ((onesL k).length + 1) q0)).rot
      have Q := Q'.set0 (.slice p0 ((onesL k).length + 1) q0)
      replace C := C.trans C'
      have hsV' : W.heap.size + 1 ≤ (V0.setCell ⟨w1.heap.size, 0, none⟩ (.slice p0 ((onesL k).length + 1) q0)).heap.size := by simp only [World.setCell, Array.size_modify]; exact hsV
      obtain ⟨W5, hwt0⟩ : ∃ W5, V0.setCell ⟨w1.heap.size, 0, none⟩ (.slice p0 ((onesL k).length + 1) q0) = W5 := ⟨_, rfl⟩
      rw [hwt0] at O Q C hsV'
      clear O' Q' C' hsV
      clear c0 c1 c2
      have c1 := Q.c1
      gi_wp2_with (gi_at_builtin; refine wpListIn_append_own_at _ rfl _ _ 22 rfl top 2 i0 (.int .i64 0) 1 8 Try.underlying22 hi hz0 hz1 hz2 rfl (by decide) _ _ _ rfl (World.ownsRow.alloc O.o0 _) ⟨W5.heap.size, 0, none⟩ 1 1 [.int .i64 (h)] rfl rfl (Go.cell_one_new _ _ _) (by simp [Value.oneCell']) (by unfold maxLen; omega) (by omega) (by simp only [World.size_alloc]; omega) ?_)
      intro y1 V1 hown' hgrow hat
      have O' := O.appended hown' hgrow (by simpa using hat)
      obtain ⟨p1, q1, ep1⟩ := O'.o0.ints.shape
      simp only [List.length_append, List.length_cons, List.length_nil, Nat.zero_add] at ep1
      subst ep1
      have Q' := box3_grown Q O hgrow
      have C' := O.chg (b := w1.heap.size) (j := 1) (y := .slice p1 ((halves zs k).length + 1) q1) hgrow
      have hsV := hgrow.size
      simp only [World.size_alloc] at hsV
      have g0 := Q'.c0
      have g1 := Q'.c1
      have g2 := Q'.c2
      have g3 := Q'.frozen 1
      clear hown' hgrow hat O Q
      have O := (O'.store (j := 1) Q' (.slice p1 ((halves zs k).length + 1) q1)).rot
      have Q := Q'.set1 (.slice p1 ((halves zs k).length + 1) q1)
      replace C := C.trans C'
      have hsV' : W5.heap.size + 1 ≤ (V1.setCell ⟨w1.heap.size, 1, none⟩ (.slice p1 ((halves zs k).length + 1) q1)).heap.size := by simp only [World.setCell, Array.size_modify]; exact hsV
      obtain ⟨W6, hwt1⟩ : ∃ W6, V1.setCell ⟨w1.heap.size, 1, none⟩ (.slice p1 ((halves zs k).length + 1) q1) = W6 := ⟨_, rfl⟩
      rw [hwt1] at O Q C hsV'
      clear O' Q' C' hsV
      clear c1
      have c2 := Q.c2
      gi_wp2_with (gi_at_builtin; refine wpListIn_append_own_at _ rfl _ _ 22 rfl top 2 i0 (.int .i64 0) 1 8 Try.underlying22 hi hz0 hz1 hz2 rfl (by decide) _ _ _ rfl (World.ownsRow.alloc O.o0 _) ⟨W6.heap.size, 0, none⟩ 1 1 [.int .i64 (h)] rfl rfl (Go.cell_one_new _ _ _) (by simp [Value.oneCell']) (by unfold maxLen; omega) (by omega) (by simp only [World.size_alloc]; omega) ?_)
      intro y2 V2 hown' hgrow hat
      have O' := O.appended hown' hgrow (by simpa using hat)
      obtain ⟨p2, q2, ep2⟩ := O'.o0.ints.shape
      simp only [List.length_append, List.length_cons, List.length_nil, Nat.zero_add] at ep2
      subst ep2
      have Q' := box3_grown Q O hgrow
      have C' := O.chg (b := w1.heap.size) (j := 2) (y := .slice p2 ((halves zs k).length + 1) q2) hgrow
      have hsV := hgrow.size
      simp only [World.size_alloc] at hsV
      have g0 := Q'.c0
      have g1 := Q'.c1
      have g2 := Q'.c2
      have g3 := Q'.frozen 2
      clear hown' hgrow hat O Q
      have O := (O'.store (j := 2) Q' (.slice p2 ((halves zs k).length + 1) q2)).rot
      have Q := Q'.set2 (.slice p2 ((halves zs k).length + 1) q2)
      replace C := C.trans C'
      have hsV' : W6.heap.size + 1 ≤ (V2.setCell ⟨w1.heap.size, 2, none⟩ (.slice p2 ((halves zs k).length + 1) q2)).heap.size := by simp only [World.setCell, Array.size_modify]; exact hsV
      obtain ⟨W7, hwt2⟩ : ∃ W7, V2.setCell ⟨w1.heap.size, 2, none⟩ (.slice p2 ((halves zs k).length + 1) q2) = W7 := ⟨_, rfl⟩
      rw [hwt2] at O Q C hsV'
      clear O' Q' C' hsV
      gi_wp2
      exact ⟨C.kps Hband.out, ⟨_, _, _, Q, by rw [Hst.out.1, Hst.out.2]; exact O⟩, (C.same _ (by omega) HQ.out.lt).trans HQ.out, C.below HBW.out (fun j hj => by omega) (by omega), .inr (Nat.le_trans hsW2 C.size)⟩
    case done =>
      rintro D W hD ⟨⟨u, v, x, Q, O⟩, bQ1, hB1, htp⟩ hK
      have htW : top ≤ W.heap.size := by omega
      obtain ⟨au, cu, rfl⟩ := O.o0.ints.shape
      obtain ⟨av, cv, rfl⟩ := O.o1.ints.shape
      obtain ⟨ax, cx, rfl⟩ := O.o2.ints.shape
      have d0 := Q.c0
      have d1 := Q.c1
      have d2 := Q.c2
      have c0 := bQ1.c0
      have c1 := bQ1.c1
      have c2 := bQ1.c2
      have f0 := bQ1.frozen 0
      have f1 := bQ1.frozen 1
      have f2 := bQ1.frozen 2
      gi_wp2
      have bF := ((bQ1.set0 (.slice au (onesL zs.length).length cu)).set1 (.slice av (halves zs zs.length).length cv)).set2 (.slice ax (halves zs zs.length).length cx)
      have O1 := O.store (j := 0) bQ1 (.slice au (onesL zs.length).length cu)
      have O2 := O1.store (j := 1) (bQ1.set0 (.slice au (onesL zs.length).length cu)) (.slice av (halves zs zs.length).length cv)
      have O3 := O2.store (j := 2) ((bQ1.set0 (.slice au (onesL zs.length).length cu)).set1 (.slice av (halves zs zs.length).length cv)) (.slice ax (halves zs zs.length).length cx)
      have hB9 := ((hB1.setCell (p := ⟨w.heap.size + 1, 0, none⟩) (by show w.heap.size ≤ w.heap.size + 1; omega) (.slice au (onesL zs.length).length cu)).setCell (p := ⟨w.heap.size + 1, 1, none⟩) (by show w.heap.size ≤ w.heap.size + 1; omega) (.slice av (halves zs zs.length).length cv)).setCell (p := ⟨w.heap.size + 1, 2, none⟩) (by show w.heap.size ≤ w.heap.size + 1; omega) (.slice ax (halves zs zs.length).length cx)
      have k1 := (KeepsOthers.setCell W ⟨w.heap.size + 1, 0, none⟩ (.slice au (onesL zs.length).length cu)).same D _ hK rfl
      have k2 := (KeepsOthers.setCell _ ⟨w.heap.size + 1, 1, none⟩ (.slice av (halves zs zs.length).length cv)).same D _ k1 rfl
      have k3 := (KeepsOthers.setCell _ ⟨w.heap.size + 1, 2, none⟩ (.slice ax (halves zs zs.length).length cx)).same D _ k2 rfl
      have bG := box3_shut bF k3
      have n0 := bG.c0
      have n1 := bG.c1
      have n2 := bG.c2
      refine retM1 k3 ⟨.tuple #[.agg #[.slice au (onesL zs.length).length cu, .slice av (halves zs zs.length).length cv, .slice ax (halves zs zs.length).length cx], .int .i64 0], by simp [results, Try.f57, go_sem, n0, n1, n2], ?_⟩
      exact ⟨_, _, _, by rw [H.out.2.2], by rw [H.out.1, H.out.2.1]; exact Own3.base ⟨O3.o0.shut k3, O3.o1.shut k3, O3.o2.shut k3, O3.n01, O3.n12, O3.n20⟩ (by omega), below_shut hB9 (by omega)⟩
    case stop =>
      rintro D c k W hD hk h
      exact h.elim

theorem jotL_le (zs : List Int) : (jotL zs).length ≤ 1048576 := by
  unfold jotL; split
  · rename_i h; have := tasksOk_len h; rw [onesL_length]; omega
  · simp
theorem jotP_le (zs : List Int) : (jotP zs).length ≤ 1048576 := by
  unfold jotP; split
  · rename_i h; have := tasksOk_len h; rw [halves_length]; omega
  · simp

end Go.Proofs.Ytmmpoaphjjpjaaa
