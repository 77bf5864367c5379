/-
  JobsOfTasks of the model and of the program: three rows in a variable of three cells.
  Conditions: lists of at most 1048576 elements.
-/
import Derived.Test.YtmmpoaphjjpjaaaOwn3
import Derived.Test.YtmmpoaphjjpjaaaWaitsI
import Derived.Test.YtmmpoaphjjpjaaaSort
namespace Go.Proofs.Ytmmpoaphjjpjaaa
open Go.RowKit Go.Shelf
attribute [local go_sem] Oper.semAt_some

def jotC (zs : List Int) : Int := if tasksOk zs then 0 else 1
def jotL (zs : List Int) : List Int := if tasksOk zs then onesL zs.length else []
def jotP (zs : List Int) : List Int := if tasksOk zs then halves zs zs.length else []
theorem jot_no {zs : List Int} (h : tasksOk zs = false) : jotL zs = [] ∧ jotP zs = [] ∧ jotC zs = 1 := by unfold jotL jotP jotC; rw [h]; exact ⟨rfl, rfl, rfl⟩
theorem jot_ok {zs : List Int} (h : tasksOk zs = true) : jotL zs = onesL zs.length ∧ jotP zs = halves zs zs.length ∧ jotC zs = 0 := by unfold jotL jotP jotC; rw [h]; exact ⟨rfl, rfl, rfl⟩
theorem jotL_len (zs : List Int) : (jotL zs).length * 8 ≤ 140737488351232 := by
  unfold jotL; split
  · rename_i h; have := tasksOk_len h; rw [onesL_length]; omega
  · simp
theorem jotP_len (zs : List Int) : (jotP zs).length * 8 ≤ 140737488351232 := by
  unfold jotP; split
  · rename_i h; have := tasksOk_len h; rw [halves_length]; omega
  · simp
theorem half_bd {z : Int} (h : 1 ≤ z ∧ z ≤ 40) : (z + 1).tdiv 2 = half z ∧ 1 ≤ half z ∧ half z ≤ 20 := by
  unfold half
  rw [Int.tdiv_eq_ediv_of_nonneg (by omega)]
  omega

theorem ownI_empty3 {B : Nat} (w : World) (h : B ≤ w.heap.size) : OwnI B (w.alloc (.cells #[] 2)) (.slice (some ⟨w.heap.size, 0, none⟩) 0 0) [] := World.ownsRow_made w #[] 0 h (by unfold maxLen; omega) rfl
theorem ownI_ne_jobs {B b : Nat} {W : World} {y u v x : Value} {zs : List Int} (h : OwnI B W y zs) (hb : Box3 W b 41 u v x) : y.ownBlock ≠ some b := by
  intro e
  obtain ⟨_, h2⟩ := h
  rcases h2 with ⟨rfl, _⟩ | ⟨g, cap, cur, rfl, _, hh, _⟩
  · simp [Value.ownBlock] at e
  · obtain rfl : g = b := by simpa [Value.ownBlock] using e
    have := hh.symm.trans hb
    simp at this
theorem Own3.store {B b j : Nat} {W : World} {u v x p q r : Value} {xs ys zs : List Int} (h : Own3 B W u v x xs ys zs) (hb : Box3 W b 41 p q r) (y : Value) : Own3 B (W.setCell ⟨b, j, none⟩ y) u v x xs ys zs :=
  ⟨h.o0.kept (grownBy_setJ _ _ _ _) (.inr (ownI_ne_jobs h.o0 hb)), h.o1.kept (grownBy_setJ _ _ _ _) (.inr (ownI_ne_jobs h.o1 hb)), h.o2.kept (grownBy_setJ _ _ _ _) (.inr (ownI_ne_jobs h.o2 hb)), h.n01, h.n12, h.n20⟩
theorem box3_grown {B b : Nat} {W W' : World} {u v x p q r : Value} {xs ys zs : List Int} (hb : Box3 W b 41 p q r) (h : Own3 B W u v x xs ys zs) {tmp : Obj} (hg : (W.alloc tmp).grownBy W' u.ownBlock) : Box3 W' b 41 p q r :=
  (hb.alloc tmp).kept hg (fun e => ownI_ne_jobs h.o0 hb e.symm)

/-- a step of the program's loops: what has been put behind k tasks -/
theorem jot_step (zs : List Int) (k : Nat) : onesL (k + 1) = onesL k ++ [1] ∧ halves zs (k + 1) = halves zs k ++ [half (nth zs k)] := ⟨onesL_succ k, halves_succ zs k⟩

set_option maxRecDepth 100000 in
set_option maxHeartbeats 8000000 in
theorem s_JobsOfTasks (c0 : Value) (zs : List Int) (w : World) (hI : Ints w.heap.size w c0 zs) (_hN : I64s zs) (hm : zs.length ≤ 1048576) :
    Calls Try.prog 56 #[.agg #[c0]] w (Gives3 w (jotL zs) (jotP zs) (jotP zs) fun u v x => .tuple #[.agg #[u, v, x], .int .i64 (jotC zs)]) := by
  obtain ⟨i0, hi, hz0, hz1, hz2⟩ := info_parts Try.infoI2
  obtain ⟨a, cap, rfl⟩ := hI.shape
  cases ht : tasksOk zs
  · have H := Lib.hid (jot_no ht)
    have Ht := Lib.hid ht
    clear ht
    go_enter Try.func56, Try.ntmps56
    go_wp2_with fail
    obtain ⟨W0, hW1⟩ : ∃ W0, ((w.alloc (.cells #[.slice a zs.length cap] 28)).alloc (.cells #[.slice none 0 0, .slice none 0 0, .slice none 0 0] 41)) = W0 := ⟨_, rfl⟩
    have hB1 : Below w.heap.size w W0 := by rw [← hW1]; exact (((Below.refl _ w).alloc (Nat.le_refl _) _).alloc (by simp; try omega) _)
    have hs1 : w.heap.size + 2 ≤ W0.heap.size := by rw [← hW1]; simp
    have bQ : Box3 W0 (w.heap.size + 1) 41 (.slice none 0 0) (.slice none 0 0) (.slice none 0 0) := by rw [← hW1]; repeat first | (refine box3_at ?_; (simp; done)) | refine Box3.alloc ?_ _
    rw [hW1]
    clear hW1
    refine (l01Is_c _ zs _ (hI.later hB1) (by omega)).mono ?_
    rintro e w1 ⟨he, hb⟩
    rw [Ht.out] at he
    subst he
    have hB2 := hB1.trans (hb.mono (by omega))
    replace bQ := bQ.later hb
    have c0 := bQ.c0
    have c1 := bQ.c1
    have c2 := bQ.c2
    have f0 := bQ.frozen 0
    have f1 := bQ.frozen 1
    have f2 := bQ.frozen 2
    go_wp2_with fail
    have bF := ((bQ.set0 (.slice none 0 0)).set1 (.slice none 0 0)).set2 (.slice none 0 0)
    have n0 := bF.c0
    have n1 := bF.c1
    have n2 := bF.c2
    exact bodyPost_ret (v := .tuple #[.agg #[.slice none 0 0, .slice none 0 0, .slice none 0 0], .int .i64 1]) (by simp [results, Try.f56, go_sem, n0, n1, n2]) rfl ⟨_, _, _, by rw [H.out.2.2], by rw [H.out.1, H.out.2.1]; exact ⟨ownI_nil _ _, ownI_nil _ _, ownI_nil _ _, by simp [Value.ownBlock], by simp [Value.ownBlock], by simp [Value.ownBlock]⟩,
      ((hB2.setCell (p := ⟨w.heap.size + 1, 0, none⟩) (by show w.heap.size ≤ w.heap.size + 1; omega) _).setCell (p := ⟨w.heap.size + 1, 1, none⟩) (by show w.heap.size ≤ w.heap.size + 1; omega) _).setCell (p := ⟨w.heap.size + 1, 2, none⟩) (by show w.heap.size ≤ w.heap.size + 1; omega) _⟩
  · have hl := tasksOk_len ht
    have H := Lib.hid (jot_ok ht)
    have Ht := Lib.hid ht
    clear ht
    go_enter Try.func56, Try.ntmps56
    go_wp2_with fail
    obtain ⟨W0, hW1⟩ : ∃ W0, ((w.alloc (.cells #[.slice a zs.length cap] 28)).alloc (.cells #[.slice none 0 0, .slice none 0 0, .slice none 0 0] 41)) = W0 := ⟨_, rfl⟩
    have hB1 : Below w.heap.size w W0 := by rw [← hW1]; exact (((Below.refl _ w).alloc (Nat.le_refl _) _).alloc (by simp; try omega) _)
    have hs1 : w.heap.size + 2 ≤ W0.heap.size := by rw [← hW1]; simp
    have bT : Boxed W0 (w.heap.size) 28 (.slice a zs.length cap) := by rw [← hW1]; repeat first | (refine boxed_at ?_; (simp; done)) | refine Boxed.alloc ?_ _
    have bQ : Box3 W0 (w.heap.size + 1) 41 (.slice none 0 0) (.slice none 0 0) (.slice none 0 0) := by rw [← hW1]; repeat first | (refine box3_at ?_; (simp; done)) | refine Box3.alloc ?_ _
    rw [hW1]
    clear hW1
    refine (l01Is_c _ zs _ (hI.later hB1) (by omega)).mono ?_
    rintro e w1 ⟨he, hb⟩
    rw [Ht.out] at he
    subst he
    have hB2 := hB1.trans (hb.mono (by omega))
    have hs2 := hb.size
    replace bT := boxed_later bT hb
    replace bQ := bQ.later hb
    clear hb hB1
    have cT := bT.cell
    have O := ownI_empty3 (B := w1.heap.size) w1 (Nat.le_refl _)
    go_wp2_with fail
    obtain ⟨W2, hW2⟩ : ∃ W2, ((((w1.alloc (.cells #[] 2)).alloc (.cells #[] 2)).alloc (.cells #[] 2)).alloc (.cells #[.slice (some ⟨w1.heap.size, 0, none⟩) 0 0, .slice (some ⟨w1.heap.size + 1, 0, none⟩) 0 0, .slice (some ⟨w1.heap.size + 1 + 1, 0, none⟩) 0 0] 41)) = W2 := ⟨_, rfl⟩
    have hBA : Below w1.heap.size w1 W2 := by rw [← hW2]; exact ((((Below.refl _ _).alloc (Nat.le_refl _) _).alloc (by simp) _).alloc (by simp; omega) _).alloc (by simp; omega) _
    have q0 : Box3 W2 (w1.heap.size + 1 + 1 + 1) 41 (.slice (some ⟨w1.heap.size, 0, none⟩) 0 0) (.slice (some ⟨w1.heap.size + 1, 0, none⟩) 0 0) (.slice (some ⟨w1.heap.size + 1 + 1, 0, none⟩) 0 0) := by rw [← hW2]; exact box3_at (by simp)
    have o0 : OwnI w1.heap.size W2 (.slice (some ⟨w1.heap.size, 0, none⟩) 0 0) [] := by rw [← hW2]; exact ((O.alloc _).alloc _).alloc _
    have o1 : OwnI w1.heap.size W2 (.slice (some ⟨w1.heap.size + 1, 0, none⟩) 0 0) [] := by
      rw [← hW2]
      have h := ownI_empty3 (B := w1.heap.size) (w1.alloc (.cells #[] 2)) (by simp)
      simp only [World.size_alloc] at h
      exact (h.alloc _).alloc _
    have o2 : OwnI w1.heap.size W2 (.slice (some ⟨w1.heap.size + 1 + 1, 0, none⟩) 0 0) [] := by
      rw [← hW2]
      have h := ownI_empty3 (B := w1.heap.size) ((w1.alloc (.cells #[] 2)).alloc (.cells #[] 2)) (by simp; omega)
      simp only [World.size_alloc] at h
      exact h.alloc _
    have O2 : Own3 w1.heap.size W2 (.slice (some ⟨w1.heap.size, 0, none⟩) 0 0) (.slice (some ⟨w1.heap.size + 1, 0, none⟩) 0 0) (.slice (some ⟨w1.heap.size + 1 + 1, 0, none⟩) 0 0) (onesL 0) (halves zs 0) (halves zs 0) := ⟨o0, o1, o2, by simp [Value.ownBlock], by simp [Value.ownBlock], by simp [Value.ownBlock]; omega⟩
    have hs3 : w1.heap.size + 4 ≤ W2.heap.size := by rw [← hW2]; simp
    have hB3 := hB2.trans (hBA.mono hB2.size)
    replace bT := boxed_later bT hBA
    replace bQ := bQ.later hBA
    have hw1 := hB2.size
    have hbq : w.heap.size + 2 ≤ w1.heap.size := by omega
    rw [hW2]
    clear hW2 o0 o1 o2 O cT hB2 hBA hs2
    go_loopw [5] (fun i wr => ∃ k : Nat, k ≤ zs.length ∧ i = .int .i64 k ∧ (∃ u v x, Box3 wr (w1.heap.size + 1 + 1 + 1) 41 u v x ∧ Own3 w1.heap.size wr u v x (onesL k) (halves zs k) (halves zs k)) ∧ Boxed wr w.heap.size 28 (.slice a zs.length cap) ∧ Box3 wr (w.heap.size + 1) 41 (.slice none 0 0) (.slice none 0 0) (.slice none 0 0) ∧ Below w.heap.size w wr ∧ w1.heap.size + 4 ≤ wr.heap.size) (fun i _ => zs.length - (intOf i).toNat)
    case atStart => exact ⟨0, Nat.zero_le _, rfl, ⟨_, _, _, q0, O2⟩, bT, bQ, hB3, hs3⟩
    case round =>
      obtain ⟨k, hk, rfl, ⟨u, v, x, Q, O⟩, bTk, bQk, hB, hsr⟩ := hrel
      clear q0 O2 bT bQ hB3 hs3
      have bT := bTk
      have bQ := bQk
      clear bTk bQk
      have cT := bT.cell
      by_cases hlt : k < zs.length
      · obtain ⟨b, off, rfl, hb, hc⟩ := (hI.below hB).at_ hlt
        have hcx := hc k hlt
        have hg := tasksOk_nth Ht.out hlt
        have hh := half_bd (show 1 ≤ nth zs k ∧ nth zs k ≤ 40 by omega)
        have Hst := Lib.hid (jot_step zs k)
        have l1 : (onesL k).length ≤ 8 := by rw [onesL_length]; omega
        have l2 : (halves zs k).length ≤ 8 := by rw [halves_length]; omega
        obtain ⟨h, hhz⟩ : ∃ h, half (nth zs k) = h := ⟨_, rfl⟩
        rw [hhz] at hh Hst
        have hdiv := hh.1
        have c0 := Q.c0
        have c1 := Q.c1
        have c2 := Q.c2
        clear hc hhz
        go_wp2_with (at_builtin; refine wpList_append_own_at _ rfl _ _ 22 rfl w1.heap.size 2 i0 (.int .i64 0) 1 8 Try.underlying22 hi hz0 hz1 hz2 rfl (by decide) _ _ _ rfl (World.ownsRow.alloc O.o0 _) ⟨(wr).heap.size, 0, none⟩ 1 1 [.int .i64 (1)] rfl rfl (Go.cell_one_new _ _ _) (by simp [Value.oneCell']) (by unfold maxLen; omega) (by omega) (by simp only [World.size_alloc]; omega) ?_)
        intro y0 V0 hown' hgrow _ hat
        have O' := O.appended hown' hgrow (by simpa using hat)
        obtain ⟨p0, q0, ep0⟩ := O'.o0.ints.shape
        simp only [List.length_append, List.length_cons, List.length_nil, Nat.zero_add] at ep0
        subst ep0
        have Q' := box3_grown Q O hgrow
        have hbk := O.o0.blk
        have bT' := (bT.alloc (.cells #[.int .i64 (1)] 2)).kept hgrow (fun e => by have := (hbk _ e.symm).1; omega)
        have bQ' := (bQ.alloc (.cells #[.int .i64 (1)] 2)).kept hgrow (fun e => by have := (hbk _ e.symm).1; omega)
        have hB' : Below w.heap.size w V0 := (hB.alloc (by omega) _).grown hgrow (by simp; omega) (fun j e => by have := (hbk j e).1; omega)
        have hsV := hgrow.size
        simp only [World.size_alloc] at hsV
        have g0 := Q'.c0
        have g1 := Q'.c1
        have g2 := Q'.c2
        have g3 := Q'.frozen 0
        clear hown' hgrow hat hbk O Q bT bQ hB
        have O := (O'.store (j := 0) Q' (.slice p0 ((onesL k).length + 1) q0)).rot
        have Q := Q'.set0 (.slice p0 ((onesL k).length + 1) q0)
        have bT := boxed_setFar (j := 0) (b := w1.heap.size + 1 + 1 + 1) (u := (.slice p0 ((onesL k).length + 1) q0)) bT' (by omega)
        have bQ := bQ'.other (b' := w1.heap.size + 1 + 1 + 1) (i := 0) (by omega) (.slice p0 ((onesL k).length + 1) q0)
        have hB := hB'.setCell (p := ⟨w1.heap.size + 1 + 1 + 1, 0, none⟩) (by show w.heap.size ≤ w1.heap.size + 1 + 1 + 1; omega) (.slice p0 ((onesL k).length + 1) q0)
        have hsV' : (wr).heap.size + 1 ≤ (V0.setCell ⟨w1.heap.size + 1 + 1 + 1, 0, none⟩ (.slice p0 ((onesL k).length + 1) q0)).heap.size := by simp only [World.setCell, Array.size_modify]; exact hsV
        obtain ⟨W5, hwt0⟩ : ∃ W5, V0.setCell ⟨w1.heap.size + 1 + 1 + 1, 0, none⟩ (.slice p0 ((onesL k).length + 1) q0) = W5 := ⟨_, rfl⟩
        rw [hwt0] at O Q bT bQ hB hsV'
        clear O' Q' bT' bQ' hB' hsV
        clear hcx cT c0 c1 c2
        have c1 := Q.c1
        go_wp2_with (at_builtin; refine wpList_append_own_at _ rfl _ _ 22 rfl w1.heap.size 2 i0 (.int .i64 0) 1 8 Try.underlying22 hi hz0 hz1 hz2 rfl (by decide) _ _ _ rfl (World.ownsRow.alloc O.o0 _) ⟨W5.heap.size, 0, none⟩ 1 1 [.int .i64 (h)] rfl rfl (Go.cell_one_new _ _ _) (by simp [Value.oneCell']) (by unfold maxLen; omega) (by omega) (by simp only [World.size_alloc]; omega) ?_)
        intro y1 V1 hown' hgrow _ hat
        have O' := O.appended hown' hgrow (by simpa using hat)
        obtain ⟨p1, q1, ep1⟩ := O'.o0.ints.shape
        simp only [List.length_append, List.length_cons, List.length_nil, Nat.zero_add] at ep1
        subst ep1
        have Q' := box3_grown Q O hgrow
        have hbk := O.o0.blk
        have bT' := (bT.alloc (.cells #[.int .i64 (h)] 2)).kept hgrow (fun e => by have := (hbk _ e.symm).1; omega)
        have bQ' := (bQ.alloc (.cells #[.int .i64 (h)] 2)).kept hgrow (fun e => by have := (hbk _ e.symm).1; omega)
        have hB' : Below w.heap.size w V1 := (hB.alloc (by omega) _).grown hgrow (by simp; omega) (fun j e => by have := (hbk j e).1; omega)
        have hsV := hgrow.size
        simp only [World.size_alloc] at hsV
        have g0 := Q'.c0
        have g1 := Q'.c1
        have g2 := Q'.c2
        have g3 := Q'.frozen 1
        clear hown' hgrow hat hbk O Q bT bQ hB
        have O := (O'.store (j := 1) Q' (.slice p1 ((halves zs k).length + 1) q1)).rot
        have Q := Q'.set1 (.slice p1 ((halves zs k).length + 1) q1)
        have bT := boxed_setFar (j := 1) (b := w1.heap.size + 1 + 1 + 1) (u := (.slice p1 ((halves zs k).length + 1) q1)) bT' (by omega)
        have bQ := bQ'.other (b' := w1.heap.size + 1 + 1 + 1) (i := 1) (by omega) (.slice p1 ((halves zs k).length + 1) q1)
        have hB := hB'.setCell (p := ⟨w1.heap.size + 1 + 1 + 1, 1, none⟩) (by show w.heap.size ≤ w1.heap.size + 1 + 1 + 1; omega) (.slice p1 ((halves zs k).length + 1) q1)
        have hsV' : W5.heap.size + 1 ≤ (V1.setCell ⟨w1.heap.size + 1 + 1 + 1, 1, none⟩ (.slice p1 ((halves zs k).length + 1) q1)).heap.size := by simp only [World.setCell, Array.size_modify]; exact hsV
        obtain ⟨W6, hwt1⟩ : ∃ W6, V1.setCell ⟨w1.heap.size + 1 + 1 + 1, 1, none⟩ (.slice p1 ((halves zs k).length + 1) q1) = W6 := ⟨_, rfl⟩
        rw [hwt1] at O Q bT bQ hB hsV'
        clear O' Q' bT' bQ' hB' hsV
        clear c1
        have c2 := Q.c2
        go_wp2_with (at_builtin; refine wpList_append_own_at _ rfl _ _ 22 rfl w1.heap.size 2 i0 (.int .i64 0) 1 8 Try.underlying22 hi hz0 hz1 hz2 rfl (by decide) _ _ _ rfl (World.ownsRow.alloc O.o0 _) ⟨W6.heap.size, 0, none⟩ 1 1 [.int .i64 (h)] rfl rfl (Go.cell_one_new _ _ _) (by simp [Value.oneCell']) (by unfold maxLen; omega) (by omega) (by simp only [World.size_alloc]; omega) ?_)
        intro y2 V2 hown' hgrow _ hat
        have O' := O.appended hown' hgrow (by simpa using hat)
        obtain ⟨p2, q2, ep2⟩ := O'.o0.ints.shape
        simp only [List.length_append, List.length_cons, List.length_nil, Nat.zero_add] at ep2
        subst ep2
        have Q' := box3_grown Q O hgrow
        have hbk := O.o0.blk
        have bT' := (bT.alloc (.cells #[.int .i64 (h)] 2)).kept hgrow (fun e => by have := (hbk _ e.symm).1; omega)
        have bQ' := (bQ.alloc (.cells #[.int .i64 (h)] 2)).kept hgrow (fun e => by have := (hbk _ e.symm).1; omega)
        have hB' : Below w.heap.size w V2 := (hB.alloc (by omega) _).grown hgrow (by simp; omega) (fun j e => by have := (hbk j e).1; omega)
        have hsV := hgrow.size
        simp only [World.size_alloc] at hsV
        have g0 := Q'.c0
        have g1 := Q'.c1
        have g2 := Q'.c2
        have g3 := Q'.frozen 2
        clear hown' hgrow hat hbk O Q bT bQ hB
        have O := (O'.store (j := 2) Q' (.slice p2 ((halves zs k).length + 1) q2)).rot
        have Q := Q'.set2 (.slice p2 ((halves zs k).length + 1) q2)
        have bT := boxed_setFar (j := 2) (b := w1.heap.size + 1 + 1 + 1) (u := (.slice p2 ((halves zs k).length + 1) q2)) bT' (by omega)
        have bQ := bQ'.other (b' := w1.heap.size + 1 + 1 + 1) (i := 2) (by omega) (.slice p2 ((halves zs k).length + 1) q2)
        have hB := hB'.setCell (p := ⟨w1.heap.size + 1 + 1 + 1, 2, none⟩) (by show w.heap.size ≤ w1.heap.size + 1 + 1 + 1; omega) (.slice p2 ((halves zs k).length + 1) q2)
        have hsV' : W6.heap.size + 1 ≤ (V2.setCell ⟨w1.heap.size + 1 + 1 + 1, 2, none⟩ (.slice p2 ((halves zs k).length + 1) q2)).heap.size := by simp only [World.setCell, Array.size_modify]; exact hsV
        obtain ⟨W7, hwt2⟩ : ∃ W7, V2.setCell ⟨w1.heap.size + 1 + 1 + 1, 2, none⟩ (.slice p2 ((halves zs k).length + 1) q2) = W7 := ⟨_, rfl⟩
        rw [hwt2] at O Q bT bQ hB hsV'
        clear O' Q' bT' bQ' hB' hsV
        go_wp2
        go_roundw
        case rel => exact ⟨k + 1, by omega, by simp, ⟨_, _, _, Q, by rw [Hst.out.1, Hst.out.2]; exact O⟩, bT, bQ, hB, by omega⟩
        case measure => simp [intOf]; omega
      · obtain rfl : k = zs.length := by omega
        obtain ⟨au, cu, rfl⟩ := O.o0.ints.shape
        obtain ⟨av, cv, rfl⟩ := O.o1.ints.shape
        obtain ⟨ax, cx, rfl⟩ := O.o2.ints.shape
        have d0 := Q.c0
        have d1 := Q.c1
        have d2 := Q.c2
        have c0 := bQ.c0
        have c1 := bQ.c1
        have c2 := bQ.c2
        have f0 := bQ.frozen 0
        have f1 := bQ.frozen 1
        have f2 := bQ.frozen 2
        go_wp2_with fail
        have bF := ((bQ.set0 (.slice au (onesL zs.length).length cu)).set1 (.slice av (halves zs zs.length).length cv)).set2 (.slice ax (halves zs zs.length).length cx)
        have n0 := bF.c0
        have n1 := bF.c1
        have n2 := bF.c2
        have O1 := O.store (j := 0) bQ (.slice au (onesL zs.length).length cu)
        have O2 := O1.store (j := 1) (bQ.set0 (.slice au (onesL zs.length).length cu)) (.slice av (halves zs zs.length).length cv)
        have O3 := O2.store (j := 2) ((bQ.set0 (.slice au (onesL zs.length).length cu)).set1 (.slice av (halves zs zs.length).length cv)) (.slice ax (halves zs zs.length).length cx)
        exact bodyPost_ret (v := .tuple #[.agg #[.slice au (onesL zs.length).length cu, .slice av (halves zs zs.length).length cv, .slice ax (halves zs zs.length).length cx], .int .i64 0]) (by simp [results, Try.f56, go_sem, n0, n1, n2]) rfl ⟨_, _, _, by rw [H.out.2.2], by rw [H.out.1, H.out.2.1]; exact O3.base (by omega),
          ((hB.setCell (p := ⟨w.heap.size + 1, 0, none⟩) (by show w.heap.size ≤ w.heap.size + 1; omega) _).setCell (p := ⟨w.heap.size + 1, 1, none⟩) (by show w.heap.size ≤ w.heap.size + 1; omega) _).setCell (p := ⟨w.heap.size + 1, 2, none⟩) (by show w.heap.size ≤ w.heap.size + 1; omega) _⟩

end Go.Proofs.Ytmmpoaphjjpjaaa
