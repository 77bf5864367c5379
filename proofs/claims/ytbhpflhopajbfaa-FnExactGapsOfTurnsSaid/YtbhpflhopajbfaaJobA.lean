/-
  Jobs of the program: AreJobs.
  Conditions: lists of at most 1048576 elements.
-/
import Derived.Test.YtbhpflhopajbfaaJobI
namespace Go.Proofs.Ytbhpflhopajbfaa
open Go.RowKit Go.Shelf
attribute [local go_sem] Oper.semAt_some

set_option maxRecDepth 100000 in
set_option maxHeartbeats 8000000 in
theorem i_AreJobs (cl cp cd : Value) (ls ps ds : List Int) (w : World) (hI : Jobs3 w.heap.size w cl cp cd ls ps ds) (_hN : J64 ls ps ds) (hm : JLen ls ps ds) :
    Calls Try.prog 135 #[.agg #[cl, cp, cd]] w fun e w' => e = .returned (.bool (jobsOk ls ps ds)) ∧ Below w.heap.size w w' := by
  obtain ⟨al, capl, rfl⟩ := hI.l.shape
  obtain ⟨ap, capp, rfl⟩ := hI.p.shape
  obtain ⟨ad, capd, rfl⟩ := hI.d.shape
  have m1 := hm.l
  have m2 := hm.p
  have m3 := hm.d
  have hB0 : Below w.heap.size w ((w.alloc (.cells #[.slice al ls.length capl, .slice ap ps.length capp, .slice ad ds.length capd] 37)).alloc (.cells #[.bool false] 4)) := ((Below.refl _ w).alloc (Nat.le_refl _) _).alloc (by simp) _
  refine (callsIn_wide (n := 9)).1 ?_
  by_cases h1 : ls.length < 1
  · have Hf := Lib.hid (jobsOk_no (ls := ls) (ps := ps) (ds := ds) (.inl h1))
    refine callsIn_of_wp_marks Try.func135 rfl trivial ?_ rfl
    simp only [Try.ntmps135, List.size_toArray, List.length_cons, List.length_nil, Nat.reduceAdd, Nat.reduceSub, Array.replicate_succ, Array.replicate_zero, List.push_toArray, List.append_toArray, List.nil_append, List.cons_append]
    gi_wp2_with fail
    exact retM0 ⟨_, by simp [results, Try.f135, go_sem], ret_bool Hf.out.symm, hB0⟩
  by_cases h8 : 8 < ls.length
  · have Hf := Lib.hid (jobsOk_no (ls := ls) (ps := ps) (ds := ds) (.inr (.inl h8)))
    refine callsIn_of_wp_marks Try.func135 rfl trivial ?_ rfl
    simp only [Try.ntmps135, List.size_toArray, List.length_cons, List.length_nil, Nat.reduceAdd, Nat.reduceSub, Array.replicate_succ, Array.replicate_zero, List.push_toArray, List.append_toArray, List.nil_append, List.cons_append]
    gi_wp2_with fail
    exact retM0 ⟨_, by simp [results, Try.f135, go_sem], ret_bool Hf.out.symm, hB0⟩
  by_cases hp : ps.length = ls.length
  case neg =>
    have Hf := Lib.hid (jobsOk_no (ls := ls) (ps := ps) (ds := ds) (.inr (.inr (.inl hp))))
    have hq : ((ps.length : Int) != (ls.length : Int)) = true := by rw [bne_iff_ne]; omega
    clear hp
    refine callsIn_of_wp_marks Try.func135 rfl trivial ?_ rfl
    simp only [Try.ntmps135, List.size_toArray, List.length_cons, List.length_nil, Nat.reduceAdd, Nat.reduceSub, Array.replicate_succ, Array.replicate_zero, List.push_toArray, List.append_toArray, List.nil_append, List.cons_append]
    gi_wp2_with fail
    exact retM0 ⟨_, by simp [results, Try.f135, go_sem], ret_bool Hf.out.symm, hB0⟩
  by_cases hd : ds.length = ls.length
  case neg =>
    have Hf := Lib.hid (jobsOk_no (ls := ls) (ps := ps) (ds := ds) (.inr (.inr (.inr (.inl hd)))))
    have hq : ((ps.length : Int) != (ls.length : Int)) = false := by rw [bne_eq_false_iff_eq]; omega
    have hq2 : ((ds.length : Int) != (ls.length : Int)) = true := by rw [bne_iff_ne]; omega
    clear hd hp
    refine callsIn_of_wp_marks Try.func135 rfl trivial ?_ rfl
    simp only [Try.ntmps135, List.size_toArray, List.length_cons, List.length_nil, Nat.reduceAdd, Nat.reduceSub, Array.replicate_succ, Array.replicate_zero, List.push_toArray, List.append_toArray, List.nil_append, List.cons_append]
    gi_wp2_with fail
    exact retM0 ⟨_, by simp [results, Try.f135, go_sem], ret_bool Hf.out.symm, hB0⟩
  have hq : ((ps.length : Int) != (ls.length : Int)) = false := by rw [bne_eq_false_iff_eq]; omega
  have hq2 : ((ds.length : Int) != (ls.length : Int)) = false := by rw [bne_eq_false_iff_eq]; omega
  have Hp := Lib.hid hp
  have Hd := Lib.hid hd
  have hpl : ls.length ≤ ps.length := by omega
  have hdl : ls.length ≤ ds.length := by omega
  clear hp hd hB0
  refine callsIn_of_wp_marks Try.func135 rfl trivial ?_ rfl
  simp only [Try.ntmps135, List.size_toArray, List.length_cons, List.length_nil, Nat.reduceAdd, Nat.reduceSub, Array.replicate_succ, Array.replicate_zero, List.push_toArray, List.append_toArray, List.nil_append, List.cons_append]
  gi_wp2_with (first | (gi_at_call 169; refine (callsIn_wide.2 (jobsByTask_c _ _ _ _)).mono ?_; rintro e w' ⟨rfl, rfl⟩) | (refine ⟨trivial, ?_⟩; gi_at_call 169; refine (callsIn_wide.2 (jobsByTask_c _ _ _ _)).mono ?_; rintro e w' ⟨rfl, rfl⟩))
  obtain ⟨W0, hW0⟩ : ∃ W0, (((w.alloc (.cells #[.slice al ls.length capl, .slice ap ps.length capp, .slice ad ds.length capd] 37)).alloc (.cells #[.bool false] 4)).alloc (.cells #[.slice al ls.length capl, .slice ap ps.length capp, .slice ad ds.length capd] 37)) = W0 := ⟨_, rfl⟩
  have hB0 : Below w.heap.size w W0 := by rw [← hW0]; exact (((Below.refl _ w).alloc (Nat.le_refl _) _).alloc (by simp) _).alloc (by simp; omega) _
  have hs0 : w.heap.size + 3 ≤ W0.heap.size := by rw [← hW0]; simp
  have bR : Boxed W0 (w.heap.size + 1) 4 (.bool false) := by rw [← hW0]; refine Boxed.alloc ?_ _; exact boxed_at (by simp)
  have bJ : Box3 W0 (w.heap.size + 1 + 1) 37 (.slice al ls.length capl) (.slice ap ps.length capp) (.slice ad ds.length capd) := by rw [← hW0]; simpa using Box3.new ((w.alloc (.cells #[.slice al ls.length capl, .slice ap ps.length capp, .slice ad ds.length capd] 37)).alloc (.cells #[.bool false] 4)) 37 (.slice al ls.length capl) (.slice ap ps.length capp) (.slice ad ds.length capd)
  rw [hW0]
  clear hW0
  refine range_outB 202 (fun k => .int .i64 (nth ls k)) (fun k => .int .i64 (nth ps k)) (fun k => .int .i64 (nth ds k)) (Keep := fun b => b < w.heap.size ∨ b = w.heap.size + 1 + 1) (c := 4) rfl (by omega) rfl trivial (enters_of Try.func190 (by kernel_rfl) rfl) (jobsByTask_at 8 _ w.heap.size _ _ _ ls ps ds (by omega) Hp.out Hd.out W0 bJ (by omega) (hI.below hB0)) (fun b hb => by omega) (fun _ => rfl)
    (fun k W => (∀ j, j < k → jobOk (nth ls j) (nth ps j) (nth ds j) = true) ∧ Boxed W (w.heap.size + 1) 4 (.bool false) ∧ Below w.heap.size w W)
    (fun c k W => c = .ret ∧ (∃ j, j < ls.length ∧ jobOk (nth ls j) (nth ps j) (nth ds j) = false) ∧ Boxed W (w.heap.size + 1) 4 (.bool false) ∧ Below w.heap.size w W)
    (by repeat' (first | exact ownFrom_pure _ _ | exact Own.from (boxed_own _ _ _) _ | exact Own.from (ownI_Own _ _ _) _ | exact Own.from (ownB_Own _ _ _) _ | exact ownFrom_below (Nat.le_refl _) (by omega) | exact ownFrom_kps (by omega) | apply OwnFrom.and)) (fun c => (by repeat' (first | exact ownFrom_pure _ _ | exact Own.from (boxed_own _ _ _) _ | exact Own.from (ownI_Own _ _ _) _ | exact Own.from (ownB_Own _ _ _) _ | exact ownFrom_below (Nat.le_refl _) (by omega) | exact ownFrom_kps (by omega) | apply OwnFrom.and))) ⟨by simp, bR, hB0⟩ ?a1 ?assign ?body ?done ?stop
  case assign =>
    intro l k b W K hk hb hK
    simp only [jobAt]
    gi_wp2_with fail
    exact hK
  case body =>
    rintro l k b W hl hr ⟨hall, bR1, hB1⟩ hb bx hk hs
    have Hall := Lib.hid hall
    have x0 := bx.c0
    have x1 := bx.c1
    have x2 := bx.c2
    have hsW := hB1.size
    clear hall hr
    cases hj : jobOk (nth ls k) (nth ps k) (nth ds k)
    · have Hj := Lib.hid hj
      clear hj
      gi_wp2_with fail
      refine ⟨trivial, (callsIn_wide.2 (isJob_c (nth ls k) (nth ps k) (nth ds k) W)).mono ?_⟩
      rintro e W1 ⟨he, hb1⟩
      rw [Hj.out] at he
      subst he
      have hk1 : Kps (Band (fun b => b < w.heap.size ∨ b = w.heap.size + 1 + 1) W0.heap.size (W0.heap.size + 2 + 4)) W W1 := Kps.below hb1
      have bR2 := boxed_later bR1 hb1
      have hB2 := hB1.trans (hb1.mono hsW)
      have cR := bR2.cell
      have fR := bR2.frozen
      clear hb1
      gi_wp2
      exact ⟨hk1.trans (Kps.setCell _ _ _ _ (by rintro ((h | h) | h) <;> omega)), rfl, ⟨k, hk, Hj.out⟩, bR2.set _, hB2.setCell (p := ⟨w.heap.size + 1, 0, none⟩) (by show w.heap.size ≤ w.heap.size + 1; omega) _⟩
    · have Hj := Lib.hid hj
      clear hj
      gi_wp2_with fail
      refine ⟨trivial, (callsIn_wide.2 (isJob_c (nth ls k) (nth ps k) (nth ds k) W)).mono ?_⟩
      rintro e W1 ⟨he, hb1⟩
      rw [Hj.out] at he
      subst he
      have hk1 : Kps (Band (fun b => b < w.heap.size ∨ b = w.heap.size + 1 + 1) W0.heap.size (W0.heap.size + 2 + 4)) W W1 := Kps.below hb1
      have bR2 := boxed_later bR1 hb1
      have hB2 := hB1.trans (hb1.mono hsW)
      clear hb1
      gi_wp2
      exact ⟨hk1, fun j hj => by by_cases e : j = k; exact e ▸ Hj.out; exact Hall.out j (by omega), bR2, hB2⟩
  case done =>
    rintro D W hD ⟨hall, bR1, hB1⟩ hK
    have Hall := Lib.hid hall
    clear hall
    have cR := bR1.cell
    have fR := bR1.frozen
    gi_wp2
    have hK' := (KeepsOthers.setCell W ⟨w.heap.size + 1, 0, none⟩ (.bool true)).same D _ hK rfl
    have cR2 := (boxed_shut (bR1.set (.bool true)) hK').cell
    exact retM1 hK' ⟨.bool true, by simp [results, Try.f135, go_sem, cR2], ret_bool (jobsOk_yes (by omega) (by omega) Hp.out Hd.out Hall.out).symm, below_shut (hB1.setCell (p := ⟨w.heap.size + 1, 0, none⟩) (by show w.heap.size ≤ w.heap.size + 1; omega) _) (by omega)⟩
  case stop =>
    rintro D c k W hD hk ⟨rfl, hj, bR1, hB1⟩ hK
    have Hj := Lib.hid hj
    clear hj
    gi_wp2
    have cR2 := (boxed_shut bR1 hK).cell
    exact retM1 hK ⟨.bool false, by simp [results, Try.f135, go_sem, cR2], ret_bool (jobsOk_no (.inr (.inr (.inr (.inr Hj.out))))).symm, below_shut hB1 (by omega)⟩

end Go.Proofs.Ytbhpflhopajbfaa
