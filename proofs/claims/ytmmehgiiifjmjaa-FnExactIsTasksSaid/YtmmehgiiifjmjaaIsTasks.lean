/-
  The law on IsTasks: at every argument the function answers as its model, and writes into no argument.
  Conditions: none but the row's own.
-/
import Derived.Test.YtmmehgiiifjmjaaChkI
import Derived.Test.YtmmehgiiifjmjaaRow
namespace Go.Proofs.Ytmmehgiiifjmjaa
open Go.RowKit Go.Shelf

set_option maxRecDepth 100000 in
set_option maxHeartbeats 1000000 in
theorem lawIsTasks_c (sv : Value) (zs : List Int) (w : World) (hI : Ints w.heap.size w sv zs) (_hN : I64s zs) (hl : zs.length ≤ 9223372036854775807) :
    Calls Try.prog 3 #[.agg #[sv]] w fun e w' => e = .returned (.bool true) ∧ Below w.heap.size w w' := by
  obtain ⟨a, cap, rfl⟩ := hI.shape
  have hB0 : Below w.heap.size w (w.alloc (.cells #[.slice a zs.length cap] 24)) := (Below.refl _ w).alloc (Nat.le_refl _) _
  by_cases hs : 1048576 < zs.length
  · have hm : szI zs.length 1048576 = -1 := by unfold szI; rw [if_pos (by omega)]
    have Hm := Lib.hid hm
    clear hm
    go_enter Try.func3, Try.ntmps3
    go_wp2_with fail
    refine (szTasks_c _ _ _ _ _ (by omega) (by omega) hl).mono ?_
    rintro e w1 ⟨he, hb⟩
    rw [Hm.out] at he
    subst he
    go_wp2
    go_ret
    exact ⟨rfl, hB0.trans (hb.mono (by simp))⟩
  · have hm : szI zs.length 1048576 = 1048576 - zs.length := by unfold szI; rw [if_neg (by omega)]
    have h0 : (0 : Int) ≤ 1048576 - zs.length := by omega
    have hk : zs.length * 8 ≤ 140737488351232 := by omega
    have Hm := Lib.hid hm
    clear hm
    go_enter Try.func3, Try.ntmps3
    go_wp2_with fail
    refine (szTasks_c _ _ _ _ _ (by omega) (by omega) hl).mono ?_
    rintro e w1 ⟨he, hb⟩
    rw [Hm.out] at he
    subst he
    have hB1 := hB0.trans (hb.mono (by simp))
    have hI1 := hI.later hB1
    have k1 : w1.cell? ⟨w.heap.size, 0, none⟩ = some (.slice a zs.length cap) := (hb.cell (p := ⟨w.heap.size, 0, none⟩) (by simp)).trans (by simp [go_sem])
    have s1 : w.heap.size < w1.heap.size := by have := hb.size; simp at this; omega
    clear hb hB0
    go_wp2_with fail
    -- w0 := spec.IsTasks(toTasks(aT))
    refine (toTasks_c _ zs _ hI1 (by omega)).mono ?_
    rintro e w2 ⟨v2, rfl, ho2, hb2⟩
    have k2 := (hb2.cell (p := ⟨w.heap.size, 0, none⟩) s1).trans k1
    have s2 := hb2.size
    go_wp2_with fail
    refine (sIsTasks_c _ zs _ ho2.ints hk).mono ?_
    rintro e w3 ⟨rfl, hb3⟩
    have k3 := (hb3.cell (p := ⟨w.heap.size, 0, none⟩) (by show w.heap.size < _; omega)).trans k2
    have s3 := hb3.size
    have hB3 := hB1.trans ((hb2.mono (by omega)).trans (hb3.mono (by omega)))
    have hI3 := hI.later hB3
    go_wp2_with fail
    -- x0 := toTasks(aT)
    refine (toTasks_c _ zs _ hI3 (by omega)).mono ?_
    rintro e w4 ⟨v4, rfl, ho4, hb4⟩
    obtain ⟨a4, c4, rfl⟩ := ho4.ints.shape
    have k4 := (hb4.cell (p := ⟨w.heap.size, 0, none⟩) (by show w.heap.size < _; omega)).trans k3
    have s4 := hb4.size
    go_wp2_with fail
    have hBx : Below w4.heap.size w4 (w4.alloc (.cells #[.slice a4 zs.length c4] 27)) := (Below.refl _ w4).alloc (Nat.le_refl _) _
    refine (isTasks_c _ zs _ (ho4.ints.later hBx) hk).mono ?_
    rintro e w5 ⟨rfl, hb5⟩
    rw [World.size_alloc] at hb5
    have s5 := hb5.size
    rw [World.size_alloc] at s5
    have k5 : w5.cell? ⟨w.heap.size, 0, none⟩ = some (.slice a zs.length cap) := (hb5.cell (p := ⟨w.heap.size, 0, none⟩) (by show w.heap.size < _; omega)).trans ((hBx.cell (p := ⟨w.heap.size, 0, none⟩) (by show w.heap.size < _; omega)).trans k4)
    have x5 : w5.cell? ⟨w4.heap.size, 0, none⟩ = some (.slice a4 zs.length c4) := (hb5.cell (p := ⟨w4.heap.size, 0, none⟩) (by simp)).trans (by simp [go_sem])
    have hq : (tasksOk zs != tasksOk zs) = false := by simp
    have hB5 : Below w.heap.size w w5 := hB3.trans ((hb4.mono (by omega)).trans ((hBx.mono (by omega)).trans (hb5.mono (by omega))))
    have hI5 := hI.later hB5
    have hX5 : Ints w5.heap.size w5 (.slice a4 zs.length c4) zs := (ho4.ints.below (hBx.trans (hb5.mono (by omega)))).mono (by omega)
    clear hBx hb5 hb4 hb3 hb2 k1 k2 k3 k4 hB1 hI1 hB3 hI3 ho2 ho4
    go_wp2_with fail
    have p1 : w.heap.size < w5.heap.size := by omega
    have p2 : w4.heap.size < w5.heap.size := by omega
    go_region_held3 (fun w' => w'.cell? ⟨w.heap.size, 0, none⟩ = some (.slice a zs.length cap) ∧ w'.cell? ⟨w4.heap.size, 0, none⟩ = some (.slice a4 zs.length c4) ∧ Below w5.heap.size w5 w')
      (first
        | exact ⟨k5, x5, (Below.refl _ _).drew⟩
        | (go_split_ands
           refine ⟨?_, ?_, ?_⟩
           · exact (hx.cell (p := ⟨w.heap.size, 0, none⟩) (by show w.heap.size < _; omega)).trans (by assumption)
           · exact (hx.cell (p := ⟨w4.heap.size, 0, none⟩) (by show w4.heap.size < _; omega)).trans (by assumption)
           · exact Below.trans (by assumption) (hx.mono (by omega))))
      (first
        | (go_at_call 23; go_split_ands; have hBW : Below w5.heap.size w5 _ := (by assumption); have pW := hBW.size; refine (toTasks_c _ zs _ (hI5.later hBW) (by omega)).mono ?_; rintro e w6 ⟨v6, rfl, ho6, hx⟩)
        | (go_at_call 25; go_split_ands; have hBW : Below w5.heap.size w5 _ := (by assumption); have pW := hBW.size; refine (eqTasks_d true _ _ zs zs _ (hX5.later hBW) ho6.ints hk (by simp)).mono ?_; rintro e w7 ⟨rfl, hx⟩))
    go_split_ands
    have hBz : Below w5.heap.size w5 _ := (by assumption)
    go_wp2
    go_ret
    exact ⟨rfl, hB5.trans (hBz.mono (by omega))⟩

open Go.ChangeShapes Go.WideShapes Go.ChangeAt Go.Joins Go.ChangeMaps

set_option maxRecDepth 100000 in
theorem isTasks_lifted (os : Os) (started : os.Started) (H : Type) (enc : TypeId × Value → H) :
    ReturnsInHanded {} Try.checked os 3 .any (Rows.fnExactIsTasksSpec.pre6 enc Try.prog Try.f3 Rows.fnExactIsTasksRow.domain false) (Rows.fnExactIsTasksSpec.post enc Try.prog Try.f3 false true false false) := by
  refine returnsInHanded_of_change (C := Try.checked) ownT started (by kernel_rfl) Try.func3
    (ChangeSpec.witness6 (enc := enc) (C := Try.checked) false ⟨#[], #[(.agg #[.slice none 0 0])], []⟩ 8 (by kernel_rfl) (by kernel_rfl) (by kernel_rfl) (by kernel_rfl)) ?_
  intro W base args ds gs before hval0 hW hcnd _
  have hval : ∀ (j : Nat) t v, Try.f3.params[j]? = some t → args[j]? = some v → Value.okWide Try.prog W .any base t v := hval0
  have hW' := hW
  obtain ⟨p, q, hA0, hV, rfl, hfz, hnd⟩ := hW
  have hA : DataW.TrodAll enc Try.prog W 0 (fun _ => true) true Try.f3.params.toList args.toList ds p := hA0
  rw [Try.params3] at hA hval
  obtain ⟨v0, vs0, d0, ds0, p0, q0, hargs, rfl, rfl, h0, r0⟩ := trodAll_cons hA
  obtain ⟨rfl, rfl, rfl⟩ := trodAll_nil r0
  obtain rfl : args = #[v0] := by cases args; simp_all
  obtain ⟨c0, y0, n0, rfl, rfl, rfl, t0⟩ := open_agg1 Try.underlying24 rfl (by kernel_rfl) (by kernel_rfl) (hval 0 24 v0 rfl rfl) h0
  obtain ⟨zs0, hI0, hN0, hl0⟩ := ints_of_trod Try.underlying22 Try.underlying2 (by kernel_rfl) t0
  refine (lawIsTasks_c c0 zs0 W hI0 hN0 hl0).mono fun e W' ⟨he, hb⟩ => ?_
  subst he
  exact ⟨_, rfl, law_post rfl laidT (by kernel_rfl) (by kernel_rfl) Try.underlying4 hW' rfl hb⟩

set_option maxHeartbeats 20000000 in
theorem isTasks_closed : joinedFacts Try.prog 3 Try.f3 Rows.fnExactIsTasksSpec Rows.fnExactIsTasksRow = true := by
  unfold joinedFacts
  exact (and_mk (and_mk (and_mk (and_mk (and_mk (and_mk (and_mk (and_mk (and_mk (and_mk (and_mk (and_mk (and_mk (and_mk (and_mk (and_mk (and_mk (and_mk (and_mk (and_mk (and_mk (and_mk (and_mk (and_mk (and_mk (and_mk (and_mk (and_mk (and_mk (and_mk (and_mk (by as_aux_lemma => kernel_rfl) laidT) (by as_aux_lemma => kernel_rfl)) (by as_aux_lemma => kernel_rfl)) (by as_aux_lemma => kernel_rfl)) (by as_aux_lemma => kernel_rfl)) (by as_aux_lemma => kernel_rfl)) (by as_aux_lemma => kernel_rfl)) (by as_aux_lemma => kernel_rfl)) (by as_aux_lemma => kernel_rfl)) (by as_aux_lemma => kernel_rfl)) (by as_aux_lemma => kernel_rfl)) (by as_aux_lemma => kernel_rfl)) (by as_aux_lemma => kernel_rfl)) (by as_aux_lemma => kernel_rfl)) (by as_aux_lemma => kernel_rfl)) (by as_aux_lemma => kernel_rfl)) (by as_aux_lemma => kernel_rfl)) (by as_aux_lemma => kernel_rfl)) (by as_aux_lemma => kernel_rfl)) (by as_aux_lemma => kernel_rfl)) (by as_aux_lemma => kernel_rfl)) (by as_aux_lemma => kernel_rfl)) (by as_aux_lemma => kernel_rfl)) (by as_aux_lemma => kernel_rfl)) mayEnterT) (by rw [liftsFinalT]; rfl)) (by rw [makeT]; rfl)) (by as_aux_lemma => kernel_rfl)) (by as_aux_lemma => kernel_rfl)) (by as_aux_lemma => kernel_rfl)) (by as_aux_lemma => kernel_rfl))

set_option maxHeartbeats 20000000 in
theorem isTasks_holds : Rows.FnExactIsTasksSaid :=
  OpenClaim.holds_of_wide 3 Try.f3 rfl rfl rfl rfl rfl rfl rfl ⟨rfl, rfl, rfl, rfl, rfl⟩ rfl rfl rfl rfl rfl (by as_aux_lemma => kernel_rfl) Try.func3 isTasks_closed
    (of_decide_eq_true (by as_aux_lemma => kernel_rfl)) (by unfold Func.isWrapper; rw [if_neg (of_decide_eq_false (by as_aux_lemma => kernel_rfl))]; exact ⟨rfl, rfl⟩)
    (fun os started H enc _ => isTasks_lifted os started H enc)

end Go.Proofs.Ytmmehgiiifjmjaa
