/-
  The law on StarGround: at every argument the function answers as its model, writes into no argument, and its answer owns its memory.
  Conditions: none but the row's own.
-/
import Derived.Test.YtieobjoijalijaaGnL
import Derived.Test.YtieobjoijalijaaGnh
import Derived.Test.YtieobjoijalijaaLaw
namespace Go.Proofs.Ytieobjoijalijaa
open Go.RowKit Go.Shelf

set_option maxRecDepth 100000 in
set_option maxHeartbeats 8000000 in
theorem lawStarGround_c (x0 : Int) (w : World) (hx0 : I64 x0) :
    Calls Try.prog 10 #[.int .i64 x0] w fun e w' => e = .returned (.bool true) ∧ Below w.heap.size w w' := by
  have hB0 : Below w.heap.size w w := (Below.refl _ w)
  go_enter Try.func10, Try.ntmps10
  go_wp2_with fail
  obtain ⟨W0, hW0⟩ : ∃ W0, w = W0 := ⟨_, rfl⟩
  have hBW : Below w.heap.size w W0 := by rw [← hW0]; exact hB0
  have s0 : w.heap.size + 0 ≤ W0.heap.size := by rw [← hW0]; simp
  clear hB0
  subst hW0
  refine (s_StarGround x0 _ hx0).mono ?_
  rintro e W1 ⟨rfl, hb⟩
  have s1 := hb.size
  replace hBW := hBW.trans (hb.mono (by omega))
  clear hb
  go_wp2_with fail
  obtain ⟨W2, hWn⟩ : ∃ W2, W1.alloc (.cells #[.int .i64 (gdP 1 x0), .int .i64 (gdR starF 1 x0)] 56) = W2 := ⟨_, rfl⟩
  have hb : Below W1.heap.size W1 W2 := by rw [← hWn]; exact (Below.refl _ _).alloc (Nat.le_refl _) _
  have bw0 : Box2 W2 W1.heap.size 56 (.int .i64 (gdP 1 x0)) (.int .i64 (gdR starF 1 x0)) := by rw [← hWn]; exact Box2.new _ _ _ _
  have s2 : W1.heap.size + 1 ≤ W2.heap.size := by rw [← hWn]; simp
  rw [hWn]
  clear hWn
  replace hBW := hBW.trans (hb.mono (by omega))
  clear hb
  refine (i_StarGround x0 _ hx0).mono ?_
  rintro e W3 ⟨rfl, hb⟩
  have s3 := hb.size
  replace bw0 := bw0.later hb
  replace hBW := hBW.trans (hb.mono (by omega))
  clear hb
  have k_bw0 := (bw0.alloc (.cells #[.int .i64 (gdP 1 x0), .int .i64 (gdR starF 1 x0)] 56)).c0
  have k2_bw0 := (bw0.alloc (.cells #[.int .i64 (gdP 1 x0), .int .i64 (gdR starF 1 x0)] 56)).c1
  go_wp2_with fail
  clear k_bw0
  clear k2_bw0
  obtain ⟨W4, hWn⟩ : ∃ W4, W3.alloc (.cells #[.int .i64 (gdP 1 x0), .int .i64 (gdR starF 1 x0)] 56) = W4 := ⟨_, rfl⟩
  have hb : Below W3.heap.size W3 W4 := by rw [← hWn]; exact (Below.refl _ _).alloc (Nat.le_refl _) _
  have bg0 : Box2 W4 W3.heap.size 56 (.int .i64 (gdP 1 x0)) (.int .i64 (gdR starF 1 x0)) := by rw [← hWn]; exact Box2.new _ _ _ _
  have s4 : W3.heap.size + 1 ≤ W4.heap.size := by rw [← hWn]; simp
  rw [hWn]
  clear hWn
  replace bw0 := bw0.later hb
  replace hBW := hBW.trans (hb.mono (by omega))
  clear hb
  have k_bw0 := bw0.c0
  have k2_bw0 := bw0.c1
  have k_bg0 := bg0.c0
  have k2_bg0 := bg0.c1
  go_wp2_with fail
  clear k_bw0
  clear k2_bw0
  clear k_bg0
  clear k2_bg0
  refine (eqGround_y (gdP 1 x0) (gdR starF 1 x0) _).mono ?_
  rintro e W5 ⟨rfl, hb⟩
  have s5 := hb.size
  replace bw0 := bw0.later hb
  replace bg0 := bg0.later hb
  replace hBW := hBW.trans (hb.mono (by omega))
  clear hb
  have k_bw0 := bw0.c0
  have k2_bw0 := bw0.c1
  have k_bg0 := bg0.c0
  have k2_bg0 := bg0.c1
  go_wp2_with fail
  clear k_bw0
  clear k2_bw0
  clear k_bg0
  clear k2_bg0
  go_ret
  exact ⟨rfl, hBW⟩

open Go.ChangeShapes Go.WideShapes Go.ChangeAt Go.Joins Go.ChangeMaps

set_option maxRecDepth 100000 in
theorem starGround_lifted (os : Os) (started : os.Started) (H : Type) (enc : TypeId × Value → H) :
    ReturnsInHanded {} Try.checked os 10 .any (Rows.fnExactStarGroundSpec.pre6 enc Try.prog Try.f10 Rows.fnExactStarGroundRow.domain false) (Rows.fnExactStarGroundSpec.post enc Try.prog Try.f10 false true false false) := by
  refine returnsInHanded_of_change (C := Try.checked) ownT started (by kernel_rfl) Try.func10
    (ChangeSpec.witness6 (enc := enc) (C := Try.checked) false ⟨#[], #[(.int .i64 0)], []⟩ 8 (by kernel_rfl) (by kernel_rfl) (by kernel_rfl) (by kernel_rfl)) ?_
  intro W base args ds gs before hval0 hW hcnd _
  have hval : ∀ (j : Nat) t v, Try.f10.params[j]? = some t → args[j]? = some v → Value.okWide Try.prog W .any base t v := hval0
  have hW' := hW
  obtain ⟨p, q, hA0, hV, rfl, hfz, hnd⟩ := hW
  have hA : DataW.TrodAll enc Try.prog W 0 (fun _ => true) true Try.f10.params.toList args.toList ds p := hA0
  rw [Try.params10] at hA hval
  obtain ⟨v0, vs0, d0, ds0, p0, q0, hargs, rfl, rfl, h0, r0⟩ := trodAll_cons hA
  obtain ⟨rfl, rfl, rfl⟩ := trodAll_nil r0
  obtain rfl : args = #[v0] := by cases args; simp_all
  obtain ⟨x0, rfl, rfl, rfl, wx0⟩ := open_int Try.underlying2 (hval 0 2 v0 rfl rfl) h0
  refine (lawStarGround_c x0 W (i64_of_wf wx0)).mono fun e W' ⟨he, hb⟩ => ?_
  subst he
  exact ⟨_, rfl, law_post rfl laidT (by kernel_rfl) (by kernel_rfl) Try.underlying4 hW' rfl hb⟩

set_option maxHeartbeats 20000000 in
theorem starGround_closed : joinedFacts Try.prog 10 Try.f10 Rows.fnExactStarGroundSpec Rows.fnExactStarGroundRow = true := by
  unfold joinedFacts
  exact (and_mk (and_mk (and_mk (and_mk (and_mk (and_mk (and_mk (and_mk (and_mk (and_mk (and_mk (and_mk (and_mk (and_mk (and_mk (and_mk (and_mk (and_mk (and_mk (and_mk (and_mk (and_mk (and_mk (and_mk (and_mk (and_mk (and_mk (and_mk (and_mk (and_mk (and_mk (by as_aux_lemma => kernel_rfl) laidT) (by as_aux_lemma => kernel_rfl)) (by as_aux_lemma => kernel_rfl)) (by as_aux_lemma => kernel_rfl)) (by as_aux_lemma => kernel_rfl)) (by as_aux_lemma => kernel_rfl)) (by as_aux_lemma => kernel_rfl)) (by as_aux_lemma => kernel_rfl)) (by as_aux_lemma => kernel_rfl)) (by as_aux_lemma => kernel_rfl)) (by as_aux_lemma => kernel_rfl)) (by as_aux_lemma => kernel_rfl)) (by as_aux_lemma => kernel_rfl)) (by as_aux_lemma => kernel_rfl)) (by as_aux_lemma => kernel_rfl)) (by as_aux_lemma => kernel_rfl)) (by as_aux_lemma => kernel_rfl)) (by as_aux_lemma => kernel_rfl)) (by as_aux_lemma => kernel_rfl)) (by as_aux_lemma => kernel_rfl)) (by as_aux_lemma => kernel_rfl)) (by as_aux_lemma => kernel_rfl)) (by as_aux_lemma => kernel_rfl)) (by as_aux_lemma => kernel_rfl)) mayEnterT) (by rw [liftsFinalT]; rfl)) (by rw [makeT]; rfl)) (by as_aux_lemma => kernel_rfl)) (by as_aux_lemma => kernel_rfl)) (by as_aux_lemma => kernel_rfl)) (by as_aux_lemma => kernel_rfl))

set_option maxHeartbeats 20000000 in
theorem starGround_holds : Rows.FnExactStarGroundSaid :=
  OpenClaim.holds_of_wide 10 Try.f10 rfl rfl rfl rfl rfl rfl rfl ⟨rfl, rfl, rfl, rfl, rfl⟩ rfl rfl rfl rfl rfl (by as_aux_lemma => kernel_rfl) Try.func10 starGround_closed
    (of_decide_eq_true (by as_aux_lemma => kernel_rfl)) (by unfold Func.isWrapper; rw [if_neg (of_decide_eq_false (by as_aux_lemma => kernel_rfl))]; exact ⟨rfl, rfl⟩)
    (fun os started H enc _ => starGround_lifted os started H enc)

end Go.Proofs.Ytieobjoijalijaa
