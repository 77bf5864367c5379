/-
  The law of the top promise: harmonic turns of any tasks serve, also shifted and repeated, their densities are at most 1, and nobody waits longer than told.
  Conditions: none but the row's own.
-/
import Derived.Test.YtahleajedgehlaaPrA
import Derived.Test.YtahleajedgehlaaPrB
import Derived.Test.YtahleajedgehlaaHtK
import Derived.Test.YtahleajedgehlaaHtT
namespace Go.Proofs.Ytahleajedgehlaa
open Go.RowKit Go.Shelf

theorem Prom.i64 {zs l : List Int} (h : Prom zs l) (ht : tasksOk zs = true) : I64s l := by
  intro z hz
  obtain ⟨j, hj, rfl⟩ := List.getElem_of_mem hz
  have hl := tasksOk_len ht
  rw [← nth_lt hj]
  unfold I64
  rcases h.own j hj with e | ⟨i, hi, e⟩ <;> omega
theorem shiftR_of {zs l : List Int} (h : Prom zs l) (ht : tasksOk zs = true) (x : Int) : I64s (shiftR l x) ∧ (shiftR l x).length ≤ 120 := by
  unfold shiftR
  cases e : shiftOk l x
  · exact ⟨by simp [I64s], by simp⟩
  · unfold shiftOk at e
    rw [Bool.and_eq_true, inB_true] at e
    have := h.shift (n := x.toNat) (by omega)
    exact ⟨this.i64 ht, this.le⟩

set_option maxRecDepth 100000 in
set_option maxHeartbeats 8000000 in
theorem lawPromiseOfAll_c (c0 : Value) (zs0 : List Int) (x1 : Int) (x2 : Int) (w : World) (hI0 : Ints w.heap.size w c0 zs0) (hN0 : I64s zs0) (hL0 : zs0.length ≤ 9223372036854775807) (hx1 : I64 x1) (hx2 : I64 x2) :
    Calls Try.prog 3 #[.agg #[c0], .int .i64 x1, .int .i64 x2] w fun e w' => e = .returned (.bool true) ∧ Below w.heap.size w w' := by
  obtain ⟨a0, cap0, rfl⟩ := hI0.shape
  have hB0 : Below w.heap.size w (w.alloc (.cells #[.slice a0 zs0.length cap0] 24)) := (Below.refl _ w).alloc (Nat.le_refl _) _
  by_cases hs0 : 1000 < zs0.length
  · go_enter Try.func3, Try.ntmps3
    go_wp2
    go_ret
    exact ⟨rfl, hB0⟩
  have hm0 : zs0.length ≤ 1048576 := by omega
  obtain ⟨R, hR⟩ : ∃ R, htR zs0 = R := ⟨_, rfl⟩
  have HR := Lib.hid hR
  have hRl : R.length ≤ 1048576 := by
    by_cases hc : htC zs0 = 0
    · have := (prom_ht hc).le
      rw [hR] at this; omega
    · have : R = [] := by
        rw [← hR]
        unfold htC at hc
        unfold htR
        cases h1 : tasksOk zs0
        · rfl
        · cases h2 : harmB zs0
          · rfl
          · cases h3 : harmT zs0 with
            | none => rfl
            | some l => rw [h1, h2, h3] at hc; simp at hc
      rw [this]; simp
  go_enter Try.func3, Try.ntmps3
  go_wp2_with fail
  refine (i_HarmonicTurns _ zs0 _ (hI0.later hB0) hN0 hm0).mono ?_
  rintro e w1 ⟨v1, rfl, ho1, hb1⟩
  rw [hR] at ho1
  have b1 : Boxed w1 w.heap.size 24 (.slice a0 zs0.length cap0) := boxed_later (Boxed.new _ _ _) hb1
  have hB1 := hB0.trans (hb1.mono (by simp))
  have k1 := b1.cell
  have hcap := ho1.capOk
  clear hb1 hB0
  go_wp2_with fail
  refine (s_HarmonicTurns _ zs0 _ (hI0.later hB1) hN0 hm0).mono ?_
  rintro e w2 ⟨v2, rfl, ho2, hb2⟩
  rw [hR] at ho2
  have b2 := boxed_later b1 hb2
  have hs1 := hB1.size
  have hB2 := hB1.trans (hb2.mono hs1)
  have ho3 := ho1.below hb2
  clear hb2 hB1 ho1 k1 b1 hR
  obtain ⟨a1, c1, rfl⟩ := ho3.ints.shape
  obtain ⟨a2, c2, rfl⟩ := ho2.ints.shape
  go_wp2_with fail
  refine (likeInts_t _ _ R _ ho3.ints ho2.ints (by omega)).mono ?_
  rintro e w3 ⟨rfl, hb3⟩
  have b3 := boxed_later b2 hb3
  have hB3 := hB2.trans (hb3.mono hB2.size)
  have ho4 := ho3.below hb3
  clear hb3 hB2 ho3 ho2 b2
  by_cases hc : htC zs0 = 0
  case neg =>
    have hq : (htC zs0 != 0) = true := by simpa using hc
    clear hc
    go_wp2
    go_ret
    exact ⟨rfl, hB3⟩
  have hp := prom_ht hc
  rw [HR.out] at hp
  have ht := (htC_zero hc).1
  have hl := tasksOk_len ht
  have Hp := Lib.hid hp
  have Ht := Lib.hid ht
  have Hhc := Lib.hid hc
  have hRp : (0 : Int) < (R.length : Int) := by have := hp.pos; omega
  have hN1 := hp.i64 ht
  have k3 := b3.cell
  clear hp ht
  go_wp2_with fail
  refine (i_DoServe _ zs0 _ R _ (hI0.later hB3) hN0 hm0 ho4.ints hN1 hRl).mono ?_
  rintro e w4 ⟨he, hb4⟩
  rw [Hp.out.serve Ht.out, Hp.out.code Ht.out] at he
  subst he
  have b4 := boxed_later b3 hb4
  have hB4 := hB3.trans (hb4.mono hB3.size)
  have ho5 := ho4.below hb4
  have k4 := b4.cell
  clear hb4 hB3 ho4 b3 k3
  go_wp2_with fail
  refine (i_DensityOf _ zs0 _ (hI0.later hB4) hN0 hm0).mono ?_
  rintro e w5 ⟨he, hb5⟩
  obtain ⟨d1, d2, d3, d4, d5⟩ := Hp.out.dens Ht.out
  rw [d1] at he
  obtain ⟨D0, hD0⟩ : ∃ D, dens0 zs0 = D := ⟨_, rfl⟩
  obtain ⟨D1, hD1⟩ : ∃ D, dens1 zs0 = D := ⟨_, rfl⟩
  rw [hD0, hD1] at he
  rw [hD1] at d2 d3 d4
  rw [hD0] at d3 d5
  subst he
  have b5 := boxed_later b4 hb5
  have hB5 := hB4.trans (hb5.mono hB4.size)
  have ho6 := ho5.below hb5
  clear hb5 hB4 ho5 b4 k4 d1 hD0 hD1
  go_wp2_with fail
  refine (i_GreatestWaits _ R _ ho6.ints hN1 hRl).mono ?_
  rintro e w6 ⟨v6, he, ho7, hb6⟩
  obtain ⟨g1, g2⟩ := Hp.out.great Ht.out
  rw [g1] at he
  rw [g2] at ho7
  subst he
  have b6 := boxed_later b5 hb6
  have hB6 := hB5.trans (hb6.mono hB5.size)
  have ho8 := ho6.below hb6
  have k6 := b6.cell
  obtain ⟨gg, cc, rfl, _, _⟩ := ho7.shape (by omega)
  obtain ⟨bz, oz, hza, hzb, hzc⟩ := hI0.at_ (show 0 < zs0.length by omega)
  subst hza
  have ho7' : OwnI w5.heap.size w6 (.slice (some ⟨gg, 0, none⟩) zs0.length cc) zs0 := ho7
  clear hb6 hB5 ho6 b5 g1 g2 ho7 hzc
  go_wp2
  clear k6
  go_loopw [18] (fun i wr => ∃ k : Nat, k ≤ zs0.length ∧ i = .int .i64 k ∧ Boxed wr w.heap.size 24 (.slice (some ⟨bz, oz, none⟩) zs0.length cap0) ∧ OwnI (w.alloc (.cells #[.slice (some ⟨bz, oz, none⟩) zs0.length cap0] 24)).heap.size wr (.slice a1 R.length c1) R ∧ OwnI w5.heap.size wr (.slice (some ⟨gg, 0, none⟩) zs0.length cc) zs0 ∧ Below w.heap.size w wr) (fun i _ => zs0.length - (intOf i).toNat)
  case atStart => exact ⟨0, Nat.zero_le _, rfl, b6, ho8, ho7', hB6⟩
  case round =>
    obtain ⟨k, hk, rfl, bk, hok, hok7, hB⟩ := hrel
    clear b6 ho8 ho7' hB6
    by_cases hlt : k < zs0.length
    · obtain ⟨b', off', hz', hb', hcz⟩ := (hI0.below hB).at_ hlt
      cases hz'
      have cz := hcz k hlt
      have cw := hok7.cellAt (j := k) hlt
      have kx := bk.cell
      have hlt' : (k : Int) < (zs0.length : Int) := by omega
      clear hcz
      go_wp2
      go_quiet (fail)
      go_wp2
      go_roundw
      case rel => exact ⟨k + 1, by omega, by simp, bk, hok.of_block (fun _ _ => rfl), hok7.of_block (fun _ _ => rfl), below_drewN hB _⟩
      case measure => simp [intOf]; omega
    · obtain rfl : k = zs0.length := by omega
      have hsR := shiftR_of Hp.out Ht.out x1
      obtain ⟨S, hS⟩ : ∃ S, shiftR R x1 = S := ⟨_, rfl⟩
      rw [hS] at hsR
      have hs1 := hB.size
      have hcapR : CapOk (.slice a1 R.length c1) R.length := hok.capOk
      go_wp2_with fail
      refine (i_ShiftTurns _ R x1 _ hok.ints hN1 hRl hcapR hx1).mono ?_
      rintro e w7 ⟨v7, rfl, ho9, hb7⟩
      rw [hS] at ho9
      have b7 := boxed_later bk hb7
      have hB7 := hB.trans (hb7.mono hs1)
      have ho10 := hok.below hb7
      clear hb7 hB hok7 hok bk
      go_wp2_with fail
      refine (s_ShiftTurns _ R x1 _ ho10.ints hN1 hRl hcapR hx1).mono ?_
      rintro e w8 ⟨v8, rfl, ho11, hb8⟩
      have b8 := boxed_later b7 hb8
      have hB8 := hB7.trans (hb8.mono hB7.size)
      have ho12 := ho9.below hb8
      clear hb8 hB7 ho9 ho10 ho11 b7
      go_wp2_with fail
      refine (i_RepeatTurns _ S x2 _ ho12.ints hsR.1 (by omega) hx2).mono ?_
      rintro e w9 ⟨v9, rfl, ho13, hb9⟩
      have b9 := boxed_later b8 hb9
      have hB9 := hB8.trans (hb9.mono hB8.size)
      have ho14 := ho12.below hb9
      clear hb9 hB8 ho12 b8
      go_wp2_with fail
      refine (s_RepeatTurns _ S x2 _ ho14.ints hsR.1 (by omega) hx2).mono ?_
      rintro e w10 ⟨v10, rfl, ho15, hb10⟩
      have b10 := boxed_later b9 hb10
      have hB10 := hB9.trans (hb10.mono hB9.size)
      have ho16 := ho13.below hb10
      have k10 := b10.cell
      clear hb10 hB9 ho13 ho14 ho15 b9
      by_cases h5 : shiftC R x1 = 0
      case neg =>
        have hq1 : (shiftC R x1 == 0) = false := by simpa using h5
        have hq2 : (shiftC R x1 != 0) = true := by simpa using h5
        clear h5
        go_wp2
        go_ret
        exact ⟨rfl, hB10⟩
      by_cases h6 : repC S x2 = 0
      case neg =>
        have hq2 : (repC S x2 != 0) = true := by simpa using h6
        clear h6
        go_wp2
        go_ret
        exact ⟨rfl, hB10⟩
      have hpa := prom_again (zs := zs0) (x := x1) (y := x2) Hhc.out (by rw [HR.out]; exact h5) (by rw [HR.out, hS]; exact h6)
      rw [HR.out, hS] at hpa
      obtain ⟨Q, hQ⟩ : ∃ Q, repR S x2 = Q := ⟨_, rfl⟩
      rw [hQ] at hpa ho16
      have Hpa := Lib.hid hpa
      have hQl : Q.length ≤ 1048576 := by have := hpa.le; omega
      have hQ64 := hpa.i64 Ht.out
      clear hpa hQ
      go_wp2_with fail
      refine (i_DoServe _ zs0 _ Q _ (hI0.later hB10) hN0 hm0 ho16.ints hQ64 hQl).mono ?_
      rintro e w11 ⟨he, hb11⟩
      rw [Hpa.out.serve Ht.out, Hpa.out.code Ht.out] at he
      subst he
      go_wp2
      go_ret
      exact ⟨rfl, hB10.trans (hb11.mono hB10.size)⟩

open Go.ChangeShapes Go.WideShapes Go.ChangeAt Go.Joins Go.ChangeMaps

set_option maxRecDepth 100000 in
theorem promiseOfAll_lifted (os : Os) (started : os.Started) (H : Type) (enc : TypeId × Value → H) :
    ReturnsInHanded {} Try.checked os 3 .any (Rows.fnPromiseOfAllSpec.pre6 enc Try.prog Try.f3 Rows.fnPromiseOfAllRow.domain false) (Rows.fnPromiseOfAllSpec.post enc Try.prog Try.f3 false true false false) := by
  refine returnsInHanded_of_change (C := Try.checked) ownT started (by kernel_rfl) Try.func3
    (ChangeSpec.witness6 (enc := enc) (C := Try.checked) false ⟨#[], #[(.agg #[.slice none 0 0]), (.int .i64 0), (.int .i64 0)], []⟩ 8 (by kernel_rfl) (by kernel_rfl) (by kernel_rfl) (by kernel_rfl)) ?_
  intro W base args ds gs before hval0 hW hcnd _
  have hval : ∀ (j : Nat) t v, Try.f3.params[j]? = some t → args[j]? = some v → Value.okWide Try.prog W .any base t v := hval0
  have hW' := hW
  obtain ⟨p, q, hA0, hV, rfl, hfz, hnd⟩ := hW
  have hA : DataW.TrodAll enc Try.prog W 0 (fun _ => true) true Try.f3.params.toList args.toList ds p := hA0
  rw [Try.params3] at hA hval
  obtain ⟨v0, vs0, d0, ds0, p0, q0, hargs, rfl, rfl, h0, r0⟩ := trodAll_cons hA
  obtain ⟨v1, vs1, d1, ds1, p1, q1, rfl, rfl, rfl, h1, r1⟩ := trodAll_cons r0
  obtain ⟨v2, vs2, d2, ds2, p2, q2, rfl, rfl, rfl, h2, r2⟩ := trodAll_cons r1
  obtain ⟨rfl, rfl, rfl⟩ := trodAll_nil r2
  obtain rfl : args = #[v0, v1, v2] := by cases args; simp_all
  obtain ⟨c0, y0, n0, rfl, rfl, rfl, t0⟩ := open_agg1 Try.underlying24 rfl (by kernel_rfl) (by kernel_rfl) (hval 0 24 v0 rfl rfl) h0
  obtain ⟨zs0, hI0, hN0, hl0⟩ := ints_of_trod Try.underlying22 Try.underlying2 (by kernel_rfl) t0
  obtain ⟨x1, rfl, rfl, rfl, wx1⟩ := open_int Try.underlying2 (hval 1 2 v1 rfl rfl) h1
  obtain ⟨x2, rfl, rfl, rfl, wx2⟩ := open_int Try.underlying2 (hval 2 2 v2 rfl rfl) h2
  refine (lawPromiseOfAll_c c0 zs0 x1 x2 W hI0 hN0 hl0 (i64_of_wf wx1) (i64_of_wf wx2)).mono fun e W' ⟨he, hb⟩ => ?_
  subst he
  exact ⟨_, rfl, law_post rfl laidT (by kernel_rfl) (by kernel_rfl) Try.underlying4 hW' rfl hb⟩

set_option maxHeartbeats 20000000 in
theorem promiseOfAll_closed : joinedFacts Try.prog 3 Try.f3 Rows.fnPromiseOfAllSpec Rows.fnPromiseOfAllRow = true := by
  unfold joinedFacts
  exact (and_mk (and_mk (and_mk (and_mk (and_mk (and_mk (and_mk (and_mk (and_mk (and_mk (and_mk (and_mk (and_mk (and_mk (and_mk (and_mk (and_mk (and_mk (and_mk (and_mk (and_mk (and_mk (and_mk (and_mk (and_mk (and_mk (and_mk (and_mk (and_mk (and_mk (and_mk (by as_aux_lemma => kernel_rfl) laidT) (by as_aux_lemma => kernel_rfl)) (by as_aux_lemma => kernel_rfl)) (by as_aux_lemma => kernel_rfl)) (by as_aux_lemma => kernel_rfl)) (by as_aux_lemma => kernel_rfl)) (by as_aux_lemma => kernel_rfl)) (by as_aux_lemma => kernel_rfl)) (by as_aux_lemma => kernel_rfl)) (by as_aux_lemma => kernel_rfl)) (by as_aux_lemma => kernel_rfl)) (by as_aux_lemma => kernel_rfl)) (by as_aux_lemma => kernel_rfl)) (by as_aux_lemma => kernel_rfl)) (by as_aux_lemma => kernel_rfl)) (by as_aux_lemma => kernel_rfl)) (by as_aux_lemma => kernel_rfl)) (by as_aux_lemma => kernel_rfl)) (by as_aux_lemma => kernel_rfl)) (by as_aux_lemma => kernel_rfl)) (by as_aux_lemma => kernel_rfl)) (by as_aux_lemma => kernel_rfl)) (by as_aux_lemma => kernel_rfl)) (by as_aux_lemma => kernel_rfl)) mayEnterT) (by rw [liftsFinalT]; rfl)) (by rw [makeT]; rfl)) (by as_aux_lemma => kernel_rfl)) (by as_aux_lemma => kernel_rfl)) (by as_aux_lemma => kernel_rfl)) (by as_aux_lemma => kernel_rfl))

set_option maxHeartbeats 20000000 in
theorem promiseOfAll_holds : Rows.FnPromiseOfAllSaid :=
  OpenClaim.holds_of_wide 3 Try.f3 rfl rfl rfl rfl rfl rfl rfl ⟨rfl, rfl, rfl, rfl, rfl⟩ rfl rfl rfl rfl rfl (by as_aux_lemma => kernel_rfl) Try.func3 promiseOfAll_closed
    (of_decide_eq_true (by as_aux_lemma => kernel_rfl)) (by unfold Func.isWrapper; rw [if_neg (of_decide_eq_false (by as_aux_lemma => kernel_rfl))]; exact ⟨rfl, rfl⟩)
    (fun os started H enc _ => promiseOfAll_lifted os started H enc)

end Go.Proofs.Ytahleajedgehlaa
