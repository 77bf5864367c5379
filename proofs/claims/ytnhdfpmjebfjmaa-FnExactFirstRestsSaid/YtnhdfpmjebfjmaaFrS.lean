/-
  FirstRests of the model.
  Conditions: lists of at most 1048576 elements.
-/
import Derived.Test.YtnhdfpmjebfjmaaPoss
import Derived.Test.YtnhdfpmjebfjmaaNuS
namespace Go.Proofs.Ytnhdfpmjebfjmaa
open Go.RowKit Go.Shelf
attribute [local go_sem] Oper.semAt_some

set_option maxRecDepth 100000 in
set_option maxHeartbeats 8000000 in
theorem l05Possible_c (c0 : Value) (zs : List Int) (w : World) (hI : Ints w.heap.size w c0 zs) (ht : tasksOk zs = true) :
    Calls Try.prog 52 #[.agg #[c0]] w fun e w' => e = .returned (.bool (possB zs)) ∧ Below w.heap.size w w' := by
  obtain ⟨a, cap, rfl⟩ := hI.shape
  have hl := tasksOk_len ht
  have Ht := Lib.hid ht
  have hB0 : Below w.heap.size w (w.alloc (.cells #[.slice a zs.length cap] 29)) := (Below.refl _ w).alloc (Nat.le_refl _) _
  obtain ⟨dn, hdn⟩ : ∃ dn, densN (natsTo zs zs.length) = dn := ⟨_, rfl⟩
  obtain ⟨dd, hdd⟩ : ∃ dd, densD (natsTo zs zs.length) = dd := ⟨_, rfl⟩
  have HD := Lib.hid (And.intro hdn hdd)
  have hp : possB zs = (decide (dn ≤ dd) && (decide (zs.length = 1) || fitB zs)) := by unfold possB; rw [hdn, hdd]
  have HP := Lib.hid hp
  clear ht hdn hdd hp
  by_cases hd : dn ≤ dd
  · have hdi : (dn : Int) ≤ (dd : Int) := by omega
    by_cases h1 : zs.length = 1
    · have Hv := Lib.hid (show possB zs = true by rw [HP.out, decide_eq_true hd, decide_eq_true h1]; rfl)
      have hbe : (((zs.length : Nat) : Int) == 1) = true := by rw [h1]; rfl
      clear h1 hd hl
      go_enter Try.func52, Try.ntmps52
      go_wp2_with fail
      refine (l01Density_c _ zs _ (hI.later hB0) Ht.out).mono ?_
      rintro e w1 ⟨he, hb⟩
      rw [HD.out.1, HD.out.2] at he
      subst he
      have b1 : Boxed w1 w.heap.size 29 (.slice a zs.length cap) := boxed_later (Boxed.new _ _ _) hb
      have k1 := b1.cell
      have s1 := b1.lt
      have hB1 := hB0.trans (hb.mono (by simp))
      clear hb hB0
      go_wp2_with fail
      refine (l01K_c _ _ _ _).mono ?_
      rintro e w2 ⟨rfl, rfl⟩
      go_wp2
      go_ret
      exact ⟨by rw [Hv.out]; rfl, hB1.alloc hB1.size _⟩
    · have Hv := Lib.hid (show possB zs = fitB zs by rw [HP.out, decide_eq_true hd, decide_eq_false h1]; rfl)
      have hbe : (((zs.length : Nat) : Int) == 1) = false := by rw [beq_eq_false_iff_ne]; omega
      clear h1 hd hl
      go_enter Try.func52, Try.ntmps52
      go_wp2_with fail
      refine (l01Density_c _ zs _ (hI.later hB0) Ht.out).mono ?_
      rintro e w1 ⟨he, hb⟩
      rw [HD.out.1, HD.out.2] at he
      subst he
      have b1 : Boxed w1 w.heap.size 29 (.slice a zs.length cap) := boxed_later (Boxed.new _ _ _) hb
      have k1 := b1.cell
      have s1 := b1.lt
      have hB1 := hB0.trans (hb.mono (by simp))
      clear hb hB0
      go_wp2_with fail
      refine (l01K_c _ _ _ _).mono ?_
      rintro e w2 ⟨rfl, hw2⟩
      have hB2 : Below w.heap.size w w2 := by rw [hw2]; exact hB1.alloc hB1.size _
      have b2 : Boxed w2 w.heap.size 29 (.slice a zs.length cap) := by rw [hw2]; exact b1.alloc _
      have k2 := b2.cell
      clear hw2
      go_wp2_with fail
      refine (l05Fit_c _ zs _ (hI.later hB2) Ht.out).mono ?_
      rintro e w3 ⟨rfl, hb3⟩
      go_wp2
      go_ret
      exact ⟨by rw [Hv.out]; rfl, hB2.trans (hb3.mono hB2.size)⟩
  · have hdi : ((dd : Int) < (dn : Int)) := by omega
    have hdn : ¬ ((dn : Int) ≤ (dd : Int)) := by omega
    have Hv := Lib.hid (show possB zs = false by rw [HP.out, decide_eq_false hd]; rfl)
    clear hd hl
    go_enter Try.func52, Try.ntmps52
    go_wp2_with fail
    refine (l01Density_c _ zs _ (hI.later hB0) Ht.out).mono ?_
    rintro e w1 ⟨he, hb⟩
    rw [HD.out.1, HD.out.2] at he
    subst he
    have hB1 := hB0.trans (hb.mono (by simp))
    clear hb hB0
    go_wp2
    go_ret
    exact ⟨by rw [Hv.out]; rfl, hB1⟩

/-! ### FirstRests: code and list -/
def frC (zs : List Int) : Int := if tasksOk zs then (if 5 < zs.length then 3 else if (Rst.ext [] zs).head?.isSome then 0 else 4) else 1
def frR (zs : List Int) : List (Int × Int) := if frC zs = 0 then ((Rst.ext [] zs).head?).getD [] else []
theorem fr_one {zs : List Int} (h : tasksOk zs = false) : frC zs = 1 ∧ frR zs = [] := by
  have : frC zs = 1 := by unfold frC; rw [h]; rfl
  exact ⟨this, by unfold frR; rw [if_neg (by omega)]⟩
theorem fr_three {zs : List Int} (h : tasksOk zs = true) (h2 : 5 < zs.length) : frC zs = 3 ∧ frR zs = [] := by
  have : frC zs = 3 := by unfold frC; rw [h, if_pos rfl, if_pos h2]
  exact ⟨this, by unfold frR; rw [if_neg (by omega)]⟩
theorem fr_four {zs : List Int} (h : tasksOk zs = true) (h2 : ¬ 5 < zs.length) (h3 : (Rst.ext [] zs).head? = none) : frC zs = 4 ∧ frR zs = [] := by
  have : frC zs = 4 := by unfold frC; rw [h, if_pos rfl, if_neg h2, h3]; rfl
  exact ⟨this, by unfold frR; rw [if_neg (by omega)]⟩
theorem fr_none {zs : List Int} {q : List (Int × Int)} (h : tasksOk zs = true) (h2 : ¬ 5 < zs.length) (h3 : (Rst.ext [] zs).head? = some q) : frC zs = 0 ∧ frR zs = q := by
  have : frC zs = 0 := by unfold frC; rw [h, if_pos rfl, if_neg h2, h3]; rfl
  exact ⟨this, by unfold frR; rw [if_pos this, h3]; rfl⟩
theorem frR_len (zs : List Int) : (frR zs).length * 16 ≤ 140737488351232 := by
  unfold frR
  split
  · rename_i h
    have h5 : zs.length ≤ 5 := by
      unfold frC at h
      split at h
      · split at h
        · cases h
        · omega
      · cases h
    cases he : (Rst.ext [] zs).head? with
    | none => simp
    | some q =>
      have hm : q ∈ Rst.ext [] zs := List.mem_of_mem_head? (by rw [he]; rfl)
      obtain ⟨_, rs, e, hm2, _⟩ := Rst.ext_ap List.Pairwise.nil hm
      have hl : q.length = zs.length := by rw [e, ← hm2]; simp
      show q.length * 16 ≤ _
      omega
  · simp

set_option maxRecDepth 100000 in
set_option maxHeartbeats 8000000 in
theorem s_FirstRests (c0 : Value) (zs : List Int) (w : World) (hI : Ints w.heap.size w c0 zs) (_hN : I64s zs) (hm : zs.length ≤ 1048576) (_hcp : CapOk c0 zs.length) :
    Calls Try.prog 14 #[.agg #[c0]] w (GivesC w (frR zs) fun v => .tuple #[v, .int .i64 (frC zs)]) := by
  obtain ⟨a, cap, rfl⟩ := hI.shape
  have hB0 : Below w.heap.size w (w.alloc (.cells #[.slice a zs.length cap] 29)) := (Below.refl _ w).alloc (Nat.le_refl _) _
  cases ht : tasksOk zs
  · have H := Lib.hid (fr_one ht)
    have Ht := Lib.hid ht
    clear ht
    go_enter Try.func14, Try.ntmps14
    go_wp2_with fail
    refine (l01Is_c _ zs _ (hI.later hB0) (by omega)).mono ?_
    rintro e w1 ⟨he, hb⟩
    rw [Ht.out] at he
    subst he
    go_wp2
    go_ret2
    exact ⟨_, ret_vi2 H.out.1.symm, by rw [H.out.2]; exact ownC_nil _ _, hB0.trans (hb.mono (by simp))⟩
  have Ht := Lib.hid ht
  have hl8 := tasksOk_len ht
  have hzb : ∀ k, k < zs.length → 1 ≤ nth zs k ∧ nth zs k ≤ 40 := fun k hk => tasksOk_nth ht hk
  have Hzb := Lib.hid hzb
  clear ht hzb
  by_cases hbig : 5 < zs.length
  · have H := Lib.hid (fr_three Ht.out hbig)
    have hbi : (5 : Int) < (zs.length : Int) := by omega
    go_enter Try.func14, Try.ntmps14
    go_wp2_with fail
    refine (l01Is_c _ zs _ (hI.later hB0) (by omega)).mono ?_
    rintro e w1 ⟨he, hb⟩
    rw [Ht.out] at he
    subst he
    have b1 : Boxed w1 w.heap.size 29 (.slice a zs.length cap) := boxed_later (Boxed.new _ _ _) hb
    have k1 := b1.cell
    have s1 := b1.lt
    have hB1 := hB0.trans (hb.mono (by simp))
    clear hb hB0
    go_wp2_with fail
    refine (l01K_c _ _ _ _).mono ?_
    rintro e w2 ⟨rfl, rfl⟩
    go_wp2
    go_ret2
    exact ⟨_, ret_vi2 H.out.1.symm, by rw [H.out.2]; exact ownC_nil _ _, hB1.alloc hB1.size _⟩
  have hbi : ¬ (5 : Int) < (zs.length : Int) := by omega
  have hbi2 : (zs.length : Int) ≤ 5 := by omega
  cases hp : possB zs
  · have H := Lib.hid (fr_four Ht.out hbig (ext_none hp))
    have Hp := Lib.hid hp
    clear hp
    go_enter Try.func14, Try.ntmps14
    go_wp2_with fail
    refine (l01Is_c _ zs _ (hI.later hB0) (by omega)).mono ?_
    rintro e w1 ⟨he, hb⟩
    rw [Ht.out] at he
    subst he
    have b1 : Boxed w1 w.heap.size 29 (.slice a zs.length cap) := boxed_later (Boxed.new _ _ _) hb
    have k1 := b1.cell
    have s1 := b1.lt
    have hB1 := hB0.trans (hb.mono (by simp))
    clear hb hB0
    go_wp2_with fail
    refine (l01K_c _ _ _ _).mono ?_
    rintro e w2 ⟨rfl, hw2⟩
    have hB2 : Below w.heap.size w w2 := by rw [hw2]; exact hB1.alloc hB1.size _
    have b2 : Boxed w2 w.heap.size 29 (.slice a zs.length cap) := by rw [hw2]; exact b1.alloc _
    have k2 := b2.cell
    clear hw2 k1 b1
    go_wp2_with fail
    refine (l05Possible_c _ zs _ (hI.later hB2) Ht.out).mono ?_
    rintro e w3 ⟨he, hb3⟩
    rw [Hp.out] at he
    subst he
    go_wp2
    go_ret2
    exact ⟨_, ret_vi2 H.out.1.symm, by rw [H.out.2]; exact ownC_nil _ _, hB2.trans (hb3.mono hB2.size)⟩
  · have Hp := Lib.hid hp
    have Hbig := Lib.hid hbig
    clear hp
    go_enter Try.func14, Try.ntmps14
    go_wp2_with fail
    refine (l01Is_c _ zs _ (hI.later hB0) (by omega)).mono ?_
    rintro e w1 ⟨he, hb⟩
    rw [Ht.out] at he
    subst he
    have b1 : Boxed w1 w.heap.size 29 (.slice a zs.length cap) := boxed_later (Boxed.new _ _ _) hb
    have k1 := b1.cell
    have s1 := b1.lt
    have hB1 := hB0.trans (hb.mono (by simp))
    clear hb hB0
    go_wp2_with fail
    refine (l01K_c _ _ _ _).mono ?_
    rintro e w2 ⟨rfl, hw2⟩
    have hB2 : Below w.heap.size w w2 := by rw [hw2]; exact hB1.alloc hB1.size _
    have b2 : Boxed w2 w.heap.size 29 (.slice a zs.length cap) := by rw [hw2]; exact b1.alloc _
    have k2 := b2.cell
    clear hw2 k1 b1
    go_wp2_with fail
    refine (l05Possible_c _ zs _ (hI.later hB2) Ht.out).mono ?_
    rintro e w3 ⟨he, hb3⟩
    rw [Hp.out] at he
    subst he
    have b3 := boxed_later b2 hb3
    have k3 := b3.cell
    have hB3 := hB2.trans (hb3.mono hB2.size)
    clear k2 b2 hb3
    go_wp2_with fail
    have hb4 : Below w3.heap.size w3 (w3.alloc (.cells #[] 73)) := (Below.refl _ _).alloc (Nat.le_refl _) _
    have hB4 := hB3.trans (hb4.mono hB3.size)
    have ho4 : OwnC w.heap.size (w3.alloc (.cells #[] 73)) (.slice (some ⟨w3.heap.size, 0, none⟩) 0 0) 0 (flat []) := World.ownsRow_made w3 #[] 0 hB3.size (by unfold maxLen; omega) rfl
    refine (l05Rests_c zs hl8.2 Hzb.out zs.length w.heap.size (.slice a zs.length cap) _ [] _ ((hI.below hB4).mono hB4.size) hB4.size ho4 ⟨_, _, _, rfl⟩ (by simp) (fun j hj => absurd hj (by simp))).mono ?_
    rintro e w5 (⟨q, v, hq, rfl, ho5, hb5⟩ | ⟨hq, rfl, hb5⟩)
    · rw [List.length_nil, List.drop_zero] at hq
      have H := Lib.hid (fr_none Ht.out Hbig.out hq)
      clear hq ho4 hb4
      go_wp2
      go_ret2
      exact ⟨v, ret_vi2 H.out.1.symm, by rw [H.out.2]; exact ho5, hB4.trans (hb5.mono hB4.size)⟩
    · rw [List.length_nil, List.drop_zero] at hq
      have H := Lib.hid (fr_four Ht.out Hbig.out hq)
      clear hq ho4 hb4
      go_wp2
      go_ret2
      exact ⟨_, ret_vi2 H.out.1.symm, by rw [H.out.2]; exact ownC_nil _ _, hB4.trans (hb5.mono hB4.size)⟩

end Go.Proofs.Ytnhdfpmjebfjmaa
