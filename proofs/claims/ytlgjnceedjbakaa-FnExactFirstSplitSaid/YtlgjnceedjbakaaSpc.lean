/-
  FirstSplit of both.
  Conditions: at most 1048576 gaps.
-/
import Derived.Test.YtlgjnceedjbakaaSpb
import Derived.Test.YtlgjnceedjbakaaCod
namespace Go.Proofs.Ytlgjnceedjbakaa
open Go.RowKit Go.Shelf
attribute [local go_sem] Oper.semAt_some

noncomputable def fspO (zs : List Int) (m : Int) : Option (List Int) := spl zs m.toNat zs.length []
noncomputable def fspC (zs : List Int) (m : Int) : Int := if onC zs m = 0 then (if (fspO zs m).isSome then 0 else 4) else onC zs m
noncomputable def fspR (zs : List Int) (m : Int) : List Int := if onC zs m = 0 then (fspO zs m).getD [] else []
theorem fspR_len (zs : List Int) (m : Int) : (fspR zs m).length ≤ 8 := by
  unfold fspR
  split
  · rename_i h
    have h8 := (tasksOk_len (onC_ok h).1).2
    cases e : fspO zs m with
    | none => simp
    | some ys =>
      have := spl_len zs m.toNat zs.length [] ys e
      simp at this
      simp; omega
  · simp
theorem ret_v2f {v : Value} {a b : Int} (h : a = b) : Ending.returned (.tuple #[v, .int .i64 a]) = .returned (.tuple #[v, .int .i64 b]) := by rw [h]

set_option maxRecDepth 100000 in
set_option maxHeartbeats 4000000 in
theorem i_FirstSplit (c0 : Value) (zs : List Int) (m : Int) (w : World) (hI : Ints w.heap.size w c0 zs) (hN : I64s zs) (hm0 : zs.length ≤ 1048576) (_hm : I64 m) :
    Calls Try.prog 45 #[.agg #[c0], .int .i64 m] w (GivesI w (fspR zs m) fun v => .tuple #[v, .int .i64 (fspC zs m)]) := by
  obtain ⟨a, cap, rfl⟩ := hI.shape
  have hB0 : Below w.heap.size w (w.alloc (.cells #[.slice a zs.length cap] 42)) := (Below.refl _ w).alloc (Nat.le_refl _) _
  have bT0 : Boxed (w.alloc (.cells #[.slice a zs.length cap] 42)) w.heap.size 42 (.slice a zs.length cap) := Boxed.new _ _ _
  have hbd := onC_bd zs m
  go_enter Try.func45, Try.ntmps45
  go_wp2_with fail
  refine (checkTasksOn_c _ zs m _ (hI.later hB0) hN hm0).mono ?_
  rintro e w1 ⟨rfl, hb1⟩
  have bT1 := boxed_later bT0 hb1
  have hB1 := hB0.trans (hb1.mono hB0.size)
  by_cases hc : onC zs m = 0
  · obtain ⟨ht, hmb, _⟩ := onC_ok hc
    obtain ⟨M, rfl⟩ : ∃ M : Nat, m = M := ⟨m.toNat, by omega⟩
    rw [hc]
    have Hc := Lib.hid hc
    have HO := Lib.hid (show fspO zs (M : Int) = spl zs M zs.length [] by unfold fspO; rw [Int.toNat_natCast])
    have k1 := bT1.cell
    have hM4 : M ≤ 4 := by omega
    clear hc hbd
    go_wp2_with fail
    refine (extendSplit_c ht hM4 zs.length [] _ _ w1.heap.size w1 (by simp) (hI.later hB1) (ownI_nil _ _) (Nat.le_refl _)).mono ?_
    rintro e w2 hp
    cases hs : spl zs M zs.length [] with
    | some ys =>
      rw [hs] at hp
      obtain ⟨⟨v, rfl, ho⟩, hb2⟩ := hp
      have Hq := Lib.hid (show fspC zs (M : Int) = 0 by unfold fspC; rw [if_pos Hc.out, HO.out, hs]; rfl)
      have Hr := Lib.hid (show fspR zs (M : Int) = ys by unfold fspR; rw [if_pos Hc.out, HO.out, hs]; rfl)
      clear hs
      go_wp2
      go_ret2
      exact ⟨_, ret_v2f Hq.out.symm, by rw [Hr.out]; exact ho.base hB1.size, hB1.trans (hb2.mono hB1.size)⟩
    | none =>
      rw [hs] at hp
      obtain ⟨rfl, hb2⟩ := hp
      have Hq := Lib.hid (show fspC zs (M : Int) = 4 by unfold fspC; rw [if_pos Hc.out, HO.out, hs]; rfl)
      have Hr := Lib.hid (show fspR zs (M : Int) = [] by unfold fspR; rw [if_pos Hc.out, HO.out, hs]; rfl)
      clear hs
      go_wp2
      go_ret2
      exact ⟨_, ret_v2f Hq.out.symm, by rw [Hr.out]; exact ownI_nil _ _, hB1.trans (hb2.mono hB1.size)⟩
  · have Hq := Lib.hid (show fspC zs m = onC zs m from if_neg hc)
    have Hr := Lib.hid (show fspR zs m = [] from if_neg hc)
    have hq : (onC zs m != 0) = true := by simpa using hc
    clear hc
    go_wp2
    go_ret2
    exact ⟨_, ret_v2f Hq.out.symm, by rw [Hr.out]; exact ownI_nil _ _, hB1⟩

set_option maxRecDepth 100000 in
set_option maxHeartbeats 4000000 in
theorem s_FirstSplit (c0 : Value) (zs : List Int) (m : Int) (w : World) (hI : Ints w.heap.size w c0 zs) (_hN : I64s zs) (hm0 : zs.length ≤ 1048576) (_hm : I64 m) :
    Calls Try.prog 44 #[.agg #[c0], .int .i64 m] w (GivesI w (fspR zs m) fun v => .tuple #[v, .int .i64 (fspC zs m)]) := by
  obtain ⟨a, cap, rfl⟩ := hI.shape
  have hB0 : Below w.heap.size w (w.alloc (.cells #[.slice a zs.length cap] 42)) := (Below.refl _ w).alloc (Nat.le_refl _) _
  have bT0 : Boxed (w.alloc (.cells #[.slice a zs.length cap] 42)) w.heap.size 42 (.slice a zs.length cap) := Boxed.new _ _ _
  have hbd := onC_bd zs m
  go_enter Try.func44, Try.ntmps44
  go_wp2_with fail
  refine (l08Code_c _ zs m _ (hI.later hB0) hm0).mono ?_
  rintro e w1 ⟨rfl, hb1⟩
  have bT1 := boxed_later bT0 hb1
  have hB1 := hB0.trans (hb1.mono hB0.size)
  by_cases hc : onC zs m = 0
  · obtain ⟨ht, hmb, h4⟩ := onC_ok hc
    obtain ⟨M, rfl⟩ : ∃ M : Nat, m = M := ⟨m.toNat, by omega⟩
    rw [hc]
    have Hc := Lib.hid hc
    have HO := Lib.hid (show fspO zs (M : Int) = spl zs M zs.length [] by unfold fspO; rw [Int.toNat_natCast])
    have k1 := bT1.cell
    have hM4 : M ≤ 4 := by omega
    have hBa : Below w.heap.size w (w1.alloc (.cells #[] 2)) := hB1.alloc hB1.size _
    have hoe : OwnI w1.heap.size (w1.alloc (.cells #[] 2)) (.slice (some ⟨w1.heap.size, 0, none⟩) 0 0) [] := ownI_empty w1
    clear hc hbd
    go_wp2_with fail
    refine (l08Split_c ht h4 hM4 zs.length [] _ _ w1.heap.size _ (by simp) (hI.later hBa) hoe (by simp)).mono ?_
    rintro e w2 hp
    cases hs : spl zs M zs.length [] with
    | some ys =>
      rw [hs] at hp
      obtain ⟨⟨v, rfl, ho⟩, hb2⟩ := hp
      have Hq := Lib.hid (show fspC zs (M : Int) = 0 by unfold fspC; rw [if_pos Hc.out, HO.out, hs]; rfl)
      have Hr := Lib.hid (show fspR zs (M : Int) = ys by unfold fspR; rw [if_pos Hc.out, HO.out, hs]; rfl)
      clear hs
      go_wp2
      go_ret2
      exact ⟨_, ret_v2f Hq.out.symm, by rw [Hr.out]; exact ho.base hB1.size, hBa.trans (hb2.mono hBa.size)⟩
    | none =>
      rw [hs] at hp
      obtain ⟨rfl, hb2⟩ := hp
      have Hq := Lib.hid (show fspC zs (M : Int) = 4 by unfold fspC; rw [if_pos Hc.out, HO.out, hs]; rfl)
      have Hr := Lib.hid (show fspR zs (M : Int) = [] by unfold fspR; rw [if_pos Hc.out, HO.out, hs]; rfl)
      clear hs
      go_wp2
      go_ret2
      exact ⟨_, ret_v2f Hq.out.symm, by rw [Hr.out]; exact ownI_nil _ _, hBa.trans (hb2.mono hBa.size)⟩
  · have Hq := Lib.hid (show fspC zs m = onC zs m from if_neg hc)
    have Hr := Lib.hid (show fspR zs m = [] from if_neg hc)
    have hq : (onC zs m != 0) = true := by simpa using hc
    clear hc
    go_wp2
    go_ret2
    exact ⟨_, ret_v2f Hq.out.symm, by rw [Hr.out]; exact ownI_nil _ _, hB1⟩

end Go.Proofs.Ytlgjnceedjbakaa
