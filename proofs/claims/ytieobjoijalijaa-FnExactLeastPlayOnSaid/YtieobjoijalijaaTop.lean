/-
  IsLasting and CanServe of the program.
  Conditions: lists of at most 1048576 elements.
-/
import Derived.Test.YtieobjoijalijaaLastC
namespace Go.Proofs.Ytieobjoijalijaa
open Go.RowKit Go.Shelf Go.Maps
attribute [local go_sem] Oper.semAt_some

theorem allSt_length {gs : List Int} : (allSt gs).length = cntN gs := by
  induction gs with
  | nil => rfl
  | cons g gs ih =>
    simp only [allSt, cntN, List.length_flatMap, List.length_map, ih]
    rw [List.map_const', List.sum_replicate_nat]
    simp
theorem unk_bd {gs : List Int} (ht : tasksOk gs = true) (K : Known) : 2 * unk gs K ≤ 1000000000000000 := by
  have h1 : unk gs K ≤ cntN gs := by unfold unk; rw [← allSt_length]; exact List.countP_le_length
  have h2 := cntL_cntN (pos_of ht)
  have h3 := (cntP_top ht (Nat.le_refl gs.length)).2
  unfold cntL at h2
  omega
theorem kgood_none (gs : List Int) : KGood gs (fun _ => none) := ⟨⟨fun x h => absurd rfl h, fun x h => by cases h⟩, fun x h => by cases h⟩
/-- few states -/
def fewC (zs : List Int) : Int := if tasksOk zs then (if 4000 < cntL zs then 3 else 0) else 1
def givenC (zs st : List Int) : Int := if stCode zs st = 0 then fewC zs else stCode zs st
theorem fewC_ok {zs : List Int} (h : fewC zs = 0) : tasksOk zs = true ∧ cntL zs ≤ 4000 := by
  unfold fewC at h
  cases ht : tasksOk zs
  · rw [ht] at h; simp at h
  · rw [ht] at h
    by_cases h4 : 4000 < cntL zs
    · rw [if_pos rfl, if_pos h4] at h; simp at h
    · exact ⟨rfl, by omega⟩
theorem fewC_bd (zs : List Int) : 0 ≤ fewC zs ∧ fewC zs ≤ 3 := by unfold fewC; split <;> (try split) <;> omega
theorem givenC_ok {zs st : List Int} (h : givenC zs st = 0) : stCode zs st = 0 ∧ fewC zs = 0 := by
  unfold givenC at h
  by_cases h0 : stCode zs st = 0
  · rw [if_pos h0] at h; exact ⟨h0, h⟩
  · rw [if_neg h0] at h; exact absurd h h0

set_option maxRecDepth 100000 in
set_option maxHeartbeats 8000000 in
theorem checkStatesOf_c (c0 : Value) (zs : List Int) (w : World) (hI : Ints w.heap.size w c0 zs) (hN : I64s zs) (hm : zs.length ≤ 1048576) :
    Calls Try.prog 133 #[.agg #[c0]] w fun e w' => e = .returned (.int .i64 (fewC zs)) ∧ Below w.heap.size w w' := by
  obtain ⟨a, cap, rfl⟩ := hI.shape
  have hB0 : Below w.heap.size w (w.alloc (.cells #[.slice a zs.length cap] 28)) := (Below.refl _ w).alloc (Nat.le_refl _) _
  cases ht : tasksOk zs
  · have Hr := Lib.hid (show countR zs = 0 by unfold countR; rw [ht]; rfl)
    have Hc := Lib.hid (show countC zs = 1 by unfold countC; rw [ht]; rfl)
    have Hf := Lib.hid (show fewC zs = 1 by unfold fewC; rw [ht]; rfl)
    clear ht
    go_enter Try.func133, Try.ntmps133
    go_wp2_with fail
    refine (i_CountStates _ zs _ (hI.later hB0) hN hm).mono ?_
    rintro e w1 ⟨he, hb⟩
    rw [Hc.out, Hr.out] at he
    subst he
    go_wp2
    go_ret
    exact ⟨ret_int Hf.out.symm, hB0.trans (hb.mono (by simp))⟩
  · have Hr := Lib.hid (show countR zs = cntL zs by unfold countR; rw [ht]; rfl)
    have Hc := Lib.hid (show countC zs = 0 by unfold countC; rw [ht]; rfl)
    by_cases h4 : 4000 < cntL zs
    · have Hf := Lib.hid (show fewC zs = 3 by unfold fewC; rw [ht, if_pos rfl, if_pos h4])
      clear ht
      go_enter Try.func133, Try.ntmps133
      go_wp2_with fail
      refine (i_CountStates _ zs _ (hI.later hB0) hN hm).mono ?_
      rintro e w1 ⟨he, hb⟩
      rw [Hc.out, Hr.out] at he
      subst he
      go_wp2
      go_ret
      exact ⟨ret_int Hf.out.symm, hB0.trans (hb.mono (by simp))⟩
    · have Hf := Lib.hid (show fewC zs = 0 by unfold fewC; rw [ht, if_pos rfl, if_neg h4])
      clear ht
      go_enter Try.func133, Try.ntmps133
      go_wp2_with fail
      refine (i_CountStates _ zs _ (hI.later hB0) hN hm).mono ?_
      rintro e w1 ⟨he, hb⟩
      rw [Hc.out, Hr.out] at he
      subst he
      go_wp2
      go_ret
      exact ⟨ret_int Hf.out.symm, hB0.trans (hb.mono (by simp))⟩

/-- an outlook that knows all that it knows rightly -/
def Good (W : World) (gs : List Int) (bO m : Nat) : Prop := Outl W bO gs m ∧ ∃ B K, B ≤ 1000000000000000 ∧ KMap W gs m B K ∧ KGood gs K
theorem Good.below {n : Nat} {W W' : World} {gs : List Int} {bO m : Nat} (h : Good W gs bO m) (hb : Below n W W') (h1 : bO < n) (h2 : m < n) : Good W' gs bO m := by
  obtain ⟨hO, B, K, hB, hM, hK⟩ := h
  exact ⟨hO.below hb h1, B, K, hB, hM.below hb h2, hK⟩
theorem Good.later {W W' : World} {gs : List Int} {bO m : Nat} (h : Good W gs bO m) (hb : Below W.heap.size W W') : Good W' gs bO m := by
  obtain ⟨hO, B, K, hB, hM, hK⟩ := h
  exact ⟨hO.later hb, B, K, hB, hM.below hb hM.lt, hK⟩
theorem Good.new {W : World} {gs : List Int} (ht : tasksOk gs = true) {bO m : Nat} (hO : Outl W bO gs m) (h : W.heap[m]? = some (.map #[] 0)) : Good W gs bO m :=
  ⟨hO, _, _, unk_bd ht _, KMap.new h, kgood_none gs⟩
open Classical in
/-- the search, at a right outlook -/
theorem lasts_good {gs : List Int} (ht : tasksOk gs = true) {bO m : Nat} {w : World} (h : Good w gs bO m) {st : List Int} (hs : IsSt gs st) :
    Calls Try.prog 160 #[.pointer (some ⟨bO, 0, none⟩), arrV st] w fun e w' => e = .returned (.bool (decide (Lasting gs st))) ∧ Good w' gs bO m ∧ w.grownBy w' (some m) := by
  obtain ⟨hO, B, K, hB, hM, hK⟩ := h
  refine (lasts_c gs ht bO m (unk gs K) K B st w (Nat.le_refl _) hB hO hM hK.toKOk hs).mono ?_
  rintro e w' ⟨r, K', rfl, hM', hd, hg⟩
  obtain ⟨hK', hr⟩ := hK.done hd
  refine ⟨?_, ⟨hO.grown hM hg, B, K', hB, hM', hK'⟩, hg⟩
  congr 1
  cases r
  · rw [decide_eq_false (fun h => by simpa using hr.2 h)]
  · rw [decide_eq_true (hr.1 rfl)]

end Go.Proofs.Ytieobjoijalijaa
