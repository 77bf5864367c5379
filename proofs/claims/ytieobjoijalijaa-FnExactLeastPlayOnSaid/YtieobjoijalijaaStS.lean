/-
  States of the model: what is a state, steps, numbers of states; StepState of the model.
  Conditions: lists of at most 1048576 elements; where a step or a number is asked, a state of tasks.
-/
import Derived.Test.YtieobjoijalijaaCount
namespace Go.Proofs.Ytieobjoijalijaa
open Go.RowKit Go.Shelf
attribute [local go_sem] Oper.semAt_some

def stOk (zs st : List Int) : Bool := decide (st.length = zs.length) && (List.range zs.length).all fun i => inB (nth st i) 1 (nth zs i)
theorem stOk_iff {zs st : List Int} : stOk zs st = true ↔ IsSt zs st := by
  unfold stOk IsSt
  simp only [Bool.and_eq_true, decide_eq_true_eq, List.all_eq_true, List.mem_range, inB_true]
theorem stOk_no {zs st : List Int} {k : Nat} (hk : k < zs.length) (h : inB (nth st k) 1 (nth zs k) = false) : stOk zs st = false := by
  cases hs : stOk zs st
  · rfl
  · have := (stOk_iff.1 hs).2 k hk
    rw [inB_false] at h; omega
theorem stOk_yes {zs st : List Int} (hl : st.length = zs.length) (h : ∀ k, k < zs.length → inB (nth st k) 1 (nth zs k) = true) : stOk zs st = true :=
  stOk_iff.2 ⟨hl, fun k hk => inB_true.1 (h k hk)⟩
/-- the code of tasks and a state -/
def stCode (zs st : List Int) : Int := if tasksOk zs then if stOk zs st then 0 else 2 else 1

theorem l01In_q (d : Bool) (z a b : Int) (w : World) (hd : inB z a b = d) :
    Calls Try.prog 88 #[.int .i64 z, .int .i64 a, .int .i64 b] w fun e w' => e = .returned (.bool d) ∧ w' = w :=
  (l01In_d d z a b w hd).mono fun _ _ h => ⟨h.1, h.2.symm⟩

/-! ### steps -/
theorem stepL_take {gs st : List Int} {c : Int} {k : Nat} (h : k < st.length) : (stepL gs st c).take (k + 1) = (stepL gs st c).take k ++ [if (k : Int) = c then nth gs k else nth st k - 1] := by
  rw [take_snoc (by rwa [stepL_length]), nth_stepL h]
theorem stepL_all (gs st : List Int) (c : Int) : (stepL gs st c).take st.length = stepL gs st c := by
  rw [← stepL_length gs st c, List.take_length]
instance (st : List Int) (c : Int) : Decidable (Opn st c) := inferInstanceAs (Decidable (∀ i : Nat, i < st.length → (i : Int) ≠ c → nth st i ≠ 1))
theorem ownI_empty2 {B : Nat} (w : World) (h : B ≤ w.heap.size) : OwnI B (w.alloc (.cells #[] 2)) (.slice (some ⟨w.heap.size, 0, none⟩) 0 0) [] := World.ownsRow_made w #[] 0 h (by unfold maxLen; omega) rfl
/-- what the step function of the model hands back -/
def StepPost (w : World) (zs st : List Int) (c : Int) (e : Ending) (w' : World) : Prop :=
  (Opn st c ∧ ∃ v, e = .returned (.tuple #[v, .bool true]) ∧ OwnI w.heap.size w' v (stepL zs st c) ∧ Below w.heap.size w w') ∨
  (¬ Opn st c ∧ e = .returned (.tuple #[.slice none 0 0, .bool false]) ∧ Below w.heap.size w w')

set_option maxRecDepth 100000 in
set_option maxHeartbeats 8000000 in
theorem l02Step_c (c0 : Value) (zs : List Int) (c1 : Value) (st : List Int) (c : Int) (w : World) (hI : Ints w.heap.size w c0 zs) (ht : tasksOk zs = true) (hT : Ints w.heap.size w c1 st) (hs : IsSt zs st) :
    Calls Try.prog 132 #[.agg #[c0], c1, .int .i64 c] w (StepPost w zs st c) := by
  obtain ⟨i0, hi, hz0, hz1, hz2⟩ := info_parts Try.infoI2
  obtain ⟨a, cap, rfl⟩ := hI.shape
  obtain ⟨a2, cap2, rfl⟩ := hT.shape
  have hB0 : Below w.heap.size w (w.alloc (.cells #[.slice a zs.length cap] 28)) := (Below.refl _ w).alloc (Nat.le_refl _) _
  have hl8 := tasksOk_len ht
  have hls1 : st.length ≤ zs.length := by have := hs.1; omega
  have hls2 : zs.length ≤ st.length := by have := hs.1; omega
  have hbd : ∀ i, i < zs.length → 1 ≤ nth st i ∧ nth st i ≤ 40 := fun i hi => by have h1 := hs.2 i hi; have h2 := tasksOk_nth ht hi; omega
  have Hbd := Lib.hid hbd
  clear hbd
  go_enter Try.func132, Try.ntmps132
  go_wp2
  have b0 : Boxed ((w.alloc (.cells #[.slice a zs.length cap] 28)).alloc (.cells #[] 2)) w.heap.size 28 (.slice a zs.length cap) := (Boxed.new _ _ _).alloc _
  have ho0 : OwnI (w.heap.size + 1) ((w.alloc (.cells #[.slice a zs.length cap] 28)).alloc (.cells #[] 2)) (.slice (some ⟨(w.alloc (.cells #[.slice a zs.length cap] 28)).heap.size, 0, none⟩) 0 0) [] := ownI_empty2 _ (by simp)
  go_loopw [8, 9] (fun v i wr => ∃ k : Nat, k ≤ st.length ∧ i = .int .i64 k ∧ OwnI (w.heap.size + 1) wr v ((stepL zs st c).take k) ∧ Boxed wr w.heap.size 28 (.slice a zs.length cap) ∧ Below w.heap.size w wr ∧ ∀ j : Nat, j < k → (j : Int) ≠ c → nth st j ≠ 1) (fun _ i _ => st.length - (intOf i).toNat)
  case atStart => exact ⟨0, Nat.zero_le _, rfl, by simpa using ho0, b0, hB0.alloc (by simp) _, by simp⟩
  case round =>
    obtain ⟨k, hk, rfl, ho, hb0, hB, hno⟩ := hrel
    have hlen : ((stepL zs st c).take k).length ≤ 8 := by rw [List.length_take, stepL_length]; omega
    obtain ⟨xs, hxs⟩ : ∃ xs, (stepL zs st c).take k = xs := ⟨_, rfl⟩
    rw [hxs] at ho hlen
    have Hx := Lib.hid hxs
    clear hxs
    have hsw := hB.size
    have hbs := hb0.lt
    have kb := hb0.cell
    by_cases hlt : k < st.length
    · obtain ⟨b, off, rfl, hb, hc⟩ := (hI.below hB).at_ (k := k) (by omega)
      obtain ⟨b2, off2, rfl, hb2, hc2⟩ := (hT.below hB).at_ hlt
      have hcx := hc k (by omega)
      have hcy := hc2 k hlt
      have h1 := Hbd.out k (by omega)
      have ht := stepL_take (gs := zs) (st := st) (c := c) hlt
      rw [Hx.out] at ht
      have hpre : ∀ (h : (k : Int) = c ∨ nth st k ≠ 1), ∀ j : Nat, j < k + 1 → (j : Int) ≠ c → nth st j ≠ 1 := fun h j hj hjc => by
        by_cases e : j = k
        · subst e; exact h.resolve_left hjc
        · exact hno j (by omega) hjc
      have Hp := Lib.hid hpre
      clear hpre hc hc2
      by_cases he : (k : Int) = c
      · subst he
        rw [if_pos rfl] at ht
        have Ht := Lib.hid ht
        clear ht
        go_wp2_with (at_builtin; refine wpList_append_own _ rfl _ _ 22 rfl (w.heap.size+1) 2 i0 (.int .i64 0) 1 8 Try.underlying22 hi hz0 hz1 hz2 rfl (by decide) _ _ _ rfl (World.ownsRow.alloc ho _) ⟨wr.heap.size, 0, none⟩ 1 1 [.int .i64 (nth zs k)] rfl rfl (Go.cell_one_new _ _ _) (by simp [Value.oneCell']) (by unfold maxLen; omega) (by omega) (by simp; omega) ?_)
        intro v' w1 hown' hgrow _
        have ho2 := ownI_snoc hown'
        have hB2 : Below w.heap.size w w1 := (hB.alloc hsw _).grown hgrow (by simp; omega) (fun j e => by have := (ho.blk j e).1; omega)
        have hgr : wr.grownBy w1 _ := (World.grownBy_alloc _ _ _).trans hgrow
        clear hown' hgrow
        have hb1 := hb0.kept hgr (fun e => by have := (ho.blk _ e.symm).1; omega)
        clear hgr
        go_wp2
        go_roundw
        case rel => exact ⟨k + 1, by omega, by simp, by rw [Ht.out]; exact ho2, hb1, hB2, Hp.out (.inl (by first | rfl | trivial))⟩
        case measure => simp [intOf]; omega
      · have hq : ((k : Int) == c) = false := by simpa using he
        rw [if_neg he] at ht
        have Ht := Lib.hid ht
        clear ht
        by_cases h1' : nth st k = 1
        · have hno : ¬ Opn st c := fun ho => ho k hlt he h1'
          have hq1 : (nth st k == 1) = true := by simpa using h1'
          clear he
          go_wp2
          go_ret2
          exact .inr ⟨hno, rfl, hB⟩
        · have hq1 : (nth st k == 1) = false := by simpa using h1'
          have Hne := Lib.hid h1'
          clear he h1'
          go_wp2_with (at_builtin; refine wpList_append_own _ rfl _ _ 22 rfl (w.heap.size+1) 2 i0 (.int .i64 0) 1 8 Try.underlying22 hi hz0 hz1 hz2 rfl (by decide) _ _ _ rfl (World.ownsRow.alloc ho _) ⟨wr.heap.size, 0, none⟩ 1 1 [.int .i64 (nth st k - 1)] rfl rfl (Go.cell_one_new _ _ _) (by simp [Value.oneCell']) (by unfold maxLen; omega) (by omega) (by simp; omega) ?_)
          intro v' w1 hown' hgrow _
          have ho2 := ownI_snoc hown'
          have hB2 : Below w.heap.size w w1 := (hB.alloc hsw _).grown hgrow (by simp; omega) (fun j e => by have := (ho.blk j e).1; omega)
          have hgr : wr.grownBy w1 _ := (World.grownBy_alloc _ _ _).trans hgrow
          clear hown' hgrow
          have hb1 := hb0.kept hgr (fun e => by have := (ho.blk _ e.symm).1; omega)
          clear hgr
          go_wp2
          go_roundw
          case rel => exact ⟨k + 1, by omega, by simp, by rw [Ht.out]; exact ho2, hb1, hB2, Hp.out (.inr Hne.out)⟩
          case measure => simp [intOf]; omega
    · obtain rfl : k = st.length := by omega
      have hx := Hx.out
      rw [stepL_all] at hx
      have hop : Opn st c := fun j hj hjc => hno j hj hjc
      clear hno
      go_wp2
      go_ret2
      exact .inl ⟨hop, _, rfl, by rw [hx]; exact ho.base (by omega), hB⟩

/-! ### StepState -/
def stepC (zs st : List Int) (c : Int) : Int := if stCode zs st = 0 then (if inB c (-1) (zs.length - 1) then (if Opn st c then 0 else 4) else 2) else stCode zs st
def stepR (zs st : List Int) (c : Int) : List Int := if stepC zs st c = 0 then stepL zs st c else []
theorem stCode_zero {zs st : List Int} (h : stCode zs st = 0) : tasksOk zs = true ∧ IsSt zs st := by
  unfold stCode at h
  cases h1 : tasksOk zs
  · rw [h1] at h; simp at h
  · cases h2 : stOk zs st
    · rw [h1, h2] at h; simp at h
    · exact ⟨rfl, stOk_iff.1 h2⟩
theorem stCode_bd (zs st : List Int) : 0 ≤ stCode zs st ∧ stCode zs st ≤ 2 := by unfold stCode; split <;> (try split) <;> omega
theorem stepR_len (zs st : List Int) (c : Int) : (stepR zs st c).length * 8 ≤ 140737488351232 := by
  unfold stepR
  split
  · rename_i h
    have h0 : stCode zs st = 0 := by
      by_cases h0 : stCode zs st = 0
      · exact h0
      · unfold stepC at h; rw [if_neg h0] at h; exact h
    obtain ⟨h1, h2⟩ := stCode_zero h0
    have := tasksOk_len h1
    rw [stepL_length, h2.1]; omega
  · simp

end Go.Proofs.Ytieobjoijalijaa
