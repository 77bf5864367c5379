/-
  The model's steps by sets, and its first open set that leads to a state that is left.
  Conditions: at most 8 tasks.
-/
import Derived.Test.YtieobjoijalijaaPly
import Derived.Test.YtieobjoijalijaaTopS
namespace Go.Proofs.Ytieobjoijalijaa
open Go.RowKit Go.Shelf
attribute [local go_sem] Oper.semAt_some

theorem stepS_take {gs st : List Int} {s k : Nat} (h : k < st.length) : (stepS gs st s).take (k + 1) = (stepS gs st s).take k ++ [if s.testBit k then nth gs k else nth st k - 1] := by
  rw [take_snoc (by rwa [stepS_length]), nth_stepS h]
theorem stepS_all (gs st : List Int) (s : Nat) : (stepS gs st s).take st.length = stepS gs st s := by
  rw [← stepS_length gs st s, List.take_length]
/-- what the model's step hands back -/
def StepPostS (w : World) (zs st : List Int) (s : Nat) (e : Ending) (w' : World) : Prop :=
  (OpnS st s ∧ ∃ v, e = .returned (.tuple #[v, .bool true]) ∧ OwnI w.heap.size w' v (stepS zs st s) ∧ Below w.heap.size w w') ∨
  (¬ OpnS st s ∧ e = .returned (.tuple #[.slice none 0 0, .bool false]) ∧ Below w.heap.size w w')

set_option maxRecDepth 100000 in
set_option maxHeartbeats 8000000 in
theorem l08Step_c (c0 : Value) (zs : List Int) (c1 : Value) (st : List Int) (s : Nat) (w : World) (hI : Ints w.heap.size w c0 zs) (ht : tasksOk zs = true) (hT : Ints w.heap.size w c1 st) (hs : IsSt zs st) (hs8 : s < 256) :
    Calls Try.prog 144 #[.agg #[c0], c1, .int .i64 (s : Int)] w (StepPostS w zs st s) := by
  obtain ⟨i0, hi, hz0, hz1, hz2⟩ := info_parts Try.infoI2
  obtain ⟨a, cap, rfl⟩ := hI.shape
  obtain ⟨a2, cap2, rfl⟩ := hT.shape
  have hB0 : Below w.heap.size w (w.alloc (.cells #[.slice a zs.length cap] 28)) := (Below.refl _ w).alloc (Nat.le_refl _) _
  have hl8 := tasksOk_len ht
  have hls1 : st.length ≤ zs.length := by have := hs.1; omega
  have hls2 : zs.length ≤ st.length := by have := hs.1; omega
  have hbd : ∀ i, i < zs.length → 1 ≤ nth st i ∧ nth st i ≤ 40 := fun i hi => by have h1 := hs.2 i hi; have h2 := tasksOk_nth ht hi; omega
  have Hbd := Lib.hid hbd
  clear hbd
  go_enter Try.func144, Try.ntmps144
  go_wp2
  have b0 : Boxed ((w.alloc (.cells #[.slice a zs.length cap] 28)).alloc (.cells #[] 2)) w.heap.size 28 (.slice a zs.length cap) := (Boxed.new _ _ _).alloc _
  have ho0 : OwnI (w.heap.size + 1) ((w.alloc (.cells #[.slice a zs.length cap] 28)).alloc (.cells #[] 2)) (.slice (some ⟨(w.alloc (.cells #[.slice a zs.length cap] 28)).heap.size, 0, none⟩) 0 0) [] := ownI_empty2 _ (by simp)
  go_loopw [8, 9] (fun v i wr => ∃ k : Nat, k ≤ st.length ∧ i = .int .i64 k ∧ OwnI (w.heap.size + 1) wr v ((stepS zs st s).take k) ∧ Boxed wr w.heap.size 28 (.slice a zs.length cap) ∧ Below w.heap.size w wr ∧ ∀ j : Nat, j < k → s.testBit j = false → nth st j ≠ 1) (fun _ i _ => st.length - (intOf i).toNat)
  case atStart => exact ⟨0, Nat.zero_le _, rfl, by simpa using ho0, b0, hB0.alloc (by simp) _, by simp⟩
  case round =>
    obtain ⟨k, hk, rfl, ho, hb0, hB, hno⟩ := hrel
    have hlen : ((stepS zs st s).take k).length ≤ 8 := by rw [List.length_take, stepS_length]; omega
    obtain ⟨xs, hxs⟩ : ∃ xs, (stepS zs st s).take k = xs := ⟨_, rfl⟩
    rw [hxs] at ho hlen
    have Hx := Lib.hid hxs
    clear hxs
    have hsw := hB.size
    have hbs := hb0.lt
    have kb := hb0.cell
    by_cases hlt : k < st.length
    · obtain ⟨b, off, rfl, hb, hc⟩ := (hI.below hB).at_ (k := k) (by omega)
      obtain ⟨b2, off2, rfl, hb2, hc2⟩ := (hT.below hB).at_ hlt
      have hcx := hc k (by omega)
      have hcy := hc2 k hlt
      have h1 := Hbd.out k (by omega)
      have hk8 : k < 8 := by omega
      have hki : (k : Int) < 8 := by omega
      have hbit := has_all k hk8 s hs8
      have ht := stepS_take (gs := zs) (st := st) (s := s) hlt
      rw [Hx.out] at ht
      have hpre : ∀ (h : s.testBit k = true ∨ nth st k ≠ 1), ∀ j : Nat, j < k + 1 → s.testBit j = false → nth st j ≠ 1 := fun h j hj hjc => by
        by_cases e : j = k
        · subst e; exact h.resolve_left (by rw [hjc]; simp)
        · exact hno j (by omega) hjc
      have Hp := Lib.hid hpre
      clear hpre hc hc2
      cases he : s.testBit k
      · rw [he] at hbit
        rw [he, if_neg (by simp)] at ht
        have Ht := Lib.hid ht
        have He := Lib.hid he
        clear ht
        by_cases h1' : nth st k = 1
        · have hno2 : ¬ OpnS st s := fun ho => ho k hlt he h1'
          have hq1 : (nth st k == 1) = true := by simpa using h1'
          clear he
          go_wp2
          go_ret2
          exact .inr ⟨hno2, rfl, hB⟩
        · have hq1 : (nth st k == 1) = false := by simpa using h1'
          have Hne := Lib.hid h1'
          clear he h1'
          go_wp2_with (at_builtin; refine wpList_append_own _ rfl _ _ 22 rfl (w.heap.size+1) 2 i0 (.int .i64 0) 1 8 Try.underlying22 hi hz0 hz1 hz2 rfl (by decide) _ _ _ rfl (World.ownsRow.alloc ho _) ⟨wr.heap.size, 0, none⟩ 1 1 [.int .i64 (nth st k - 1)] rfl rfl (Go.cell_one_new _ _ _) (by simp [Value.oneCell']) (by unfold maxLen; omega) (by omega) (by simp; omega) ?_)
          intro v' w1 hown' hgrow _
          have ho2 := ownI_snoc hown'
          have hB2 : Below w.heap.size w w1 := (hB.alloc hsw _).grown hgrow (by simp; omega) (fun j e => by have := (ho.blk j e).1; omega)
          have hgr : wr.grownBy w1 _ := (World.grownBy_alloc _ _ _).trans hgrow
          clear hown' hgrow
          have hb1 := hb0.kept hgr (fun e => by have := (ho.blk _ e.symm).1; omega)
          clear hgr
          go_wp2
          go_roundw
          case rel => exact ⟨k + 1, by omega, by simp, by rw [Ht.out]; exact ho2, hb1, hB2, Hp.out (.inr Hne.out)⟩
          case measure => simp [intOf]; omega
      · rw [he] at hbit
        rw [he, if_pos rfl] at ht
        have Ht := Lib.hid ht
        have He := Lib.hid he
        clear ht he
        go_wp2_with (at_builtin; refine wpList_append_own _ rfl _ _ 22 rfl (w.heap.size+1) 2 i0 (.int .i64 0) 1 8 Try.underlying22 hi hz0 hz1 hz2 rfl (by decide) _ _ _ rfl (World.ownsRow.alloc ho _) ⟨wr.heap.size, 0, none⟩ 1 1 [.int .i64 (nth zs k)] rfl rfl (Go.cell_one_new _ _ _) (by simp [Value.oneCell']) (by unfold maxLen; omega) (by omega) (by simp; omega) ?_)
        intro v' w1 hown' hgrow _
        have ho2 := ownI_snoc hown'
        have hB2 : Below w.heap.size w w1 := (hB.alloc hsw _).grown hgrow (by simp; omega) (fun j e => by have := (ho.blk j e).1; omega)
        have hgr : wr.grownBy w1 _ := (World.grownBy_alloc _ _ _).trans hgrow
        clear hown' hgrow
        have hb1 := hb0.kept hgr (fun e => by have := (ho.blk _ e.symm).1; omega)
        clear hgr
        go_wp2
        go_roundw
        case rel => exact ⟨k + 1, by omega, by simp, by rw [Ht.out]; exact ho2, hb1, hB2, Hp.out (.inl He.out)⟩
        case measure => simp [intOf]; omega
    · obtain rfl : k = st.length := by omega
      have hop : OpnS st s := fun i hi hb => hno i hi hb
      have Hall := Lib.hid (show xs = stepS zs st s by rw [← Hx.out]; exact stepS_all _ _ _)
      clear hno
      go_wp2
      go_ret2
      exact .inl ⟨hop, _, rfl, by rw [← Hall.out]; exact ho.base (by omega), hB⟩

end Go.Proofs.Ytieobjoijalijaa
