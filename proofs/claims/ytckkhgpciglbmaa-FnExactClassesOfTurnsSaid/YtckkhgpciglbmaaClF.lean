/-
  The tasks of classes, spans: both; AreExact of both.
  Conditions: lists of at most 1048576 elements.
-/
import Derived.Test.YtckkhgpciglbmaaClE
import Derived.Test.YtckkhgpciglbmaaLog
namespace Go.Proofs.Ytckkhgpciglbmaa
open Go.RowKit Go.Shelf
attribute [local go_sem] Oper.semAt_some

/-! ### the gaps -/
def gapsL (cs : List (Int × Int)) : List Int := cs.map (·.2)
theorem gapsL_length (cs : List (Int × Int)) : (gapsL cs).length = cs.length := by simp [gapsL]
theorem nth_gapsL (cs : List (Int × Int)) (k : Nat) : nth (gapsL cs) k = gp cs k := by
  unfold nth gp gapsL
  rw [List.getElem?_map]
  cases cs[k]? <;> rfl
theorem gapsL_take {cs : List (Int × Int)} {k : Nat} (h : k < cs.length) : (gapsL cs).take (k + 1) = (gapsL cs).take k ++ [gp cs k] := by
  rw [take_snoc (by rw [gapsL_length]; exact h), nth_gapsL]
theorem gapsL_all (cs : List (Int × Int)) : (gapsL cs).take cs.length = gapsL cs := by rw [← gapsL_length cs, List.take_length]
theorem gapsL_ok {cs : List (Int × Int)} (h : clsOk cs = true) : tasksOk (gapsL cs) = true := by
  unfold tasksOk
  rw [Bool.and_eq_true, inB_true, gapsL_length]
  have := clsOk_len h
  refine ⟨all_true_of fun j hj => ?_, by omega⟩
  rw [gapsL_length] at hj
  rw [nth_gapsL, inB_true]
  have := clsOk_at h hj
  omega
theorem gapsL_64 {cs : List (Int × Int)} (h : C64 cs) : I64s (gapsL cs) := by
  intro z hz
  unfold gapsL at hz
  rw [List.mem_map] at hz
  obtain ⟨c, hc, rfl⟩ := hz
  exact (h c hc).2

set_option maxRecDepth 100000 in
set_option maxHeartbeats 8000000 in
theorem tasksOfClasses_c (sv : Value) (cs : List (Int × Int)) (w : World) (hI : Cls w.heap.size w sv cs) (hm : cs.length ≤ 8) :
    Calls Try.prog 103 #[sv] w (GivesI w (gapsL cs) fun v => .agg #[v]) := by
  obtain ⟨i0, hi, hz0, hz1, hz2⟩ := info_parts Try.infoI
  obtain ⟨a, cap, rfl⟩ := hI.shape
  have hB0 : Below w.heap.size w (w.alloc (.cells #[.slice none 0 0] 28)) := (Below.refl _ w).alloc (Nat.le_refl _) _
  have b0 : Boxed (w.alloc (.cells #[.slice none 0 0] 28)) w.heap.size 28 (.slice none 0 0) := Boxed.new _ _ _
  go_enter Try.func103, Try.ntmps103
  go_wp2
  go_loopw [3, 8] (fun v i wr => ∃ k : Nat, k ≤ cs.length ∧ i = .int .i64 k ∧ OwnI (w.heap.size + 1) wr v ((gapsL cs).take k) ∧ Boxed wr w.heap.size 28 (.slice none 0 0) ∧ Below w.heap.size w wr) (fun _ i _ => cs.length - (intOf i).toNat)
  case atStart => exact ⟨0, Nat.zero_le _, rfl, by simpa using ownI_nil _ _, b0, hB0⟩
  case round =>
    obtain ⟨k, hk, rfl, ho, hb, hB⟩ := hrel
    have hlen : ((gapsL cs).take k).length ≤ 8 := by rw [List.length_take, gapsL_length]; omega
    obtain ⟨xs, hxs⟩ : ∃ xs, (gapsL cs).take k = xs := ⟨_, rfl⟩
    rw [hxs] at ho hlen
    have Hx := Lib.hid hxs
    clear hxs
    by_cases hlt : k < cs.length
    · obtain ⟨b, off, rfl, hbb, hc⟩ := (hI.below hB).at_ hlt
      obtain ⟨e1, e2⟩ := hc k hlt
      have hs := hB.size
      have hbs := hb.lt
      have hB1 : Below w.heap.size w (wr.alloc (.cells #[.int .i64 (rst cs k), .int .i64 (gp cs k)] 87)) := hB.alloc hs _
      have ht := gapsL_take hlt
      rw [Hx.out] at ht
      have Ht := Lib.hid ht
      clear hc ht
      go_wp2_with fail
      refine (gap_c _ _ _).mono ?_
      rintro e wq ⟨rfl, hb1⟩
      have ho1 : OwnI (w.heap.size + 1) wq _ xs := OwnI.below (World.ownsRow.alloc ho _) hb1
      have hB2 := hB1.trans (hb1.mono (by simp; omega))
      have hbx : Boxed wq w.heap.size 28 (.slice none 0 0) := boxed_later (hb.alloc _) hb1
      have hs1 := hB2.size
      have hsw : w.heap.size + 1 ≤ wq.heap.size := by have := hb1.size; simp at this; omega
      clear ho hB1 hb1
      go_wp2_with (at_builtin; refine wpList_append_own _ rfl _ _ 22 rfl (w.heap.size+1) 2 i0 (.int .i64 0) 1 8 Try.underlying22 hi hz0 hz1 hz2 rfl (by decide) _ _ _ rfl (World.ownsRow.alloc ho1 _) ⟨wq.heap.size, 0, none⟩ 1 1 [.int .i64 (gp cs k)] rfl rfl (Go.cell_one_new _ _ _) (by simp [Value.oneCell']) (by unfold maxLen; omega) (by omega) (by simp; omega) ?_)
      intro v' w1 hown' hgrow _
      have ho2 := ownI_snoc hown'
      have hB2 : Below w.heap.size w w1 := (hB2.alloc hs1 _).grown hgrow (by simp; omega) (fun j e => by have := (ho1.blk j e).1; omega)
      have hgr : wq.grownBy w1 _ := (World.grownBy_alloc _ _ _).trans hgrow
      clear hown' hgrow
      have hbx2 := hbx.kept hgr (fun e => by have := (ho1.blk _ e.symm).1; omega)
      clear hgr
      go_wp2
      go_roundw
      case rel => exact ⟨k + 1, by omega, by simp, by rw [Ht.out]; exact ho2, hbx2, hB2⟩
      case measure => simp [intOf]; omega
    · obtain rfl : k = cs.length := by omega
      have hx := Hx.out
      rw [gapsL_all] at hx
      subst hx
      obtain ⟨a3, c3, rfl⟩ := ho.ints.shape
      have f0 := hb.frozen
      have cc := hb.cell
      go_wp2
      have hb2 := (hb.set (.slice a3 (gapsL cs).length c3)).cell
      refine bodyPost_ret (v := .agg #[.slice a3 (gapsL cs).length c3]) (by simp [results, Try.results103, go_sem, hb2]) rfl ⟨_, rfl, ?_, hB.setCell (p := ⟨w.heap.size, 0, none⟩) (Nat.le_refl _) _⟩
      exact (ho.kept (grownBy_setC _ _ _ _) (.inr fun e => by have := (ho.blk _ e).1; omega)).base (by omega)

/-! ### spans -/
/-- the span of classes -/
def spanN (cs : List (Int × Int)) : Nat := lcmTo (natsTo (gapsL cs) cs.length)
theorem spanN_bd {cs : List (Int × Int)} (h : clsOk cs = true) : 1 ≤ spanN cs ∧ spanN cs ≤ 5342931457063200 := by
  have ht := gapsL_ok h
  have hp : ∀ g ∈ natsTo (gapsL cs) cs.length, 0 < g ∧ g ≤ 40 := fun g hg => by
    have := natsTo_bd (zs := gapsL cs) ht (k := cs.length) g hg
    omega
  exact ⟨lcmTo_pos fun g hg => (hp g hg).1, lcmTo_le hp⟩
theorem logB_gaps {cs : List (Int × Int)} (h : clsOk cs = true) : logB (gapsL cs) = (spanN cs : Nat) := by
  unfold logB spanN
  rw [gapsL_ok h, gapsL_length]
  rfl

set_option maxRecDepth 100000 in
set_option maxHeartbeats 8000000 in
theorem spanOf_c (sv : Value) (cs : List (Int × Int)) (w : World) (hI : Cls w.heap.size w sv cs) (hN : C64 cs) (hc : clsOk cs = true) :
    Calls Try.prog 99 #[sv] w fun e w' => e = .returned (.int .i64 (spanN cs : Nat)) ∧ Below w.heap.size w w' := by
  obtain ⟨a, cap, rfl⟩ := hI.shape
  have hl := clsOk_len hc
  have Hs := Lib.hid (logB_gaps hc)
  have Hl := Lib.hid (gapsL_length cs)
  have hgl : (gapsL cs).length ≤ 8 := by rw [Hl.out]; omega
  clear hc
  go_enter Try.func99, Try.ntmps99
  go_wp2_with fail
  refine (tasksOfClasses_c _ cs _ hI hl.2).mono ?_
  rintro e w1 ⟨v, rfl, ho, hb⟩
  obtain ⟨a3, c3, rfl⟩ := ho.ints.shape
  go_wp2_with fail
  refine (i_LeastOfGaps _ (gapsL cs) _ ho.ints (gapsL_64 hN) (by omega)).mono ?_
  rintro e w2 ⟨rfl, hb2⟩
  go_wp2
  go_ret
  exact ⟨by rw [Hs.out]; rfl, hb.trans (hb2.mono hb.size)⟩

set_option maxRecDepth 100000 in
set_option maxHeartbeats 8000000 in
theorem l05Span_c (sv : Value) (cs : List (Int × Int)) (w : World) (hI : Cls w.heap.size w sv cs) (hc : clsOk cs = true) :
    Calls Try.prog 104 #[sv] w fun e w' => e = .returned (.int .i64 (spanN cs : Nat)) ∧ Below w.heap.size w w' := by
  obtain ⟨a, cap, rfl⟩ := hI.shape
  have Hc := Lib.hid hc
  have hl := clsOk_len hc
  have hspan : ∀ k, k ≤ cs.length → 1 ≤ lcmTo (natsTo (gapsL cs) k) ∧ lcmTo (natsTo (gapsL cs) k) ≤ 5342931457063200 := fun k hk => by
    have hp : ∀ g ∈ natsTo (gapsL cs) k, 0 < g ∧ g ≤ 40 := fun g hg => by
      have := natsTo_bd (zs := gapsL cs) (gapsL_ok hc) (k := k) g hg
      omega
    exact ⟨lcmTo_pos fun g hg => (hp g hg).1, lcmTo_le hp⟩
  have Hspan := Lib.hid hspan
  clear hc hspan
  go_enter Try.func104, Try.ntmps104
  go_wp2
  go_loopw [3, 4] (fun v i wr => ∃ k : Nat, k ≤ cs.length ∧ i = .int .i64 k ∧ v = .int .i64 (lcmTo (natsTo (gapsL cs) k) : Nat) ∧ Below w.heap.size w wr) (fun _ i _ => cs.length - (intOf i).toNat)
  case atStart => exact ⟨0, Nat.zero_le _, rfl, by simp [natsTo, lcmTo], Below.refl _ _⟩
  case round =>
    obtain ⟨k, hk, rfl, rfl, hB⟩ := hrel
    by_cases hlt : k < cs.length
    · obtain ⟨b, off, rfl, hbb, hcc⟩ := (hI.below hB).at_ hlt
      obtain ⟨e1, e2⟩ := hcc k hlt
      have hg := clsOk_at Hc.out hlt
      obtain ⟨g, hgq⟩ : ∃ g : Nat, gp cs k = g := ⟨(gp cs k).toNat, by omega⟩
      have hnt : natsTo (gapsL cs) (k + 1) = natsTo (gapsL cs) k ++ [g] := by
        rw [natsTo_succ (by rw [gapsL_length]; exact hlt), nth_gapsL, hgq]; rfl
      have h1 := Hspan.out k hk
      have h2 := Hspan.out (k + 1) (by omega)
      rw [hnt, lcmTo_snoc] at h2
      have Hnt := Lib.hid hnt
      rw [hgq] at e2 hg
      clear hcc hnt hgq
      go_wp2_with fail
      refine (l01Lcm_c (lcmTo (natsTo (gapsL cs) k)) g wr (by omega) (by omega) (by omega) (by omega)).mono ?_
      rintro e w1 ⟨rfl, hb1⟩
      go_wp2
      go_roundw
      case rel => exact ⟨k + 1, by omega, by simp, by rw [Hnt.out, lcmTo_snoc], hB.trans (hb1.mono hB.size)⟩
      case measure => simp [intOf]; omega
    · obtain rfl : k = cs.length := by omega
      go_wp2
      go_ret
      exact ⟨rfl, hB⟩

end Go.Proofs.Ytckkhgpciglbmaa
