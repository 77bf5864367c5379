/-
  StepState of the program.
  Conditions: lists of at most 1048576 elements.
-/
import Derived.Test.YthggpmgjgibcoaaStep
import Derived.Deep.RegionHeld3
namespace Go.Proofs.Ythggpmgjgibcoaa
open Go.RowKit Go.Shelf
attribute [local go_sem] Oper.semAt_some

set_option maxRecDepth 100000 in
set_option maxHeartbeats 8000000 in
theorem numbers_c (st : List Int) (n : Int) (w : World) (hn : n = st.length) (h0 : 0 < st.length) (h8 : st.length ≤ 8) (hb : ∀ k, k < st.length → 0 ≤ nth st k ∧ nth st k ≤ 255) :
    Calls Try.prog 137 #[arrV st, .int .i64 n] w (GivesI w st id) := by
  subst hn
  obtain ⟨i0, hi, hz0, hz1, hz2⟩ := info_parts Try.infoI2
  unfold arrV cells8
  have hsl := fun (W : World) => run_sliceAt_array_h (P := Try.prog) W 115 ⟨w.heap.size, 0, none⟩ (by simp [Program.arrayLen, Program.elem, Try.underlying115]) .i64 (st.length : Int) (by omega) (by simp [Program.arrayLen, Try.underlying115]; omega)
  go_enter Try.func137, Try.ntmps137
  go_wp2
  obtain ⟨W0, hW0⟩ : ∃ W0, w.alloc (.cells #[.int .u8 (nth st 0), .int .u8 (nth st 1), .int .u8 (nth st 2), .int .u8 (nth st 3), .int .u8 (nth st 4), .int .u8 (nth st 5), .int .u8 (nth st 6), .int .u8 (nth st 7)] 115) = W0 := ⟨_, rfl⟩
  have bS : Arr W0 w.heap.size st := by rw [← hW0]; exact Arr.new w st
  have hB0 : Below w.heap.size w W0 := by rw [← hW0]; exact (Below.refl _ w).alloc (Nat.le_refl _) _
  rw [hW0]
  clear hW0 hsl
  have Hb := Lib.hid hb
  clear hb
  go_loopw [5, 11] (fun v i wr => ∃ k : Nat, k ≤ st.length ∧ i = .int .i64 k ∧ OwnI (w.heap.size + 1) wr v (st.take k) ∧ Arr wr w.heap.size st ∧ Below w.heap.size w wr) (fun _ i _ => st.length - (intOf i).toNat)
  case atStart => exact ⟨0, Nat.zero_le _, rfl, ownI_nil _ _, bS, hB0⟩
  case round =>
    obtain ⟨k, hk, rfl, ho, hS, hB⟩ := hrel
    have hlen : (st.take k).length ≤ 8 := by rw [List.length_take]; omega
    obtain ⟨xs, hxs⟩ : ∃ xs, st.take k = xs := ⟨_, rfl⟩
    rw [hxs] at ho hlen
    have Hx := Lib.hid hxs
    clear hxs bS hB0
    have hsw := hB.size
    have hbs := hS.lt
    by_cases hlt : k < st.length
    · have c1 := hS.cell (i := k) (by omega)
      have h1 := Hb.out k hlt
      have ht := take_snoc hlt
      rw [Hx.out] at ht
      have Ht := Lib.hid ht
      clear ht
      go_wp2_with (at_builtin; refine wpList_append_own _ rfl _ _ 24 rfl (w.heap.size+1) 2 i0 (.int .i64 0) 1 8 Try.underlying24 hi hz0 hz1 hz2 rfl (by decide) _ _ _ rfl (World.ownsRow.alloc ho _) ⟨wr.heap.size, 0, none⟩ 1 1 [.int .i64 (nth st k)] rfl rfl (Go.cell_one_new _ _ _) (by simp [Value.oneCell']) (by unfold maxLen; omega) (by omega) (by simp; omega) ?_)
      intro v' w1 hown' hgrow _
      have ho2 := ownI_snoc hown'
      have hB2 : Below w.heap.size w w1 := (hB.alloc hsw _).grown hgrow (by simp; omega) (fun j e => by have := (ho.blk j e).1; omega)
      have hgr : wr.grownBy w1 _ := (World.grownBy_alloc _ _ _).trans hgrow
      clear hown' hgrow
      have hb1 := hS.kept hgr (fun e => by have := (ho.blk _ e.symm).1; omega)
      clear hgr
      go_wp2
      go_roundw
      case rel => exact ⟨k + 1, by omega, by simp, by rw [Ht.out]; exact ho2, hb1, hB2⟩
      case measure => simp [intOf]; omega
    · obtain rfl : k = st.length := by omega
      have hx := Hx.out
      rw [List.take_length] at hx
      subst hx
      go_wp2
      go_ret
      exact ⟨_, rfl, ho.base (by omega), hB⟩

set_option maxRecDepth 100000 in
set_option maxHeartbeats 8000000 in
theorem outlookOf_c (c0 : Value) (zs : List Int) (w : World) (hI : Ints w.heap.size w c0 zs) (ht : tasksOk zs = true) :
    Calls Try.prog 133 #[.agg #[c0]] w fun e w' => ∃ bO m, e = .returned (.pointer (some ⟨bO, 0, none⟩)) ∧ Outl w' bO zs m ∧ w'.heap[m]? = some (.map #[] 0) ∧ w.heap.size ≤ bO ∧ w.heap.size ≤ m ∧ Below w.heap.size w w' := by
  obtain ⟨a, cap, rfl⟩ := hI.shape
  have hB0 : Below w.heap.size w (w.alloc (.cells #[.slice a zs.length cap] 26)) := (Below.refl _ w).alloc (Nat.le_refl _) _
  have hmm := @run_makeMap Try.prog
  have hfw : Try.prog.follows Departure.mixedOrders = true := by kernel_rfl
  have hl8 := tasksOk_len ht
  have hbd : ∀ k, k < zs.length → 0 ≤ nth zs k ∧ nth zs k ≤ 255 := fun k hk => by have := tasksOk_nth ht hk; omega
  go_enter Try.func133, Try.ntmps133
  go_wp2_with fail
  refine wp_region_noPanic (wp_region_held_drew (S := fun w' => Boxed w' w.heap.size 26 (.slice a zs.length cap) ∧ Below w.heap.size w w') hfw ⟨Boxed.new _ _ _, hB0.drew⟩ ?_)
  intro hS0
  refine wpAnyH_take (i := 0) (v := ?v0) rfl (by kernel_rfl) (by kernel_rfl) (by kernel_rfl) (fun _ _ _ h => h) (.inl ⟨by rfl, ?y0⟩) hS0 ?_
  case y0 =>
    intro w' hS
    (have k1 := hS.1.cell; clear hS)
    go_simp
    try with_reducible rfl
  refine wpAnyH_take (i := 1) (v := ?v1) rfl (by kernel_rfl) (by kernel_rfl) (by kernel_rfl) (fun _ _ _ h => h) (.inl ⟨by rfl, ?y1⟩) hS0 ?_
  case y1 =>
    intro w' hS
    (have k1 := hS.1.cell; clear hS)
    go_simp
    try with_reducible rfl
  refine wpAnyH_take (i := 2) (v := ?v2) rfl (by kernel_rfl) (by kernel_rfl) (by kernel_rfl) (fun _ _ _ h => h) (.inl ⟨by rfl, ?y2⟩) hS0 ?_
  case y2 =>
    intro w' hS
    (have k1 := hS.1.cell; clear hS)
    go_simp
    try with_reducible rfl
  refine wpAnyH_take (i := 3) (v := ?v3) rfl (by kernel_rfl) (by kernel_rfl) (by kernel_rfl) (fun _ _ _ h => h) (.inl ⟨by rfl, ?y3⟩) hS0 ?_
  case y3 =>
    intro w' hS
    (have k1 := hS.1.cell; clear hS)
    go_simp
    try with_reducible rfl
  refine wpAnyH_take (i := 4) (v := ?v4) rfl (by kernel_rfl) (by kernel_rfl) (by kernel_rfl) (fun _ _ _ h => h) (.inl ⟨by rfl, ?y4⟩) hS0 ?_
  case y4 =>
    intro w' hS
    (have k1 := hS.1.cell; clear hS)
    go_simp
    try with_reducible rfl
  refine wpAnyH_ready (rs := [5, 6]) (by kernel_rfl) (by simp) ?_
  refine AllReadyH.cons rfl (fun K' hK' => ?_) (AllReadyH.cons rfl (fun K' hK' => ?_) AllReadyH.nil)
  · rw [if_pos (by rfl)]
    go_simp
    refine (taskStateOf_c _ zs _ (hI.later hS0.2) (by omega) hbd).mono ?_
    rintro e w1 ⟨rfl, hx⟩
    have hb1 := hS0.2.trans (hx.mono hS0.2.size)
    have hs1 := hb1.size
    refine hK'.out _ _ ⟨boxed_later hS0.1 hx, hb1⟩ fun hS1 => ?_
    try simp only [id]
    refine wpAnyH_ready (rs := [6]) (by kernel_rfl) (by simp) ?_
    refine AllReadyH.cons rfl (fun K' hK' => ?_) AllReadyH.nil
    rw [if_pos (by rfl)]
    go_simp
    refine hK'.out _ _ ⟨hS1.1.alloc _, hb1.alloc hb1.size _⟩ fun hS2 => ?_
    try simp only [id]
    unfold arrV cells8
    refine wpAnyH_take (i := 7) (v := ?v7) rfl (by kernel_rfl) (by kernel_rfl) (by kernel_rfl) (fun _ _ _ h => h) (.inl ⟨by rfl, ?y7⟩) hS2 ?_
    case y7 =>
      intro w' hS
      (clear hS)
      go_simp
      try with_reducible rfl
    refine wpAnyH_ready (rs := [8]) (by kernel_rfl) (by simp) ?_
    refine AllReadyH.cons rfl (fun K' hK' => ?_) AllReadyH.nil
    rw [if_pos (by rfl)]
    go_simp
    refine hK'.out _ _ ⟨(hS1.1.alloc _).alloc _, (hb1.alloc hb1.size _).alloc (by simp; omega) _⟩ fun hS3 => ?_
    try simp only [id]
    refine wpAnyH_take (i := 9) (v := ?v9) rfl (by kernel_rfl) (by kernel_rfl) (by kernel_rfl) (fun _ _ _ h => h) (.inl ⟨by rfl, ?y9⟩) hS3 ?_
    case y9 =>
      intro w' hS
      (clear hS)
      go_simp
      try with_reducible rfl
    refine wpAnyH_done (by kernel_rfl) (NoPanic.normal ?_) _
    go_wp2
    go_ret
    exact ⟨_, _, rfl, by have := World.alloc_heap_new (w1.alloc (.map #[] 0)) (.cells (outC zs w1.heap.size) 134); rwa [World.size_alloc] at this, (Below.heap_alloc _ _ _ (by simp)).trans (World.alloc_heap_new _ _), by omega, hs1, hS3.2⟩
  · rw [if_pos (by rfl)]
    go_simp
    have hs0 := hS0.2.size
    have hb1 := hS0.2.alloc hs0 (.map #[] 0)
    refine hK'.out _ _ ⟨hS0.1.alloc _, hb1⟩ fun hS1 => ?_
    try simp only [id]
    refine wpAnyH_ready (rs := [5]) (by kernel_rfl) (by simp) ?_
    refine AllReadyH.cons rfl (fun K' hK' => ?_) AllReadyH.nil
    rw [if_pos (by rfl)]
    go_simp
    refine (taskStateOf_c _ zs _ (hI.later hb1) (by omega) hbd).mono ?_
    rintro e w1 ⟨rfl, hx⟩
    have hb2 := hb1.trans (hx.mono hb1.size)
    have hs1 := hb2.size
    have hm1 : w1.heap[w.heap.size + 1]? = some (.map #[] 0) := by
      have h2 := World.alloc_heap_new (w.alloc (.cells #[.slice a zs.length cap] 26)).drew (.map #[] 0)
      have h3 : (w.alloc (.cells #[.slice a zs.length cap] 26)).drew.heap.size = w.heap.size + 1 := World.size_alloc _ _
      rw [h3] at h2
      exact (hx.block (w.heap.size + 1) (by simp)).trans h2
    refine hK'.out _ _ ⟨boxed_later hS1.1 hx, hb2⟩ fun hS2 => ?_
    try simp only [id]
    unfold arrV cells8
    refine wpAnyH_take (i := 7) (v := ?vz7) rfl (by kernel_rfl) (by kernel_rfl) (by kernel_rfl) (fun _ _ _ h => h) (.inl ⟨by rfl, ?yz7⟩) hS2 ?_
    case yz7 =>
      intro w' hS
      (clear hS)
      go_simp
      try with_reducible rfl
    refine wpAnyH_ready (rs := [8]) (by kernel_rfl) (by simp) ?_
    refine AllReadyH.cons rfl (fun K' hK' => ?_) AllReadyH.nil
    rw [if_pos (by rfl)]
    go_simp
    refine hK'.out _ _ ⟨hS2.1.alloc _, hb2.alloc hs1 _⟩ fun hS3 => ?_
    try simp only [id]
    refine wpAnyH_take (i := 9) (v := ?vz9) rfl (by kernel_rfl) (by kernel_rfl) (by kernel_rfl) (fun _ _ _ h => h) (.inl ⟨by rfl, ?yz9⟩) hS3 ?_
    case yz9 =>
      intro w' hS
      (clear hS)
      go_simp
      try with_reducible rfl
    refine wpAnyH_done (by kernel_rfl) (NoPanic.normal ?_) _
    go_wp2
    go_ret
    exact ⟨_, _, rfl, World.alloc_heap_new w1 (.cells (outC zs (w.heap.size + 1)) 134), (Below.heap_alloc _ _ _ (Array.getElem?_eq_some_iff.1 hm1).1).trans hm1, hs1, by omega, hS3.2⟩

end Go.Proofs.Ythggpmgjgibcoaa
