/-
  StepState of the program.
  Conditions: lists of at most 1048576 elements.
-/
import Derived.Test.YtgndbifcncklgaaStep
import Derived.Deep.RegionHeld3
namespace Go.Proofs.Ytgndbifcncklgaa
open Go.RowKit Go.Shelf
attribute [local go_sem] Oper.semAt_some

set_option maxRecDepth 100000 in
set_option maxHeartbeats 8000000 in
theorem outlookOf_c (c0 : Value) (zs : List Int) (w : World) (hI : Ints w.heap.size w c0 zs) (ht : tasksOk zs = true) :
    Calls Try.prog 99 #[.agg #[c0]] w fun e w' => ∃ bO m, e = .returned (.pointer (some ⟨bO, 0, none⟩)) ∧ Outl w' bO zs m ∧ w'.heap[m]? = some (.map #[] 0) ∧ w.heap.size ≤ bO ∧ w.heap.size ≤ m ∧ Below w.heap.size w w' := by
  obtain ⟨a, cap, rfl⟩ := hI.shape
  have hB0 : Below w.heap.size w (w.alloc (.cells #[.slice a zs.length cap] 32)) := (Below.refl _ w).alloc (Nat.le_refl _) _
  have hmm := @run_makeMap Try.prog
  have hfw : Try.prog.follows Departure.mixedOrders = true := by kernel_rfl
  have hl8 := tasksOk_len ht
  have hbd : ∀ k, k < zs.length → 0 ≤ nth zs k ∧ nth zs k ≤ 255 := fun k hk => by have := tasksOk_nth ht hk; omega
  go_enter Try.func99, Try.ntmps99
  go_wp2_with fail
  refine wp_region_noPanic (wp_region_held_drew (S := fun w' => Boxed w' w.heap.size 32 (.slice a zs.length cap) ∧ Below w.heap.size w w') hfw ⟨Boxed.new _ _ _, hB0.drew⟩ ?_)
  intro hS0
  refine wpAnyH_take (i := 0) (v := ?v0) rfl (by kernel_rfl) (by kernel_rfl) (by kernel_rfl) (fun _ _ _ h => h) (.inl ⟨by rfl, ?y0⟩) hS0 ?_
  case y0 =>
    intro w' hS
    (have k1 := hS.1.cell; clear hS)
    go_simp
    try with_reducible rfl
  refine wpAnyH_take (i := 1) (v := ?v1) rfl (by kernel_rfl) (by kernel_rfl) (by kernel_rfl) (fun _ _ _ h => h) (.inl ⟨by rfl, ?y1⟩) hS0 ?_
  case y1 =>
    intro w' hS
    (have k1 := hS.1.cell; clear hS)
    go_simp
    try with_reducible rfl
  refine wpAnyH_take (i := 2) (v := ?v2) rfl (by kernel_rfl) (by kernel_rfl) (by kernel_rfl) (fun _ _ _ h => h) (.inl ⟨by rfl, ?y2⟩) hS0 ?_
  case y2 =>
    intro w' hS
    (have k1 := hS.1.cell; clear hS)
    go_simp
    try with_reducible rfl
  refine wpAnyH_take (i := 3) (v := ?v3) rfl (by kernel_rfl) (by kernel_rfl) (by kernel_rfl) (fun _ _ _ h => h) (.inl ⟨by rfl, ?y3⟩) hS0 ?_
  case y3 =>
    intro w' hS
    (have k1 := hS.1.cell; clear hS)
    go_simp
    try with_reducible rfl
  refine wpAnyH_take (i := 4) (v := ?v4) rfl (by kernel_rfl) (by kernel_rfl) (by kernel_rfl) (fun _ _ _ h => h) (.inl ⟨by rfl, ?y4⟩) hS0 ?_
  case y4 =>
    intro w' hS
    (have k1 := hS.1.cell; clear hS)
    go_simp
    try with_reducible rfl
  refine wpAnyH_ready (rs := [5, 6]) (by kernel_rfl) (by simp) ?_
  refine AllReadyH.cons rfl (fun K' hK' => ?_) (AllReadyH.cons rfl (fun K' hK' => ?_) AllReadyH.nil)
  · rw [if_pos (by rfl)]
    go_simp
    refine (taskStateOf_c _ zs _ (hI.later hS0.2) (by omega) hbd).mono ?_
    rintro e w1 ⟨rfl, hx⟩
    have hb1 := hS0.2.trans (hx.mono hS0.2.size)
    have hs1 := hb1.size
    refine hK'.out _ _ ⟨boxed_later hS0.1 hx, hb1⟩ fun hS1 => ?_
    try simp only [id]
    refine wpAnyH_ready (rs := [6]) (by kernel_rfl) (by simp) ?_
    refine AllReadyH.cons rfl (fun K' hK' => ?_) AllReadyH.nil
    rw [if_pos (by rfl)]
    go_simp
    refine hK'.out _ _ ⟨hS1.1.alloc _, hb1.alloc hb1.size _⟩ fun hS2 => ?_
    try simp only [id]
    unfold arrV cells8
    refine wpAnyH_take (i := 7) (v := ?v7) rfl (by kernel_rfl) (by kernel_rfl) (by kernel_rfl) (fun _ _ _ h => h) (.inl ⟨by rfl, ?y7⟩) hS2 ?_
    case y7 =>
      intro w' hS
      (clear hS)
      go_simp
      try with_reducible rfl
    refine wpAnyH_ready (rs := [8]) (by kernel_rfl) (by simp) ?_
    refine AllReadyH.cons rfl (fun K' hK' => ?_) AllReadyH.nil
    rw [if_pos (by rfl)]
    go_simp
    refine hK'.out _ _ ⟨(hS1.1.alloc _).alloc _, (hb1.alloc hb1.size _).alloc (by simp; omega) _⟩ fun hS3 => ?_
    try simp only [id]
    refine wpAnyH_take (i := 9) (v := ?v9) rfl (by kernel_rfl) (by kernel_rfl) (by kernel_rfl) (fun _ _ _ h => h) (.inl ⟨by rfl, ?y9⟩) hS3 ?_
    case y9 =>
      intro w' hS
      (clear hS)
      go_simp
      try with_reducible rfl
    refine wpAnyH_done (by kernel_rfl) (NoPanic.normal ?_) _
    go_wp2
    go_ret
    exact ⟨_, _, rfl, by have := World.alloc_heap_new (w1.alloc (.map #[] 0)) (.cells (outC zs w1.heap.size) 111); rwa [World.size_alloc] at this, (Below.heap_alloc _ _ _ (by simp)).trans (World.alloc_heap_new _ _), by omega, hs1, hS3.2⟩
  · rw [if_pos (by rfl)]
    go_simp
    have hs0 := hS0.2.size
    have hb1 := hS0.2.alloc hs0 (.map #[] 0)
    refine hK'.out _ _ ⟨hS0.1.alloc _, hb1⟩ fun hS1 => ?_
    try simp only [id]
    refine wpAnyH_ready (rs := [5]) (by kernel_rfl) (by simp) ?_
    refine AllReadyH.cons rfl (fun K' hK' => ?_) AllReadyH.nil
    rw [if_pos (by rfl)]
    go_simp
    refine (taskStateOf_c _ zs _ (hI.later hb1) (by omega) hbd).mono ?_
    rintro e w1 ⟨rfl, hx⟩
    have hb2 := hb1.trans (hx.mono hb1.size)
    have hs1 := hb2.size
    have hm1 : w1.heap[w.heap.size + 1]? = some (.map #[] 0) := by
      have h2 := World.alloc_heap_new (w.alloc (.cells #[.slice a zs.length cap] 32)).drew (.map #[] 0)
      have h3 : (w.alloc (.cells #[.slice a zs.length cap] 32)).drew.heap.size = w.heap.size + 1 := World.size_alloc _ _
      rw [h3] at h2
      exact (hx.block (w.heap.size + 1) (by simp)).trans h2
    refine hK'.out _ _ ⟨boxed_later hS1.1 hx, hb2⟩ fun hS2 => ?_
    try simp only [id]
    unfold arrV cells8
    refine wpAnyH_take (i := 7) (v := ?vz7) rfl (by kernel_rfl) (by kernel_rfl) (by kernel_rfl) (fun _ _ _ h => h) (.inl ⟨by rfl, ?yz7⟩) hS2 ?_
    case yz7 =>
      intro w' hS
      (clear hS)
      go_simp
      try with_reducible rfl
    refine wpAnyH_ready (rs := [8]) (by kernel_rfl) (by simp) ?_
    refine AllReadyH.cons rfl (fun K' hK' => ?_) AllReadyH.nil
    rw [if_pos (by rfl)]
    go_simp
    refine hK'.out _ _ ⟨hS2.1.alloc _, hb2.alloc hs1 _⟩ fun hS3 => ?_
    try simp only [id]
    refine wpAnyH_take (i := 9) (v := ?vz9) rfl (by kernel_rfl) (by kernel_rfl) (by kernel_rfl) (fun _ _ _ h => h) (.inl ⟨by rfl, ?yz9⟩) hS3 ?_
    case yz9 =>
      intro w' hS
      (clear hS)
      go_simp
      try with_reducible rfl
    refine wpAnyH_done (by kernel_rfl) (NoPanic.normal ?_) _
    go_wp2
    go_ret
    exact ⟨_, _, rfl, World.alloc_heap_new w1 (.cells (outC zs (w.heap.size + 1)) 111), (Below.heap_alloc _ _ _ (Array.getElem?_eq_some_iff.1 hm1).1).trans hm1, hs1, by omega, hS3.2⟩

end Go.Proofs.Ytgndbifcncklgaa
