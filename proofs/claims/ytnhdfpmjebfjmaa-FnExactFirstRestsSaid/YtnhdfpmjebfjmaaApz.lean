/-
  apartFromZero: the program's lists of classes that are apart, with 0 as first rest.
-/
import Derived.Test.YtnhdfpmjebfjmaaApw
namespace Go.Proofs.Ytnhdfpmjebfjmaa
open Go.RowKit Go.Shelf
attribute [local go_sem] Oper.semAt_some

set_option maxRecDepth 100000 in
theorem apartFromZero_c (sv : Value) (w : World) :
    Calls Try.prog 55 #[.agg #[sv]] w fun e w' => e = .returned (.func (.func 89) #[] #[.pointer (some ⟨w.heap.size, 0, none⟩)]) ∧ w' = w.alloc (.cells #[sv] 29) := by
  go_enter Try.func55, Try.ntmps55
  go_wp2
  go_ret
  exact ⟨rfl, rfl⟩

set_option maxRecDepth 100000 in
set_option maxHeartbeats 8000000 in
theorem zero_c {A L n₀ bT : Nat} {w0 : World} {S0 : Nat → Prop} {E : List (List (Int × Int))} {I : Nat → World → Prop} {Jx : World → Prop} (hC : CallerA A L w0 S0 E I Jx) (hn : ∀ j, j < n₀ → S0 j) (hbT : S0 bT) (gN : Nat) (gs : List Int) (a : Option Addr) (cap : Nat) (W : World)
    (hI : Ints n₀ w0 (.slice a (gs.length + 1) cap) ((gN : Int) :: gs)) (hT : Boxed w0 bT 29 (.slice a (gs.length + 1) cap)) (hcp : CapOk (.slice a (gs.length + 1) cap) (gs.length + 1)) (h8 : gs.length + 1 ≤ 8)
    (hg : 1 ≤ gN ∧ gN ≤ 40) (hgs : ∀ x ∈ gs, 1 ≤ x ∧ x ≤ 40) (hE : E = Rst.ext [((0 : Int), (gN : Int))] gs) (hA : A ≤ W.heap.size) (hi : I 0 W) :
    Calls Try.prog 89 #[.func (.yield L) #[] #[], .pointer (some ⟨bT, 0, none⟩)] W fun e W' => (∃ v, e = .returned v) ∧ (I E.length W' ∨ Jx W') := by
  obtain ⟨_, _, hce, hcap, hcapm⟩ := hcp
  cases hce
  unfold maxLen at hcapm
  have hfw : Try.prog.follows Departure.mixedOrders = true := by kernel_rfl
  obtain ⟨b, off, rfl, hb, hc⟩ := hI.at_ (show 0 < ((gN : Int) :: gs).length by simp)
  have cg := hc 0 (by simp)
  rw [show nth ((gN : Int) :: gs) 0 = (gN : Int) from rfl, Nat.add_zero] at cg
  obtain ⟨ad, had, had1, had2⟩ : ∃ ad : Addr, (if cap = 1 then some (⟨b, off, none⟩ : Addr) else some ⟨b, off + 1, none⟩) = some ad ∧ (cap = 1 → ad = ⟨b, off, none⟩) ∧ (¬ cap = 1 → ad = ⟨b, off + 1, none⟩) := by
    by_cases hq : cap = 1
    · exact ⟨_, if_pos hq, fun _ => rfl, fun h => absurd hq h⟩
    · exact ⟨_, if_neg hq, fun h => absurd h hq, fun _ => rfl⟩
  have hIt : Ints n₀ w0 (.slice (some ad) gs.length (cap - 1)) gs := by
    by_cases hq : cap = 1
    · have : gs = [] := List.eq_nil_of_length_eq_zero (by omega)
      subst this
      exact ⟨_, _, rfl, .inl rfl⟩
    · have h := ints_drop (n := 1) (show Ints n₀ w0 (.slice (some ⟨b, off, none⟩) ((gN : Int) :: gs).length cap) ((gN : Int) :: gs) from hI) (by simp)
      rw [had2 hq]
      exact h
  have hct : CapOk (.slice (some ad) gs.length (cap - 1)) gs.length := ⟨_, _, rfl, by omega, by unfold maxLen; omega⟩
  have cgW : ∀ wr, Kps S0 w0 wr → wr.cell? ⟨b, off, none⟩ = some (.int .i64 gN) ∧ wr.cell? ⟨bT, 0, none⟩ = some (.slice (some ⟨b, off, none⟩) (gs.length + 1) cap) := fun wr hk =>
    ⟨(World.cell?_of_block (w := w0) (a := ⟨b, off, none⟩) (hk.same b (hn b hb) (World.block_lt_of_cell? w0 _ cg))).trans cg, (hk.boxed hbT hT).cell⟩
  have HcW := Lib.hid cgW
  have Had := Lib.hid had
  have HIt := Lib.hid hIt
  have Hct := Lib.hid hct
  have HC := Lib.hid hC
  have Hgs := Lib.hid hgs
  have HE := Lib.hid hE
  have K0 := hC.old _ _ hi
  have hiN : 1 ≤ (gN : Int) ∧ (gN : Int) ≤ 40 := by omega
  clear cgW had had1 had2 hIt hct hC hgs hE hI hT cg hc
  go_enter Try.func89, Try.ntmps89
  go_wp2_with fail
  refine wp_region_held_drew (S := fun w' => Kps S0 w0 w') hfw (K0.trans (Kps.below (Below.refl _ _).drew)) ?_
  intro hS0
  refine wpAnyH_take (i := 0) (v := ?va1q0) rfl (by kernel_rfl) (by kernel_rfl) (by kernel_rfl) (fun _ _ _ h => h) (.inl ⟨by first | kernel_rfl | rfl, ?ya1q0⟩) hS0 ?_
  case ya1q0 =>
    intro w' hS
    (have k0 := (HcW.out _ hS).1; have k1 := (HcW.out _ hS).2; clear hS)
    go_simp
    try with_reducible rfl
  refine wpAnyH_take (i := 1) (v := ?va1q1) rfl (by kernel_rfl) (by kernel_rfl) (by kernel_rfl) (fun _ _ _ h => h) (.inl ⟨by first | kernel_rfl | rfl, ?ya1q1⟩) hS0 ?_
  case ya1q1 =>
    intro w' hS
    (have k0 := (HcW.out _ hS).1; have k1 := (HcW.out _ hS).2; clear hS)
    go_simp
    try with_reducible rfl
  refine wpAnyH_take (i := 2) (v := ?va1q2) rfl (by kernel_rfl) (by kernel_rfl) (by kernel_rfl) (fun _ _ _ h => h) (.inl ⟨by first | kernel_rfl | rfl, ?ya1q2⟩) hS0 ?_
  case ya1q2 =>
    intro w' hS
    (have k0 := (HcW.out _ hS).1; have k1 := (HcW.out _ hS).2; clear hS)
    go_simp
    try with_reducible rfl
  refine wpAnyH_take (i := 3) (v := ?va1q3) rfl (by kernel_rfl) (by kernel_rfl) (by kernel_rfl) (fun _ _ _ h => h) (.inl ⟨by first | kernel_rfl | rfl, ?ya1q3⟩) hS0 ?_
  case ya1q3 =>
    intro w' hS
    (have k0 := (HcW.out _ hS).1; have k1 := (HcW.out _ hS).2; clear hS)
    go_simp
    try with_reducible rfl
  refine wpAnyH_take (i := 4) (v := ?va1q4) rfl (by kernel_rfl) (by kernel_rfl) (by kernel_rfl) (fun _ _ _ h => h) (.inl ⟨by first | kernel_rfl | rfl, ?ya1q4⟩) hS0 ?_
  case ya1q4 =>
    intro w' hS
    (have k0 := (HcW.out _ hS).1; have k1 := (HcW.out _ hS).2; clear hS)
    go_simp
    try with_reducible rfl
  refine wpAnyH_take (i := 6) (v := ?va1q6) rfl (by kernel_rfl) (by kernel_rfl) (by kernel_rfl) (fun _ _ _ h => h) (.inl ⟨by first | kernel_rfl | rfl, ?ya1q6⟩) hS0 ?_
  case ya1q6 =>
    intro w' hS
    (have k0 := (HcW.out _ hS).1; have k1 := (HcW.out _ hS).2; clear hS)
    go_simp
    try with_reducible rfl
  refine wpAnyH_take (i := 7) (v := ?va1q7) rfl (by kernel_rfl) (by kernel_rfl) (by kernel_rfl) (fun _ _ _ h => h) (.inl ⟨by first | kernel_rfl | rfl, ?ya1q7⟩) hS0 ?_
  case ya1q7 =>
    intro w' hS
    (have k0 := (HcW.out _ hS).1; have k1 := (HcW.out _ hS).2; clear hS)
    go_simp
    try with_reducible rfl
  refine wpAnyH_take (i := 9) (v := ?va1q9) rfl (by kernel_rfl) (by kernel_rfl) (by kernel_rfl) (fun _ _ _ h => h) (.inl ⟨by first | kernel_rfl | rfl, ?ya1q9⟩) hS0 ?_
  case ya1q9 =>
    intro w' hS
    (have k0 := (HcW.out _ hS).1; have k1 := (HcW.out _ hS).2; clear hS)
    go_simp
    try with_reducible rfl
  refine wpAnyH_take (i := 8) (v := (.slice (some ad) gs.length (cap - 1))) rfl (by kernel_rfl) (by kernel_rfl) (by kernel_rfl) (fun _ _ _ h => h) (.inl ⟨by first | kernel_rfl | rfl, ?ya2q8⟩) hS0 ?_
  case ya2q8 =>
    intro w' hS
    (clear hS)
    go_simp
    (rw [← Had.out])
    first | done | (simp; done) | (simp; omega) | omega | (simp [*]; done)
  have hi1 := HC.out.move _ _ _ hi hA (Below.refl _ _).drew
  have hA1 : A ≤ W.drew.heap.size := hA
  obtain ⟨wd, hwd⟩ : ∃ wd, W.drew = wd := ⟨_, rfl⟩
  rw [hwd] at hS0 hi1 hA1 ⊢
  clear hwd hi hA K0
  refine wpAnyH_ready (rs := [5]) (by kernel_rfl) (by simp) ?_
  refine AllReadyH.cons rfl (fun K' hK' => ?_) AllReadyH.nil
  rw [if_pos (by first | kernel_rfl | rfl)]
  go_simp
  obtain ⟨wa, hwa⟩ : ∃ Wq, wd.alloc (.cells #[.int .i64 0, .int .i64 gN] 73) = Wq := ⟨_, rfl⟩
  have hba : Below wd.heap.size wd wa := by rw [← hwa]; exact (Below.refl _ _).alloc (Nat.le_refl _) _
  have ho : OwnC A wa (.slice (some ⟨wd.heap.size, 0, none⟩) 1 1) 1 (flat [((0 : Int), (gN : Int))]) := by
    rw [← hwa]
    exact ⟨by simp [flat], .inr ⟨wd.heap.size, 1, _, rfl, hA1, heap_alloc_new wd _, Nat.le_refl _, by unfold maxLen; omega, rfl, by simp [flat]⟩⟩
  rw [hwa]
  refine hK'.out _ _ (hS0.trans (Kps.below hba)) fun hSa => ?_
  clear hwa hK'
  have hi2 := HC.out.move _ _ _ hi1 hA1 (hba.mono hA1)
  have hc10 := Lib.hid (extend_c HC.out hn gs (.slice (some ad) gs.length (cap - 1)) (.slice (some ⟨wd.heap.size, 0, none⟩) 1 1) [((0 : Int), (gN : Int))] 0 wa HIt.out Hct.out (Nat.le_trans hA1 hba.size) ho (by simp) (by simp; omega) (clss_snoc (p := []) (fun j hj => absurd hj (by simp)) (by omega) (by omega)) Hgs.out (fun i q hq => by rw [HE.out, Nat.zero_add]; exact hq) hi2)
  clear ho
  refine wpAnyH_ready (rs := [10]) (by kernel_rfl) (by simp) ?_
  refine AllReadyH.cons rfl (fun K' hK' => ?_) AllReadyH.nil
  rw [if_pos (by first | kernel_rfl | rfl)]
  go_simp
  refine hc10.out.mono ?_
  rintro e w10 ⟨hk, hres⟩
  have hkk : Kps S0 w0 w10 := by
    rcases hres with ⟨_, _, h⟩ | ⟨_, h⟩
    · exact HC.out.old _ _ h
    · exact HC.out.oldX _ h
  have hlast : (I E.length w10 ∨ Jx w10) := by
    rcases hres with ⟨_, _, h⟩ | ⟨_, h⟩
    · left; rw [HE.out]; simpa using h
    · exact .inr h
  have hev : ∃ v, e = .returned v := by rcases hres with ⟨h, _⟩ | ⟨h, _⟩ <;> exact ⟨_, h⟩
  obtain ⟨v, rfl⟩ := hev
  clear hres hk hc10
  refine hK'.out _ _ hkk fun hS10 => ?_
  refine wpAnyH_done (by kernel_rfl) ?_ _
  clear hS10
  go_wp2
  go_end0
  exact ⟨⟨_, rfl⟩, hlast⟩

end Go.Proofs.Ytnhdfpmjebfjmaa
