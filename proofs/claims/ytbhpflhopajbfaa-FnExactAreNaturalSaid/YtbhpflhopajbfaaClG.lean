/-
  AreExact of both.
  Conditions: lists of at most 1048576 elements.
-/
import Derived.Test.YtbhpflhopajbfaaClF
import Derived.Test.YtbhpflhopajbfaaSort
namespace Go.Proofs.Ytbhpflhopajbfaa
open Go.RowKit Go.Shelf
attribute [local go_sem] Oper.semAt_some

def fullB (cs : List (Int × Int)) : Bool := decide (densN (natsTo (gapsL cs) (gapsL cs).length) = densD (natsTo (gapsL cs) (gapsL cs).length))
/-- are these classes exact? -/
def exactB (cs : List (Int × Int)) : Bool := fullB cs && apartB cs
def exV (cs : List (Int × Int)) : Bool := clsOk cs && exactB cs

set_option maxRecDepth 100000 in
set_option maxHeartbeats 8000000 in
theorem l05Exact_c (sv : Value) (cs : List (Int × Int)) (w : World) (hI : Cls w.heap.size w sv cs) (hcl : clsOk cs = true) :
    Calls Try.prog 81 #[sv] w fun e w' => e = .returned (.bool (exactB cs)) ∧ Below w.heap.size w w' := by
  obtain ⟨i0, hi, hz0, hz1, hz2⟩ := info_parts Try.infoI
  obtain ⟨a, cap, rfl⟩ := hI.shape
  have hl := clsOk_len hcl
  have Hcl := Lib.hid hcl
  clear hcl
  go_enter Try.func81, Try.ntmps81
  go_wp2
  obtain ⟨W, hW⟩ : ∃ W, ((w.alloc (.cells #[] 2)).alloc (.cells #[.slice (some ⟨w.heap.size, 0, none⟩) 0 0] 28)) = W := ⟨_, rfl⟩
  have hB0 : Below w.heap.size w W := by rw [← hW]; exact ((Below.refl _ w).alloc (Nat.le_refl _) _).alloc (by simp) _
  have hs0 : w.heap.size + 2 ≤ W.heap.size := by rw [← hW]; simp
  have b0 : Boxed W (w.heap.size + 1) 28 (.slice (some ⟨w.heap.size, 0, none⟩) 0 0) := by rw [← hW]; exact boxed_at (by simp)
  have ho0 : OwnI w.heap.size W (.slice (some ⟨w.heap.size, 0, none⟩) 0 0) [] := by rw [← hW]; exact World.ownsRow.alloc (World.ownsRow_made w #[] 0 (Nat.le_refl _) (by unfold maxLen; omega) rfl) _
  rw [hW]
  clear hW
  go_loopw [4] (fun i wr => ∃ (k : Nat) (v : Value), k ≤ cs.length ∧ i = .int .i64 k ∧ Boxed wr (w.heap.size + 1) 28 v ∧ OwnI w.heap.size wr v ((gapsL cs).take k) ∧ Below w.heap.size w wr) (fun i _ => cs.length - (intOf i).toNat)
  case atStart => exact ⟨0, _, Nat.zero_le _, rfl, b0, by simpa using ho0, hB0⟩
  case round =>
    obtain ⟨k, v, hk, rfl, bO, hok, hB⟩ := hrel
    clear b0 ho0 hB0
    have cO := bO.cell
    have fO := bO.frozen
    have hlen : ((gapsL cs).take k).length = k := by rw [List.length_take, gapsL_length]; omega
    by_cases hlt : k < cs.length
    · obtain ⟨av, cv, ev⟩ := hok.ints.shape
      rw [hlen] at ev
      subst ev
      obtain ⟨b, off, rfl, hb, hc⟩ := hI.at_ hlt
      have e2 := (hc k hlt).2
      have hlt' : (k : Int) < (cs.length : Int) := by omega
      have ht := gapsL_take hlt
      have Ht := Lib.hid ht
      have hrow : wr.ownsRow w.heap.size 2 1 (.slice av k cv) k (((gapsL cs).take k).map (.int .i64)) := by have h := hok; unfold OwnI at h; rwa [hlen] at h
      have hfw : Try.prog.follows Departure.mixedOrders = true := by kernel_rfl
      have hsz := hB.size
      have hlo := bO.lt
      clear hc ht
      go_wp2
      refine wp_region_held_drew (S := fun w' => Below w.heap.size w w') hfw hB.drew ?_
      intro hS0
      refine wpAnyH_take (i := 0) (v := ?v0) rfl (by kernel_rfl) (by kernel_rfl) (by kernel_rfl) (fun _ _ _ h => h) (.inl ⟨by rfl, ?y0⟩) hS0 ?_
      case y0 =>
        intro w' hS
        (have k3 := (hS.cell (p := ⟨b, off + k * 2 + 1, none⟩) hb).trans e2; clear hS)
        go_simp
        try with_reducible rfl
      refine wpAnyH_take (i := 2) (v := ?v2) rfl (by kernel_rfl) (by kernel_rfl) (by kernel_rfl) (fun _ _ _ h => h) (.inl ⟨by rfl, ?y2⟩) hS0 ?_
      case y2 =>
        intro w' hS
        (have k3 := (hS.cell (p := ⟨b, off + k * 2 + 1, none⟩) hb).trans e2; clear hS)
        go_simp
        try with_reducible rfl
      refine wpAnyH_take (i := 3) (v := ?v3) rfl (by kernel_rfl) (by kernel_rfl) (by kernel_rfl) (fun _ _ _ h => h) (.inl ⟨by rfl, ?y3⟩) hS0 ?_
      case y3 =>
        intro w' hS
        (have k3 := (hS.cell (p := ⟨b, off + k * 2 + 1, none⟩) hb).trans e2; clear hS)
        go_simp
        try with_reducible rfl
      refine wpAnyH_take (i := 4) (v := ?v4) rfl (by kernel_rfl) (by kernel_rfl) (by kernel_rfl) (fun _ _ _ h => h) (.inl ⟨by rfl, ?y4⟩) hS0 ?_
      case y4 =>
        intro w' hS
        (have k3 := (hS.cell (p := ⟨b, off + k * 2 + 1, none⟩) hb).trans e2; clear hS)
        go_simp
        try with_reducible rfl
      refine wpAnyH_take (i := 5) (v := ?v5) rfl (by kernel_rfl) (by kernel_rfl) (by kernel_rfl) (fun _ _ _ h => h) (.inl ⟨by rfl, ?y5⟩) hS0 ?_
      case y5 =>
        intro w' hS
        (have k3 := (hS.cell (p := ⟨b, off + k * 2 + 1, none⟩) hb).trans e2; clear hS)
        go_simp
        try with_reducible rfl
      refine wpAnyH_take (i := 6) (v := ?v6) rfl (by kernel_rfl) (by kernel_rfl) (by kernel_rfl) (fun _ _ _ h => h) (.inl ⟨by rfl, ?y6⟩) hS0 ?_
      case y6 =>
        intro w' hS
        (have k3 := (hS.cell (p := ⟨b, off + k * 2 + 1, none⟩) hb).trans e2; clear hS)
        go_simp
        try with_reducible rfl
      refine wpAnyH_ready (rs := [1, 7]) (by kernel_rfl) (by simp) ?_
      refine AllReadyH.cons rfl (fun K' hK' => ?_) (AllReadyH.cons rfl (fun K' hK' => ?_) AllReadyH.nil)
      · rw [if_pos (by rfl)]
        go_simp
        refine hK'.out _ _ hS0 fun hS1 => ?_
        refine wpAnyH_ready (rs := [7]) (by kernel_rfl) (by simp) ?_
        refine AllReadyH.cons rfl (fun K' hK' => ?_) AllReadyH.nil
        rw [if_pos (by rfl)]
        go_simp
        refine hK'.out _ _ (hS1.alloc hS1.size _) fun hS2 => ?_
        refine wpAnyH_ready (rs := [8]) (by kernel_rfl) (by simp) ?_
        refine AllReadyH.cons rfl (fun K' hK' => ?_) AllReadyH.nil
        rw [if_pos (by rfl)]
        refine wp_append_own _ (.tmp 16) (.tmp 22) 22 rfl w.heap.size 2 i0 (.int .i64 0) 1 8 Try.underlying22 hi hz0 hz1 hz2 rfl (by decide) _ _ _ rfl (World.ownsRow.alloc (World.ownsRow.drew hrow) _) ⟨wr.heap.size, 0, none⟩ 1 1 [.int .i64 (gp cs k)] rfl rfl (Go.cell_one_new _ _ _) (by simp [Value.oneCell']) (by unfold maxLen; omega) (by omega) (by simp; omega) ?_
        intro v' w5 hown' hgrow hfar
        have ho6 := ownI_snoc (xs := (gapsL cs).take k) (x := gp cs k) (by rw [hlen]; exact hown')
        rw [← Ht.out] at ho6
        have hb5 : ∀ j, (Value.slice av k cv).ownBlock = some j → w.heap.size ≤ j := fun j e => (hok.blk j e).1
        have hne := ownI_ne_box hok bO
        have bO5 : Boxed w5 (w.heap.size + 1) 28 (.slice av k cv) := (show Boxed (wr.alloc (.cells #[.int .i64 (gp cs k)] 2)).drew (w.heap.size + 1) 28 (.slice av k cv) from bO.alloc _).kept hgrow (fun e => hne e.symm)
        have s4 : Below w.heap.size w w5 := hS2.grown hgrow hS2.size (fun j e => by have := hb5 j e; omega)
        have cO5 := bO5.cell
        have fO5 := bO5.frozen
        obtain ⟨av', cv', ev'⟩ := ho6.ints.shape
        rw [show ((gapsL cs).take (k + 1)).length = k + 1 by rw [List.length_take, gapsL_length]; omega] at ev'
        subst ev'
        clear hown' hgrow hfar hS1 hS2 hS0 hok hrow
        refine hK'.out _ _ s4 fun hS3 => ?_
        refine wpAnyH_take (i := 9) (v := ?v9) rfl (by kernel_rfl) (by kernel_rfl) (by kernel_rfl) (fun _ _ _ h => h) (.inl ⟨by rfl, ?y9⟩) hS3 ?_
        case y9 =>
          intro w' hS
          (clear hS)
          go_simp
          try with_reducible rfl
        refine wpAnyH_ready (rs := [10]) (by kernel_rfl) (by simp) ?_
        refine AllReadyH.cons rfl (fun K' hK' => ?_) AllReadyH.nil
        rw [if_pos (by rfl)]
        go_simp
        have t6 : OwnI w.heap.size (w5.setCell ⟨w.heap.size + 1, 0, none⟩ (.slice av' (k + 1) cv')) (.slice av' (k + 1) cv') ((gapsL cs).take (k + 1)) := ho6.kept (grownBy_setCell2 _ _ _ _) (.inr (ownI_ne_box ho6 bO5))
        refine hK'.out _ _ (s4.setCell (p := ⟨w.heap.size + 1, 0, none⟩) (by show w.heap.size ≤ w.heap.size + 1; omega) _) fun hS4 => wpAnyH_done (by kernel_rfl) ?_ _
        clear s4 ho6 cO5 fO5 hS3
        go_wp2
        go_roundw
        case rel => exact ⟨k + 1, _, by omega, by simp, bO5.set _, t6, hS4⟩
        case measure => simp [intOf]; omega
      · rw [if_pos (by rfl)]
        go_simp
        refine hK'.out _ _ (hS0.alloc hS0.size _) fun hS2 => ?_
        have cOa : (wr.alloc (.cells #[.int .i64 (gp cs k)] 2)).drew.cell? ⟨w.heap.size + 1, 0, none⟩ = some (.slice av k cv) := (bO.alloc (.cells #[.int .i64 (gp cs k)] 2)).cell
        refine wpAnyH_ready (rs := [1]) (by kernel_rfl) (by simp) ?_
        refine AllReadyH.cons rfl (fun K' hK' => ?_) AllReadyH.nil
        rw [if_pos (by rfl)]
        go_simp
        refine hK'.out _ _ hS2 fun hS2b => ?_
        clear cOa hS2b
        refine wpAnyH_ready (rs := [8]) (by kernel_rfl) (by simp) ?_
        refine AllReadyH.cons rfl (fun K' hK' => ?_) AllReadyH.nil
        rw [if_pos (by rfl)]
        refine wp_append_own _ (.tmp 16) (.tmp 22) 22 rfl w.heap.size 2 i0 (.int .i64 0) 1 8 Try.underlying22 hi hz0 hz1 hz2 rfl (by decide) _ _ _ rfl (World.ownsRow.alloc (World.ownsRow.drew hrow) _) ⟨wr.heap.size, 0, none⟩ 1 1 [.int .i64 (gp cs k)] rfl rfl (Go.cell_one_new _ _ _) (by simp [Value.oneCell']) (by unfold maxLen; omega) (by omega) (by simp; omega) ?_
        intro v' w5 hown' hgrow hfar
        have ho6 := ownI_snoc (xs := (gapsL cs).take k) (x := gp cs k) (by rw [hlen]; exact hown')
        rw [← Ht.out] at ho6
        have hb5 : ∀ j, (Value.slice av k cv).ownBlock = some j → w.heap.size ≤ j := fun j e => (hok.blk j e).1
        have hne := ownI_ne_box hok bO
        have bO5 : Boxed w5 (w.heap.size + 1) 28 (.slice av k cv) := (show Boxed (wr.alloc (.cells #[.int .i64 (gp cs k)] 2)).drew (w.heap.size + 1) 28 (.slice av k cv) from bO.alloc _).kept hgrow (fun e => hne e.symm)
        have s4 : Below w.heap.size w w5 := hS2.grown hgrow hS2.size (fun j e => by have := hb5 j e; omega)
        have cO5 := bO5.cell
        have fO5 := bO5.frozen
        obtain ⟨av', cv', ev'⟩ := ho6.ints.shape
        rw [show ((gapsL cs).take (k + 1)).length = k + 1 by rw [List.length_take, gapsL_length]; omega] at ev'
        subst ev'
        clear hown' hgrow hfar hS2 hS0 hok hrow
        refine hK'.out _ _ s4 fun hS3 => ?_
        refine wpAnyH_take (i := 9) (v := ?v9) rfl (by kernel_rfl) (by kernel_rfl) (by kernel_rfl) (fun _ _ _ h => h) (.inl ⟨by rfl, ?y9⟩) hS3 ?_
        case y9 =>
          intro w' hS
          (clear hS)
          go_simp
          try with_reducible rfl
        refine wpAnyH_ready (rs := [10]) (by kernel_rfl) (by simp) ?_
        refine AllReadyH.cons rfl (fun K' hK' => ?_) AllReadyH.nil
        rw [if_pos (by rfl)]
        go_simp
        have t6 : OwnI w.heap.size (w5.setCell ⟨w.heap.size + 1, 0, none⟩ (.slice av' (k + 1) cv')) (.slice av' (k + 1) cv') ((gapsL cs).take (k + 1)) := ho6.kept (grownBy_setCell2 _ _ _ _) (.inr (ownI_ne_box ho6 bO5))
        refine hK'.out _ _ (s4.setCell (p := ⟨w.heap.size + 1, 0, none⟩) (by show w.heap.size ≤ w.heap.size + 1; omega) _) fun hS4 => wpAnyH_done (by kernel_rfl) ?_ _
        clear s4 ho6 cO5 fO5 hS3
        go_wp2
        go_roundw
        case rel => exact ⟨k + 1, _, by omega, by simp, bO5.set _, t6, hS4⟩
        case measure => simp [intOf]; omega
    · obtain rfl : k = cs.length := by omega
      rw [gapsL_all] at hok
      have hsz := hB.size
      clear hlen
      go_wp2_with fail
      refine (l01Density_c _ (gapsL cs) _ hok.ints (gapsL_ok Hcl.out)).mono ?_
      rintro e w1 ⟨rfl, hb1⟩
      have hB1 := hB.trans (hb1.mono hsz)
      have hI1 := hI.later hB1
      clear cO fO bO hok hb1
      cases hf : fullB cs
      · have He := Lib.hid (show exactB cs = false by unfold exactB; rw [hf]; rfl)
        have hn : ¬ densN (natsTo (gapsL cs) (gapsL cs).length) = densD (natsTo (gapsL cs) (gapsL cs).length) := of_decide_eq_false hf
        have hq : (((densN (natsTo (gapsL cs) (gapsL cs).length) : Nat) : Int) == ((densD (natsTo (gapsL cs) (gapsL cs).length) : Nat) : Int)) = false := by rw [beq_eq_false_iff_ne]; omega
        clear hf hn
        go_wp2
        go_ret
        exact ⟨ret_bool He.out.symm, hB1⟩
      · have He := Lib.hid (show exactB cs = apartB cs by unfold exactB; rw [hf]; rfl)
        have hn : densN (natsTo (gapsL cs) (gapsL cs).length) = densD (natsTo (gapsL cs) (gapsL cs).length) := of_decide_eq_true hf
        have hq : (((densN (natsTo (gapsL cs) (gapsL cs).length) : Nat) : Int) == ((densD (natsTo (gapsL cs) (gapsL cs).length) : Nat) : Int)) = true := by rw [hn]; exact beq_self_eq_true _
        clear hf hn
        go_wp2_with fail
        refine (l05Apart_c _ cs _ hI1 (clss_of Hcl.out) hl.2).mono ?_
        rintro e w2 ⟨rfl, hb2⟩
        go_wp2
        go_ret
        exact ⟨ret_bool He.out.symm, hB1.trans (hb2.mono hB1.size)⟩

end Go.Proofs.Ytbhpflhopajbfaa
