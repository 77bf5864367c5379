/-
  LessenGaps of both: doubling, the kinds of gaps, tasks of a kind.
  Conditions: lists of at most 1048576 elements.
-/
import Derived.Test.YtjgkdjnpbocnjaaLog
import Derived.Test.YtjgkdjnpbocnjaaRen
namespace Go.Proofs.Ytjgkdjnpbocnjaa
open Go.RowKit Go.Shelf
attribute [local go_sem] Oper.semAt_some

/-- o, doubled as long as it is at most g -/
def dblF : Nat → Int → Int → Int
  | 0, o, _ => o
  | n + 1, o, g => if 2 * o ≤ g then dblF n (2 * o) g else o
/-- a gap lessened to x -/
def les (x g : Int) : Int := dblF 64 x g
theorem dblF_step {n : Nat} {o g : Int} (h : 2 * o ≤ g) : dblF (n + 1) o g = dblF n (2 * o) g := by simp [dblF, h]
theorem dblF_stop {n : Nat} {o g : Int} (h : ¬ 2 * o ≤ g) : dblF n o g = o := by cases n <;> simp [dblF, h]
theorem dblF_le {n : Nat} {o g : Int} (h0 : 1 ≤ o) (h : o ≤ g) : o ≤ dblF n o g ∧ dblF n o g ≤ g := by
  induction n generalizing o with
  | zero => simp [dblF]; omega
  | succ n ih =>
    unfold dblF
    split
    · have := ih (o := 2 * o) (by omega) (by omega); omega
    · omega
def lesL (x : Int) (zs : List Int) : List Int := zs.map (les x)
def lesTo (x : Int) (zs : List Int) (k : Nat) : List Int := (List.range k).map fun (m : Nat) => les x (nth zs m)
theorem lesTo_zero (x : Int) (zs : List Int) : lesTo x zs 0 = [] := rfl
theorem lesTo_succ (x : Int) (zs : List Int) (k : Nat) : lesTo x zs (k + 1) = lesTo x zs k ++ [les x (nth zs k)] := by simp [lesTo, List.range_succ]
theorem lesTo_length (x : Int) (zs : List Int) (k : Nat) : (lesTo x zs k).length = k := by simp [lesTo]
def lesC (zs : List Int) (x : Int) : Int := if tasksOk zs then (if inB x 1 40 then (if leastL zs < x then 5 else 0) else 2) else 1
def lesR (zs : List Int) (x : Int) : List Int := if lesC zs x = 0 then lesTo x zs zs.length else []
theorem lesR_len (zs : List Int) (x : Int) : (lesR zs x).length * 8 ≤ 140737488351232 := by
  unfold lesR
  split
  · rename_i h
    have ht : tasksOk zs = true := by
      cases e : tasksOk zs
      · unfold lesC at h; rw [e] at h; simp at h
      · rfl
    have := tasksOk_len ht
    rw [lesTo_length]; omega
  · simp

set_option maxRecDepth 100000 in
set_option maxHeartbeats 8000000 in
theorem lessenedTo_c (x : Int) (w : World) :
    Calls Try.prog 63 #[.int .i64 x] w fun e w' => e = .returned (.func (.func 89) #[] #[.pointer (some ⟨w.heap.size, 0, none⟩)]) ∧ w' = w.alloc (.cells #[.int .i64 x] 2) := by
  have hmf : ∀ (fn : Fn) (first cap : Array Value) (w : World), (Instr.makeFunc fn first cap).run Try.prog w = .ok (.func fn first cap) w := fun _ _ _ _ => rfl
  go_enter Try.func63, Try.ntmps63
  go_wp2
  go_ret
  exact ⟨rfl, rfl⟩

set_option maxRecDepth 100000 in
set_option maxHeartbeats 8000000 in
theorem lessen1_c (bx : Nat) (x g : Int) (w : World) (hb : Boxed w bx 2 (.int .i64 x)) (hx : 1 ≤ x ∧ x ≤ 40) (hg : g ≤ 40) :
    Calls Try.prog 89 #[.int .i64 g, .pointer (some ⟨bx, 0, none⟩)] w fun e w' => e = .returned (.int .i64 (les x g)) ∧ w = w' := by
  have cx := hb.cell
  go_enter Try.func89, Try.ntmps89
  go_wp2
  go_loop [4] (fun i => ∃ (n : Nat) (o : Int), i = .int .i64 o ∧ les x g = dblF n o g ∧ 1 ≤ o ∧ o ≤ 40 ∧ 40 < o + n) (fun i => 41 - (intOf i).toNat)
  case atStart => exact ⟨64, x, rfl, rfl, hx.1, hx.2, by omega⟩
  case round =>
    obtain ⟨n, o, rfl, he, h1, h2, h3⟩ := hrel
    have He := Lib.hid he
    clear he
    by_cases hd : 2 * o ≤ g
    · obtain ⟨m, rfl⟩ : ∃ m, n = m + 1 := ⟨n - 1, by omega⟩
      have Hs := Lib.hid (dblF_step (n := m) hd)
      go_wp2
      go_round
      case rel => exact ⟨m, 2 * o, by simp; omega, by rw [He.out, Hs.out], by omega, by omega, by omega⟩
      case measure => simp [intOf]; omega
    · have Hs := Lib.hid (dblF_stop (n := n) hd)
      go_wp2
      go_ret
      exact ⟨ret_int (by rw [He.out, Hs.out]), rfl⟩

theorem gapFor_les (bx : Nat) (x g : Int) (w : World) (hb : Boxed w bx 2 (.int .i64 x)) (hx : 1 ≤ x ∧ x ≤ 40) (hg : g ≤ 40) :
    Calls Try.prog 161 #[.func (.func 89) #[] #[.pointer (some ⟨bx, 0, none⟩)], .int .i64 g] w fun e w' => e = .returned (.int .i64 (les x g)) ∧ w = w' := by
  go_enter Try.func161, Try.ntmps161
  go_wp2_with fail
  refine (lessen1_c bx x g w hb hx hg).mono ?_
  rintro e w' ⟨rfl, rfl⟩
  go_wp2
  go_ret
  exact ⟨rfl, rfl⟩

theorem gapFor_own (g : Int) (w : World) :
    Calls Try.prog 160 #[.agg #[], .int .i64 g] w fun e w' => e = .returned (.int .i64 g) ∧ Below w.heap.size w w' := by
  go_enter Try.func160, Try.ntmps160
  go_wp2
  go_ret
  exact ⟨rfl, (Below.refl _ w).alloc (Nat.le_refl _) _⟩

set_option maxRecDepth 100000 in
set_option maxHeartbeats 8000000 in
theorem tasksOfKind_les (c0 : Value) (zs : List Int) (bx : Nat) (x : Int) (w : World) (hI : Ints w.heap.size w c0 zs) (hl : zs.length ≤ 1048576) (hb : Boxed w bx 2 (.int .i64 x)) (hx : 1 ≤ x ∧ x ≤ 40) (hg : ∀ k, k < zs.length → nth zs k ≤ 40) :
    Calls Try.prog 88 #[.agg #[c0], .iface 89 (.func (.func 89) #[] #[.pointer (some ⟨bx, 0, none⟩)])] w (GivesI w (lesTo x zs zs.length) fun v => .agg #[v]) := by
  obtain ⟨i0, hi, hz0, hz1, hz2⟩ := info_parts Try.infoI2
  obtain ⟨a, cap, rfl⟩ := hI.shape
  refine (callsIn_wide (n := 9)).1 ?_
  refine callsIn_of_wp_marks Try.func88 rfl trivial ?_ rfl
  simp only [Try.ntmps88, List.size_toArray, List.length_cons, List.length_nil, Nat.reduceAdd, Nat.reduceSub, Array.replicate_succ, Array.replicate_zero, List.push_toArray, List.append_toArray, List.nil_append, List.cons_append]
  have hB0 : Below w.heap.size w ((((w.alloc (.cells #[.slice a zs.length cap] 39)).alloc (.cells #[.iface 89 (.func (.func 89) #[] #[.pointer (some ⟨bx, 0, none⟩)])] 118)).alloc (.cells #[.slice none 0 0] 39)).alloc (.cells #[.slice none 0 0] 22)) :=
    ((((Below.refl _ w).alloc (Nat.le_refl _) _).alloc (by simp; try omega) _).alloc (by simp; try omega) _).alloc (by simp; try omega) _
  gi_wp2_with (first | (gi_at_call 67; refine (callsIn_wide.2 (numbered_c _ _ _ _)).mono ?_; rintro e w' ⟨rfl, rfl⟩) | (refine ⟨trivial, ?_⟩; gi_at_call 67; refine (callsIn_wide.2 (numbered_c _ _ _ _)).mono ?_; rintro e w' ⟨rfl, rfl⟩))
  obtain ⟨W0, hW0⟩ : ∃ W0, (((((w.alloc (.cells #[.slice a zs.length cap] 39)).alloc (.cells #[.iface 89 (.func (.func 89) #[] #[.pointer (some ⟨bx, 0, none⟩)])] 118)).alloc (.cells #[.slice none 0 0] 39)).alloc (.cells #[.slice none 0 0] 22)).alloc (.cells #[.slice a zs.length cap] 22)) = W0 := ⟨_, rfl⟩
  have hB0 : Below w.heap.size w W0 := by rw [← hW0]; exact ((((((Below.refl _ w).alloc (Nat.le_refl _) _).alloc (by simp; try omega) _).alloc (by simp; try omega) _).alloc (by simp; try omega) _).alloc (by simp; try omega) _)
  have hs0 : w.heap.size + 5 ≤ W0.heap.size := by rw [← hW0]; simp
  have bT : Boxed W0 (w.heap.size) 39 (.slice a zs.length cap) := by rw [← hW0]; repeat first | (refine boxed_at ?_; (simp; done)) | refine Boxed.alloc ?_ _
  have bK : Boxed W0 (w.heap.size + 1) 118 (.iface 89 (.func (.func 89) #[] #[.pointer (some ⟨bx, 0, none⟩)])) := by rw [← hW0]; repeat first | (refine boxed_at ?_; (simp; done)) | refine Boxed.alloc ?_ _
  have bQ : Boxed W0 (w.heap.size + 1 + 1) 39 (.slice none 0 0) := by rw [← hW0]; repeat first | (refine boxed_at ?_; (simp; done)) | refine Boxed.alloc ?_ _
  have bG : Boxed W0 (w.heap.size + 1 + 1 + 1) 22 (.slice none 0 0) := by rw [← hW0]; repeat first | (refine boxed_at ?_; (simp; done)) | refine Boxed.alloc ?_ _
  have bN : Boxed W0 (w.heap.size + 1 + 1 + 1 + 1) 22 (.slice a zs.length cap) := by rw [← hW0]; repeat first | (refine boxed_at ?_; (simp; done)) | refine Boxed.alloc ?_ _
  rw [hW0]
  clear hW0
  obtain ⟨top, htop⟩ : ∃ top, W0.heap.size + 2 + 0 = top := ⟨_, rfl⟩
  have Htop := Lib.hid htop
  have hbl := hb.lt
  refine range_outA rfl (by omega) rfl trivial (enters_of Try.func90 (by kernel_rfl) rfl) (numbered_at Fence.wide 8 trivial rfl (by omega) _ w.heap.size _ zs (by omega) W0 bN (by omega) (hI.below hB0)) (fun b hb => by omega) (fun _ => rfl)
    (fun k W => (∃ v, Boxed W (w.heap.size + 1 + 1 + 1) 22 v ∧ OwnI top W v (lesTo x zs k)) ∧ Boxed W (w.heap.size + 1) 118 (.iface 89 (.func (.func 89) #[] #[.pointer (some ⟨bx, 0, none⟩)])) ∧ Boxed W (w.heap.size + 1 + 1) 39 (.slice none 0 0) ∧ Below w.heap.size w W ∧ (k = 0 ∨ top ≤ W.heap.size))
    (fun _ _ _ => False)
    (OwnFrom.and (Own.from (boxRow_Own _ _ _ _) _) (OwnFrom.and (Own.from (boxed_own _ _ _) _) (OwnFrom.and (Own.from (boxed_own _ _ _) _) (OwnFrom.and (ownFrom_below (Nat.le_refl _) (by omega)) (ownFrom_size _ _)))))
    (fun _ _ _ _ _ hs _ _ => hs)
    ⟨⟨_, bG, ownI_nil _ _⟩, bK, bQ, hB0, .inl rfl⟩ ?a1 ?assign ?body ?done ?stop
  case assign =>
    intro l k W K hk hK
    simp only [numAt]
    gi_wp2
    exact hK
  case body =>
    rintro l k W hl2 hr ⟨⟨v, bG1, ho1⟩, bK1, bQ1, hB1, _⟩ hlt hsW
    have hsW2 : top ≤ W.heap.size := by omega
    have hbnd : ∀ j, top ≤ j → ¬ (Band (fun b => b < w.heap.size) W0.heap.size (W0.heap.size + 2 + 0)) j := fun j hj hx => by
      rcases hx with hx | hx
      · have : j < w.heap.size := hx
        omega
      · omega
    have Hbd := Lib.hid hbnd
    have Hn := Lib.hid (not_band (n := w.heap.size) (lo := W0.heap.size) (hi := W0.heap.size + 2 + 0) (b := (w.heap.size + 1 + 1 + 1)) (by omega) (by omega))
    have hwt : w.heap.size + 5 ≤ top := by omega
    clear htop hbnd hsW
    obtain ⟨av, cv, ev⟩ := ho1.ints.shape
    rw [lesTo_length] at ev
    subst ev
    have hrow : W.ownsRow top 2 1 (.slice av k cv) k ((lesTo x zs k).map (.int .i64)) := by have h := ho1; unfold OwnI at h; rwa [lesTo_length] at h
    have Hsu := Lib.hid (lesTo_succ x zs k)
    have hbx : Boxed W.drew bx 2 (.int .i64 x) := boxed_below hb hB1.drew hbl
    have hgk := (hg k hlt)
    have cG := bG1.cell
    have fG := bG1.frozen
    have cK := bK1.cell
    have hfw : Try.prog.follows Departure.mixedOrders = true := by kernel_rfl
    gi_wp2_with fail
    refine wpIn_region_held (S := fun w' => Boxed w' (w.heap.size + 1) 118 (.iface 89 (.func (.func 89) #[] #[.pointer (some ⟨bx, 0, none⟩)])) ∧ Boxed w' (w.heap.size + 1 + 1) 39 (.slice none 0 0) ∧ Below w.heap.size w w' ∧ Kps (Band (fun b => b < w.heap.size) W0.heap.size (W0.heap.size + 2 + 0)) W w') hfw (by kernel_rfl) (fun ⟨_, _, h⟩ => h) ⟨bK1, bQ1, hB1.drew, ⟨Nat.le_refl _, fun _ _ _ => rfl⟩⟩ ?_
    intro hS0
    refine wpAnyH_take (i := 1) (v := ?v1) rfl (by kernel_rfl) (by kernel_rfl) (by kernel_rfl) (fun _ _ _ h => h) (.inl ⟨by rfl, ?y1⟩) hS0 ?_
    case y1 =>
      intro w' hS
      (have k1 := hS.1.cell; clear hS)
      go_simp
      try with_reducible rfl
    refine wpAnyH_take (i := 2) (v := ?v2) rfl (by kernel_rfl) (by kernel_rfl) (by kernel_rfl) (fun _ _ _ h => h) (.inl ⟨by rfl, ?y2⟩) hS0 ?_
    case y2 =>
      intro w' hS
      (have k1 := hS.1.cell; clear hS)
      go_simp
      try with_reducible rfl
    refine wpAnyH_ready (rs := [0, 3]) (by kernel_rfl) (by simp) ?_
    refine AllReadyH.cons rfl (fun K' hK' => ?_) (AllReadyH.cons rfl (fun K' hK' => ?_) AllReadyH.nil)
    · rw [if_pos (by rfl)]
      go_simp
      refine hK'.out _ _ hS0 fun hS9 => ?_
      clear hS9
      refine wpAnyH_ready (rs := [3]) (by kernel_rfl) (by simp) ?_
      refine AllReadyH.cons rfl (fun K' hK' => ?_) AllReadyH.nil
      rw [if_pos (by rfl)]
      go_simp
      refine (gapFor_les bx x (nth zs k) _ hbx hx hgk).mono ?_
      rintro e w9 ⟨rfl, rfl⟩
      refine hK'.out _ _ hS0 fun hS8 => ?_
      clear hS8
      refine wpAnyH_ready (rs := [4]) (by kernel_rfl) (by simp) ?_
      refine AllReadyH.cons rfl (fun K' hK' => ?_) AllReadyH.nil
      rw [if_pos (by rfl)]
      go_simp
      have hS1 := show _ ∧ _ ∧ _ ∧ _ from ⟨hS0.1.alloc (.cells #[.int .i64 (les x (nth zs k))] 2), hS0.2.1.alloc (.cells #[.int .i64 (les x (nth zs k))] 2), hS0.2.2.1.alloc hS0.2.2.1.size (.cells #[.int .i64 (les x (nth zs k))] 2), hS0.2.2.2.trans (Kps.alloc _ _ (.cells #[.int .i64 (les x (nth zs k))] 2))⟩
      refine hK'.out _ _ hS1 fun hS7 => ?_
      clear hS7
      refine wpAnyH_ready (rs := [5]) (by kernel_rfl) (by simp) ?_
      refine AllReadyH.cons rfl (fun K' hK' => ?_) AllReadyH.nil
      rw [if_pos (by rfl)]
      refine wp_append_own _ (.tmp 13) (.tmp 17) 22 rfl top 2 i0 (.int .i64 0) 1 8 Try.underlying22 hi hz0 hz1 hz2 rfl (by decide) _ _ _ rfl (World.ownsRow.alloc (World.ownsRow.drew hrow) _) ⟨W.heap.size, 0, none⟩ 1 1 [.int .i64 (les x (nth zs k))] rfl rfl (Go.cell_one_new _ _ _) (by simp [Value.oneCell']) (by unfold maxLen; omega) (by omega) (by simp; omega) ?_
      intro v' w5 hown' hgrow hfar
      have ho6 := ownI_snoc (xs := lesTo x zs k) (x := les x (nth zs k)) (by rw [lesTo_length]; exact hown')
      rw [← Hsu.out] at ho6
      obtain ⟨av', cv', ev'⟩ := ho6.ints.shape
      rw [lesTo_length] at ev'
      subst ev'
      have hb5 : ∀ j, (Value.slice av k cv).ownBlock = some j → top ≤ j := fun j e => (ho1.blk j e).1
      have bO5 : Boxed w5 (w.heap.size + 1 + 1 + 1) 22 (.slice av k cv) := (show Boxed ((W.alloc (.cells #[.int .i64 (les x (nth zs k))] 2)).drew) (w.heap.size + 1 + 1 + 1) 22 (.slice av k cv) from bG1.alloc _).kept hgrow (fun e => by have := hb5 _ e.symm; omega)
      have s1 := hS1.1.kept hgrow (fun e => by have := hb5 _ e.symm; omega)
      have s4 := hS1.2.1.kept hgrow (fun e => by have := hb5 _ e.symm; omega)
      have s2 : Below w.heap.size w w5 := hS1.2.2.1.grown hgrow hS1.2.2.1.size (fun j e => by have := hb5 j e; omega)
      have s3 : Kps (Band (fun b => b < w.heap.size) W0.heap.size (W0.heap.size + 2 + 0)) W w5 := hS1.2.2.2.trans (Kps.grown hgrow (fun j e => Hbd.out j (hb5 j e)))
      have hsz5 : top ≤ w5.heap.size := Nat.le_trans hsW2 s3.size
      have cO5 := bO5.cell
      have fO5 := bO5.frozen
      clear hown' hgrow hfar hS1 hS0 hrow
      refine hK'.out _ _ ⟨s1, s4, s2, s3⟩ fun hS3 => ?_
      refine wpAnyH_ready (rs := [6]) (by kernel_rfl) (by simp) ?_
      refine AllReadyH.cons rfl (fun K' hK' => ?_) AllReadyH.nil
      rw [if_pos (by rfl)]
      go_simp
      have t6 : OwnI top (w5.setCell ⟨(w.heap.size + 1 + 1 + 1), 0, none⟩ (.slice av' (k + 1) cv')) (.slice av' (k + 1) cv') (lesTo x zs (k + 1)) := ho6.kept (grownBy_setCell2 _ _ _ _) (.inr (fun e => by have := (ho6.blk _ e).1; omega))
      have t7 : Kps (Band (fun b => b < w.heap.size) W0.heap.size (W0.heap.size + 2 + 0)) W (w5.setCell ⟨(w.heap.size + 1 + 1 + 1), 0, none⟩ (.slice av' (k + 1) cv')) := s3.trans (Kps.setCell _ _ _ _ (Hn.out))
      refine hK'.out _ _ ⟨boxed_setFar s1 (by omega), boxed_setFar s4 (by omega), s2.setCell (p := ⟨(w.heap.size + 1 + 1 + 1), 0, none⟩) (by show w.heap.size ≤ (w.heap.size + 1 + 1 + 1); omega) _, t7⟩ fun hS4 => wpAnyH_done (by kernel_rfl) ?_ _
      exact ⟨t7, ⟨⟨_, bO5.set _, t6⟩, hS4.1, hS4.2.1, hS4.2.2.1, .inr (by simpa using hsz5)⟩⟩
    · rw [if_pos (by rfl)]
      go_simp
      refine (gapFor_les bx x (nth zs k) _ hbx hx hgk).mono ?_
      rintro e w9 ⟨rfl, rfl⟩
      refine hK'.out _ _ hS0 fun hS8 => ?_
      clear hS8
      refine wpAnyH_ready (rs := [0, 4]) (by kernel_rfl) (by simp) ?_
      refine AllReadyH.cons rfl (fun K' hK' => ?_) (AllReadyH.cons rfl (fun K' hK' => ?_) AllReadyH.nil)
      · rw [if_pos (by rfl)]
        go_simp
        refine hK'.out _ _ hS0 fun hS9 => ?_
        clear hS9
        refine wpAnyH_ready (rs := [4]) (by kernel_rfl) (by simp) ?_
        refine AllReadyH.cons rfl (fun K' hK' => ?_) AllReadyH.nil
        rw [if_pos (by rfl)]
        go_simp
        have hS1 := show _ ∧ _ ∧ _ ∧ _ from ⟨hS0.1.alloc (.cells #[.int .i64 (les x (nth zs k))] 2), hS0.2.1.alloc (.cells #[.int .i64 (les x (nth zs k))] 2), hS0.2.2.1.alloc hS0.2.2.1.size (.cells #[.int .i64 (les x (nth zs k))] 2), hS0.2.2.2.trans (Kps.alloc _ _ (.cells #[.int .i64 (les x (nth zs k))] 2))⟩
        refine hK'.out _ _ hS1 fun hS7 => ?_
        clear hS7
        refine wpAnyH_ready (rs := [5]) (by kernel_rfl) (by simp) ?_
        refine AllReadyH.cons rfl (fun K' hK' => ?_) AllReadyH.nil
        rw [if_pos (by rfl)]
        refine wp_append_own _ (.tmp 13) (.tmp 17) 22 rfl top 2 i0 (.int .i64 0) 1 8 Try.underlying22 hi hz0 hz1 hz2 rfl (by decide) _ _ _ rfl (World.ownsRow.alloc (World.ownsRow.drew hrow) _) ⟨W.heap.size, 0, none⟩ 1 1 [.int .i64 (les x (nth zs k))] rfl rfl (Go.cell_one_new _ _ _) (by simp [Value.oneCell']) (by unfold maxLen; omega) (by omega) (by simp; omega) ?_
        intro v' w5 hown' hgrow hfar
        have ho6 := ownI_snoc (xs := lesTo x zs k) (x := les x (nth zs k)) (by rw [lesTo_length]; exact hown')
        rw [← Hsu.out] at ho6
        obtain ⟨av', cv', ev'⟩ := ho6.ints.shape
        rw [lesTo_length] at ev'
        subst ev'
        have hb5 : ∀ j, (Value.slice av k cv).ownBlock = some j → top ≤ j := fun j e => (ho1.blk j e).1
        have bO5 : Boxed w5 (w.heap.size + 1 + 1 + 1) 22 (.slice av k cv) := (show Boxed ((W.alloc (.cells #[.int .i64 (les x (nth zs k))] 2)).drew) (w.heap.size + 1 + 1 + 1) 22 (.slice av k cv) from bG1.alloc _).kept hgrow (fun e => by have := hb5 _ e.symm; omega)
        have s1 := hS1.1.kept hgrow (fun e => by have := hb5 _ e.symm; omega)
        have s4 := hS1.2.1.kept hgrow (fun e => by have := hb5 _ e.symm; omega)
        have s2 : Below w.heap.size w w5 := hS1.2.2.1.grown hgrow hS1.2.2.1.size (fun j e => by have := hb5 j e; omega)
        have s3 : Kps (Band (fun b => b < w.heap.size) W0.heap.size (W0.heap.size + 2 + 0)) W w5 := hS1.2.2.2.trans (Kps.grown hgrow (fun j e => Hbd.out j (hb5 j e)))
        have hsz5 : top ≤ w5.heap.size := Nat.le_trans hsW2 s3.size
        have cO5 := bO5.cell
        have fO5 := bO5.frozen
        clear hown' hgrow hfar hS1 hS0 hrow
        refine hK'.out _ _ ⟨s1, s4, s2, s3⟩ fun hS3 => ?_
        refine wpAnyH_ready (rs := [6]) (by kernel_rfl) (by simp) ?_
        refine AllReadyH.cons rfl (fun K' hK' => ?_) AllReadyH.nil
        rw [if_pos (by rfl)]
        go_simp
        have t6 : OwnI top (w5.setCell ⟨(w.heap.size + 1 + 1 + 1), 0, none⟩ (.slice av' (k + 1) cv')) (.slice av' (k + 1) cv') (lesTo x zs (k + 1)) := ho6.kept (grownBy_setCell2 _ _ _ _) (.inr (fun e => by have := (ho6.blk _ e).1; omega))
        have t7 : Kps (Band (fun b => b < w.heap.size) W0.heap.size (W0.heap.size + 2 + 0)) W (w5.setCell ⟨(w.heap.size + 1 + 1 + 1), 0, none⟩ (.slice av' (k + 1) cv')) := s3.trans (Kps.setCell _ _ _ _ (Hn.out))
        refine hK'.out _ _ ⟨boxed_setFar s1 (by omega), boxed_setFar s4 (by omega), s2.setCell (p := ⟨(w.heap.size + 1 + 1 + 1), 0, none⟩) (by show w.heap.size ≤ (w.heap.size + 1 + 1 + 1); omega) _, t7⟩ fun hS4 => wpAnyH_done (by kernel_rfl) ?_ _
        exact ⟨t7, ⟨⟨_, bO5.set _, t6⟩, hS4.1, hS4.2.1, hS4.2.2.1, .inr (by simpa using hsz5)⟩⟩
      · rw [if_pos (by rfl)]
        go_simp
        have hS1 := show _ ∧ _ ∧ _ ∧ _ from ⟨hS0.1.alloc (.cells #[.int .i64 (les x (nth zs k))] 2), hS0.2.1.alloc (.cells #[.int .i64 (les x (nth zs k))] 2), hS0.2.2.1.alloc hS0.2.2.1.size (.cells #[.int .i64 (les x (nth zs k))] 2), hS0.2.2.2.trans (Kps.alloc _ _ (.cells #[.int .i64 (les x (nth zs k))] 2))⟩
        refine hK'.out _ _ hS1 fun hS7 => ?_
        clear hS7
        have cG2 : (W.alloc (.cells #[.int .i64 (les x (nth zs k))] 2)).drew.cell? ⟨(w.heap.size + 1 + 1 + 1), 0, none⟩ = some (.slice av k cv) := (bG1.alloc (.cells #[.int .i64 (les x (nth zs k))] 2)).cell
        refine wpAnyH_ready (rs := [0]) (by kernel_rfl) (by simp) ?_
        refine AllReadyH.cons rfl (fun K' hK' => ?_) AllReadyH.nil
        rw [if_pos (by rfl)]
        go_simp
        refine hK'.out _ _ hS1 fun hS9 => ?_
        clear hS9
        refine wpAnyH_ready (rs := [5]) (by kernel_rfl) (by simp) ?_
        refine AllReadyH.cons rfl (fun K' hK' => ?_) AllReadyH.nil
        rw [if_pos (by rfl)]
        refine wp_append_own _ (.tmp 13) (.tmp 17) 22 rfl top 2 i0 (.int .i64 0) 1 8 Try.underlying22 hi hz0 hz1 hz2 rfl (by decide) _ _ _ rfl (World.ownsRow.alloc (World.ownsRow.drew hrow) _) ⟨W.heap.size, 0, none⟩ 1 1 [.int .i64 (les x (nth zs k))] rfl rfl (Go.cell_one_new _ _ _) (by simp [Value.oneCell']) (by unfold maxLen; omega) (by omega) (by simp; omega) ?_
        intro v' w5 hown' hgrow hfar
        have ho6 := ownI_snoc (xs := lesTo x zs k) (x := les x (nth zs k)) (by rw [lesTo_length]; exact hown')
        rw [← Hsu.out] at ho6
        obtain ⟨av', cv', ev'⟩ := ho6.ints.shape
        rw [lesTo_length] at ev'
        subst ev'
        have hb5 : ∀ j, (Value.slice av k cv).ownBlock = some j → top ≤ j := fun j e => (ho1.blk j e).1
        have bO5 : Boxed w5 (w.heap.size + 1 + 1 + 1) 22 (.slice av k cv) := (show Boxed ((W.alloc (.cells #[.int .i64 (les x (nth zs k))] 2)).drew) (w.heap.size + 1 + 1 + 1) 22 (.slice av k cv) from bG1.alloc _).kept hgrow (fun e => by have := hb5 _ e.symm; omega)
        have s1 := hS1.1.kept hgrow (fun e => by have := hb5 _ e.symm; omega)
        have s4 := hS1.2.1.kept hgrow (fun e => by have := hb5 _ e.symm; omega)
        have s2 : Below w.heap.size w w5 := hS1.2.2.1.grown hgrow hS1.2.2.1.size (fun j e => by have := hb5 j e; omega)
        have s3 : Kps (Band (fun b => b < w.heap.size) W0.heap.size (W0.heap.size + 2 + 0)) W w5 := hS1.2.2.2.trans (Kps.grown hgrow (fun j e => Hbd.out j (hb5 j e)))
        have hsz5 : top ≤ w5.heap.size := Nat.le_trans hsW2 s3.size
        have cO5 := bO5.cell
        have fO5 := bO5.frozen
        clear hown' hgrow hfar hS1 hS0 hrow
        refine hK'.out _ _ ⟨s1, s4, s2, s3⟩ fun hS3 => ?_
        refine wpAnyH_ready (rs := [6]) (by kernel_rfl) (by simp) ?_
        refine AllReadyH.cons rfl (fun K' hK' => ?_) AllReadyH.nil
        rw [if_pos (by rfl)]
        go_simp
        have t6 : OwnI top (w5.setCell ⟨(w.heap.size + 1 + 1 + 1), 0, none⟩ (.slice av' (k + 1) cv')) (.slice av' (k + 1) cv') (lesTo x zs (k + 1)) := ho6.kept (grownBy_setCell2 _ _ _ _) (.inr (fun e => by have := (ho6.blk _ e).1; omega))
        have t7 : Kps (Band (fun b => b < w.heap.size) W0.heap.size (W0.heap.size + 2 + 0)) W (w5.setCell ⟨(w.heap.size + 1 + 1 + 1), 0, none⟩ (.slice av' (k + 1) cv')) := s3.trans (Kps.setCell _ _ _ _ (Hn.out))
        refine hK'.out _ _ ⟨boxed_setFar s1 (by omega), boxed_setFar s4 (by omega), s2.setCell (p := ⟨(w.heap.size + 1 + 1 + 1), 0, none⟩) (by show w.heap.size ≤ (w.heap.size + 1 + 1 + 1); omega) _, t7⟩ fun hS4 => wpAnyH_done (by kernel_rfl) ?_ _
        exact ⟨t7, ⟨⟨_, bO5.set _, t6⟩, hS4.1, hS4.2.1, hS4.2.2.1, .inr (by simpa using hsz5)⟩⟩
  case done =>
    rintro D W hD ⟨⟨v, bG1, ho1⟩, bK1, bQ1, hB1, htp⟩ hK
    have cG := bG1.cell
    have cQ := bQ1.cell
    have fQ := bQ1.frozen
    obtain ⟨av, cv, ev⟩ := ho1.ints.shape
    rw [lesTo_length] at ev
    subst ev
    gi_wp2
    have hK' := (KeepsOthers.setCell W ⟨w.heap.size + 1 + 1, 0, none⟩ (.slice av zs.length cv)).same D _ hK rfl
    have k1 := (boxed_shut (bQ1.set (.slice av zs.length cv)) hK').cell
    have ho9 : OwnI w.heap.size (W.setCell ⟨w.heap.size + 1 + 1, 0, none⟩ (.slice av zs.length cv)) (.slice av zs.length cv) (lesTo x zs zs.length) := (ho1.kept (grownBy_setCell2 _ _ _ _) (.inr (fun e => by have := (ho1.blk _ e).1; omega))).base (by omega)
    exact retM1 hK' ⟨.agg #[.slice av zs.length cv], by simp [results, Try.f88, go_sem, k1], _, rfl, ho9.shut hK', below_shut (hB1.setCell (p := ⟨w.heap.size + 1 + 1, 0, none⟩) (by show w.heap.size ≤ w.heap.size + 1 + 1; omega) _) (by omega)⟩
  case stop =>
    rintro D c k W hD hk h
    exact h.elim

end Go.Proofs.Ytjgkdjnpbocnjaa
