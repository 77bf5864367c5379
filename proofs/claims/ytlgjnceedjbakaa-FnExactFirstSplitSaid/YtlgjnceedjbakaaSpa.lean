/-
  Tasks on a channel: partL; tasksOnChannel, l08Alone.
  Conditions: at most 8 tasks.
-/
import Derived.Test.YtlgjnceedjbakaaApr
import Derived.Test.YtlgjnceedjbakaaTopS
namespace Go.Proofs.Ytlgjnceedjbakaa
open Go.RowKit Go.Shelf
attribute [local go_sem] Oper.semAt_some

/-! ### mathematics -/
/-- the gaps of the first k tasks of a split that are on the channel c -/
def partTo (zs sp : List Int) (c : Int) (k : Nat) : List Int := (slotsTo sp c k).map fun j => nth zs j
def partL (zs sp : List Int) (c : Int) : List Int := partTo zs sp c sp.length
theorem partTo_zero (zs sp : List Int) (c : Int) : partTo zs sp c 0 = [] := rfl
theorem partTo_yes {zs sp : List Int} {c : Int} {k : Nat} (h : nth sp k = c) : partTo zs sp c (k + 1) = partTo zs sp c k ++ [nth zs k] := by unfold partTo; rw [slotsTo_yes h]; simp
theorem partTo_no {zs sp : List Int} {c : Int} {k : Nat} (h : nth sp k ≠ c) : partTo zs sp c (k + 1) = partTo zs sp c k := by unfold partTo; rw [slotsTo_no h]
theorem partTo_len (zs sp : List Int) (c : Int) (k : Nat) : (partTo zs sp c k).length ≤ k := by
  have := List.length_filter_le (fun j => nth sp j == c) (List.range k)
  simpa [partTo, slotsTo] using this
theorem cntP_snoc (xs : List Int) (x : Int) {k : Nat} (h : k ≤ xs.length) : cntP (xs ++ [x]) k = cntP xs k := by
  induction k with
  | zero => rfl
  | succ k ih =>
    simp only [cntP]
    rw [ih (by omega)]
    have : nth (xs ++ [x]) k = nth xs k := by unfold nth; rw [List.getElem?_append_left (by omega)]
    rw [this]
theorem cntL_snoc (xs : List Int) (x : Int) : cntL (xs ++ [x]) = cntL xs * x := by
  unfold cntL
  rw [List.length_append, List.length_singleton]
  simp only [cntP]
  rw [cntP_snoc xs x (Nat.le_refl _)]
  congr 1
  simp [nth]
theorem partTo_cnt {zs : List Int} (hp : Pos zs) (sp : List Int) (c : Int) {k : Nat} (hk : k ≤ zs.length) : 1 ≤ cntL (partTo zs sp c k) ∧ cntL (partTo zs sp c k) ≤ cntP zs k := by
  induction k with
  | zero => rw [partTo_zero]; exact ⟨Int.le_refl _, Int.le_refl _⟩
  | succ k ih =>
    obtain ⟨h1, h2⟩ := ih (by omega)
    have hz := hp k (by omega)
    by_cases e : nth sp k = c
    · rw [partTo_yes e, cntL_snoc]
      simp only [cntP]
      exact ⟨by have := Int.mul_le_mul h1 hz (by omega) (by omega); omega, Int.mul_le_mul_of_nonneg_right h2 (by omega)⟩
    · rw [partTo_no e]
      simp only [cntP]
      refine ⟨h1, ?_⟩
      have := Int.mul_le_mul_of_nonneg_left hz (show 0 ≤ cntP zs k by omega)
      omega
theorem cntP_mono {zs : List Int} (hp : Pos zs) {j k : Nat} (h : j ≤ k) (hk : k ≤ zs.length) : cntP zs j ≤ cntP zs k := by
  induction k with
  | zero => obtain rfl : j = 0 := by omega
            exact Int.le_refl _
  | succ k ih =>
    by_cases e : j = k + 1
    · subst e; exact Int.le_refl _
    · have h1 := ih (by omega) (by omega)
      have h2 := cntP_pos hp (k := k) (by omega)
      have h3 := hp k (by omega)
      simp only [cntP]
      have := Int.mul_le_mul_of_nonneg_left h3 (show 0 ≤ cntP zs k by omega)
      omega
theorem partL_few {zs sp : List Int} (ht : tasksOk zs = true) (c : Int) (hl : sp.length ≤ zs.length) : cntL (partL zs sp c) ≤ cntL zs := by
  have hp := pos_of ht
  have h1 := (partTo_cnt hp sp c hl).2
  have h2 := cntP_mono hp hl (Nat.le_refl _)
  unfold partL
  unfold cntL at *
  omega
theorem partL_ok {zs sp : List Int} (ht : tasksOk zs = true) (c : Int) (hl : sp.length ≤ zs.length) (hc : c ∈ sp) : tasksOk (partL zs sp c) = true := by
  have hb := tasksOk_len ht
  have h1 : ∀ z ∈ partL zs sp c, 1 ≤ z ∧ z ≤ 40 := by
    intro z hz
    unfold partL partTo at hz
    obtain ⟨j, hj, rfl⟩ := List.mem_map.1 hz
    exact tasksOk_nth ht (by have := slotsTo_lt hj; omega)
  have h2 : 1 ≤ (partL zs sp c).length := by
    obtain ⟨j, hj, e⟩ := List.getElem_of_mem hc
    have : j ∈ slotsTo sp c sp.length := by simp [slotsTo, hj, nth, e]
    unfold partL partTo
    rw [List.length_map]
    exact List.length_pos_of_mem this
  have h3 := partTo_len zs sp c sp.length
  unfold tasksOk
  rw [Bool.and_eq_true, List.all_eq_true, inB_true]
  exact ⟨fun z hz => inB_true.2 (h1 z hz), by omega, by have : (partL zs sp c).length ≤ sp.length := h3; omega⟩

/-! ### the program -/
theorem ownI_one8 (w : World) (x : Int) : OwnI w.heap.size (w.alloc (.cells #[.int .i64 x] 2)) (.slice (some ⟨w.heap.size, 0, none⟩) 1 1) [x] :=
  ⟨rfl, .inr ⟨w.heap.size, 1, _, rfl, Nat.le_refl _, World.alloc_heap_new w _, Nat.le_refl _, by unfold maxLen; omega, rfl, rfl⟩⟩
theorem part_take {zs sp : List Int} {c : Int} {n : Nat} (hn : n < (slotsL sp c).length) : ((slotsL sp c).take (n + 1)).map (fun j => nth zs j) = ((slotsL sp c).take n).map (fun j => nth zs j) ++ [nth zs (slotN sp c n)] := by
  have : (slotsL sp c)[n]? = some (slotN sp c n) := by unfold slotN; rw [List.getElem?_eq_getElem hn]; rfl
  rw [List.take_add_one, this]; simp

set_option maxRecDepth 100000 in
set_option maxHeartbeats 16000000 in
theorem tasksOnChannel_c (c0 c1 : Value) (zs sp : List Int) (c : Int) (w : World) (hI : Ints w.heap.size w c0 zs) (hS : Ints w.heap.size w c1 sp) (hz : zs.length ≤ 8) (hl : sp.length ≤ zs.length) :
    Calls Try.prog 113 #[.agg #[c0], c1, .int .i64 c] w (GivesI w (partL zs sp c) fun v => .agg #[v]) := by
  obtain ⟨i0, hi, hz0, hz1, hz2⟩ := info_parts Try.infoI
  have hfw : Try.prog.follows Departure.mixedOrders = true := by kernel_rfl
  obtain ⟨a, cap, rfl⟩ := hI.shape
  obtain ⟨a1, cap1, rfl⟩ := hS.shape
  have HI := Lib.hid hI
  have HS := Lib.hid hS
  clear hI hS
  refine (callsIn_wide (n := 9)).1 ?_
  refine callsIn_of_wp_marks Try.func113 rfl trivial ?_ rfl
  simp only [Try.ntmps113, List.size_toArray, List.length_cons, List.length_nil, Nat.reduceAdd, Nat.reduceSub, Array.replicate_succ, Array.replicate_zero, List.push_toArray, List.append_toArray, List.nil_append, List.cons_append]
  gi_wp2_with fail
  refine ⟨trivial, (callsIn_wide.2 (slotsOf_c _ _ _ _ _)).mono ?_⟩
  rintro e w' ⟨rfl, rfl⟩
  obtain ⟨W0, hW0⟩ : ∃ W0, (((((w.alloc (.cells #[.slice a zs.length cap] 42)).alloc (.cells #[.slice none 0 0] 42)).alloc (.cells #[.slice none 0 0] 37)).alloc (.cells #[.slice a1 sp.length cap1] 37)).alloc (.cells #[.int .i64 c] 2)) = W0 := ⟨_, rfl⟩
  have hB0 : Below w.heap.size w W0 := by rw [← hW0]; exact ((((((Below.refl _ w).alloc (Nat.le_refl _) _).alloc (by simp; try omega) _).alloc (by simp; try omega) _).alloc (by simp; try omega) _).alloc (by simp; try omega) _)
  have hs0 : w.heap.size + 5 ≤ W0.heap.size := by rw [← hW0]; simp
  have bT : Boxed W0 (w.heap.size) 42 (.slice a zs.length cap) := by rw [← hW0]; repeat first | (refine boxed_at ?_; (simp; done)) | refine Boxed.alloc ?_ _
  have bR : Boxed W0 (w.heap.size + 1) 42 (.slice none 0 0) := by rw [← hW0]; repeat first | (refine boxed_at ?_; (simp; done)) | refine Boxed.alloc ?_ _
  have bO : Boxed W0 (w.heap.size + 1 + 1) 37 (.slice none 0 0) := by rw [← hW0]; repeat first | (refine boxed_at ?_; (simp; done)) | refine Boxed.alloc ?_ _
  have bS : Boxed W0 (w.heap.size + 1 + 1 + 1) 37 (.slice a1 sp.length cap1) := by rw [← hW0]; repeat first | (refine boxed_at ?_; (simp; done)) | refine Boxed.alloc ?_ _
  have bC : Boxed W0 (w.heap.size + 1 + 1 + 1 + 1) 2 (.int .i64 c) := by rw [← hW0]; repeat first | (refine boxed_at ?_; (simp; done)) | refine Boxed.alloc ?_ _
  rw [hW0]
  clear hW0
  obtain ⟨top, htop⟩ : ∃ top, W0.heap.size + 2 + 4 = top := ⟨_, rfl⟩
  have Htop := Lib.hid htop
  have htop1 : w.heap.size + 11 ≤ top := by omega
  gi_wp2_with fail
  refine range_outA (Keep := fun z => z < w.heap.size ∨ z = w.heap.size + 1 + 1 + 1 + 1) (c := 4) rfl (by omega) rfl trivial (enters_of Try.func124 (by kernel_rfl) rfl) (slotsOf_at 8 _ _ w.heap.size _ sp c (by omega) W0 bS bC (by omega) (HS.out.below hB0)) (fun z hz => by omega) (fun _ => rfl)
    (fun n W => ((∃ v, Boxed W (w.heap.size + 1 + 1) 37 v ∧ OwnI top W v (((slotsL sp c).take n).map fun j => nth zs j)) ∧ Boxed W w.heap.size 42 (.slice a zs.length cap) ∧ Boxed W (w.heap.size + 1) 42 (.slice none 0 0)) ∧ Below w.heap.size w W ∧ (n = 0 ∨ top ≤ W.heap.size))
    (fun _ _ _ => False)
    (OwnFrom.and (OwnFrom.and (Own.from (boxRow_Own _ _ _ _) _) (OwnFrom.and (Own.from (boxed_own _ _ _) _) (Own.from (boxed_own _ _ _) _))) (OwnFrom.and (ownFrom_below (Nat.le_refl _) (by omega)) (ownFrom_size _ _)))
    (fun _ _ _ _ _ hs _ _ => hs)
    ⟨⟨⟨_, bO, ownI_nil _ _⟩, bT, bR⟩, hB0, .inl rfl⟩ ?a1 ?assign ?body ?done ?stop
  case assign =>
    intro l n W K hk hK
    simp only [slotAt]
    gi_wp2
    exact hK
  case body =>
    rintro l n W hl' hr ⟨⟨⟨v, bO1, ho1⟩, bT1, bR1⟩, hB1, _⟩ hn hsW
    clear htop
    have htop := Htop.out
    have hsT : top ≤ W.heap.size := by omega
    have hsl := slotN_lt hn
    have hband : ∀ z, Band (fun z => z < w.heap.size ∨ z = w.heap.size + 1 + 1 + 1 + 1) W0.heap.size (W0.heap.size + 2 + 4) z → ¬ (z = w.heap.size + 1 + 1 ∨ top ≤ z) := fun z hz => by
      rcases hz with hz | hz <;> omega
    have Hband := Lib.hid hband
    have Hsucc := Lib.hid (part_take (zs := zs) hn)
    obtain ⟨s, hs⟩ : ∃ s, slotN sp c n = s := ⟨_, rfl⟩
    rw [hs] at hsl Hsucc ⊢
    have hsz : s < zs.length := by omega
    obtain ⟨b, off, rfl, hb, hcc⟩ := (HI.out.below hB1).at_ hsz
    have kz := hcc s hsz
    have Hkz := Lib.hid kz
    have hsi : (s : Int) < (zs.length : Int) := by omega
    have hlen1 : (((slotsL sp c).take n).map fun j => nth zs j).length ≤ 8 := by
      rw [List.length_map, List.length_take]
      have := slotsL_length sp c; omega
    obtain ⟨xs, hxs⟩ : ∃ xs, (((slotsL sp c).take n).map fun j => nth zs j) = xs := ⟨_, rfl⟩
    rw [hxs] at ho1 hlen1 Hsucc
    obtain ⟨z, hz'⟩ : ∃ z, nth zs s = z := ⟨_, rfl⟩
    rw [hz'] at Hsucc Hkz
    have hvb : ∀ j, v.ownBlock = some j → top ≤ j := fun j e => (ho1.blk j e).1
    have Hvb := Lib.hid hvb
    clear htop hband hsW hxs hvb hs hcc kz hz' hn bO bT bR bS bC hB0
    gi_wp2_with fail
    refine wpIn_region_held (S := fun w' => Boxed w' w.heap.size 42 (.slice (some ⟨b, off, none⟩) zs.length cap) ∧ Boxed w' (w.heap.size + 1) 42 (.slice none 0 0) ∧ Below w.heap.size w w' ∧ (w'.cell? ⟨b, off + s, none⟩ = some (.int .i64 z)) ∧ Kps (Band (fun z => z < w.heap.size ∨ z = w.heap.size + 1 + 1 + 1 + 1) W0.heap.size (W0.heap.size + 2 + 4)) W w') hfw (by kernel_rfl) (fun ⟨_, _, h⟩ => h) ⟨bT1, bR1, hB1.drew, Hkz.out, Kps.below (Below.refl _ _).drew⟩ ?_
    intro hS0
    refine wpAnyH_take (i := 1) (v := ?vr11) rfl (by kernel_rfl) (by kernel_rfl) (by kernel_rfl) (fun _ _ _ h => h) (.inl ⟨by rfl, ?yr11⟩) hS0 ?_
    case yr11 =>
      intro w' hS
      (have k1 := hS.1.cell; have k2 := hS.2.2.2.1; clear hS)
      go_simp
      try with_reducible rfl
    refine wpAnyH_take (i := 2) (v := ?vr12) rfl (by kernel_rfl) (by kernel_rfl) (by kernel_rfl) (fun _ _ _ h => h) (.inl ⟨by rfl, ?yr12⟩) hS0 ?_
    case yr12 =>
      intro w' hS
      (have k1 := hS.1.cell; have k2 := hS.2.2.2.1; clear hS)
      go_simp
      try with_reducible rfl
    refine wpAnyH_take (i := 3) (v := ?vr13) rfl (by kernel_rfl) (by kernel_rfl) (by kernel_rfl) (fun _ _ _ h => h) (.inl ⟨by rfl, ?yr13⟩) hS0 ?_
    case yr13 =>
      intro w' hS
      (have k1 := hS.1.cell; have k2 := hS.2.2.2.1; clear hS)
      go_simp
      try with_reducible rfl
    refine wpAnyH_take (i := 4) (v := ?vr14) rfl (by kernel_rfl) (by kernel_rfl) (by kernel_rfl) (fun _ _ _ h => h) (.inl ⟨by rfl, ?yr14⟩) hS0 ?_
    case yr14 =>
      intro w' hS
      (have k1 := hS.1.cell; have k2 := hS.2.2.2.1; clear hS)
      go_simp
      try with_reducible rfl
    refine wpAnyH_take (i := 5) (v := ?vr15) rfl (by kernel_rfl) (by kernel_rfl) (by kernel_rfl) (fun _ _ _ h => h) (.inl ⟨by rfl, ?yr15⟩) hS0 ?_
    case yr15 =>
      intro w' hS
      (have k1 := hS.1.cell; have k2 := hS.2.2.2.1; clear hS)
      go_simp
      try with_reducible rfl
    obtain ⟨Wd, hWd⟩ : ∃ Wd, W.drew = Wd := ⟨_, rfl⟩
    have bOd : Boxed Wd (w.heap.size + 1 + 1) 37 v := by rw [← hWd]; exact bO1
    have hod : OwnI top Wd v xs := by rw [← hWd]; exact World.ownsRow.drew ho1
    have hsd : top ≤ Wd.heap.size := by rw [← hWd]; exact hsT
    rw [hWd] at hS0 ⊢
    clear hWd bO1 ho1 hsT hB1 bT1 bR1
    refine wpAnyH_ready (rs := [0, 6]) (by kernel_rfl) (by simp) ?_
    refine AllReadyH.cons rfl (fun K' hK' => ?_) (AllReadyH.cons rfl (fun K' hK' => ?_) AllReadyH.nil)
    · rw [if_pos (by rfl)]
      have cO := bOd.cell
      go_simp
      refine hK'.out _ _ hS0 fun hS1 => ?_
      clear hK' hS1 cO
      refine wpAnyH_ready (rs := [6]) (by kernel_rfl) (by simp) ?_
      refine AllReadyH.cons rfl (fun K' hK' => ?_) AllReadyH.nil
      rw [if_pos (by rfl)]
      go_simp
      have hSa : Boxed (Wd.alloc (.cells #[.int .i64 z] 2)) w.heap.size 42 (.slice (some ⟨b, off, none⟩) zs.length cap) ∧ Boxed (Wd.alloc (.cells #[.int .i64 z] 2)) (w.heap.size + 1) 42 (.slice none 0 0) ∧ Below w.heap.size w (Wd.alloc (.cells #[.int .i64 z] 2)) ∧ ((Wd.alloc (.cells #[.int .i64 z] 2)).cell? ⟨b, off + s, none⟩ = some (.int .i64 z)) ∧ Kps (Band (fun z => z < w.heap.size ∨ z = w.heap.size + 1 + 1 + 1 + 1) W0.heap.size (W0.heap.size + 2 + 4)) W (Wd.alloc (.cells #[.int .i64 z] 2)) := ⟨hS0.1.alloc _, hS0.2.1.alloc _, hS0.2.2.1.alloc hS0.2.2.1.size _, ((((Below.refl _ Wd).alloc (Nat.le_refl _) _).cell (p := ⟨b, off + s, none⟩) (Nat.lt_of_lt_of_le hb hS0.2.2.1.size)).trans hS0.2.2.2.1), hS0.2.2.2.2.trans (Kps.alloc _ _ _)⟩
      have bOa : Boxed (Wd.alloc (.cells #[.int .i64 z] 2)) (w.heap.size + 1 + 1) 37 v := bOd.alloc _
      have hoa : OwnI top (Wd.alloc (.cells #[.int .i64 z] 2)) v xs := World.ownsRow.alloc hod _
      have hya := ownI_one8 Wd z
      have hsa : top ≤ (Wd.alloc (.cells #[.int .i64 z] 2)).heap.size := by simp; omega
      refine hK'.out _ _ hSa fun hS1 => ?_
      clear hK' hS1
      refine wpAnyH_ready (rs := [7]) (by kernel_rfl) (by simp) ?_
      refine AllReadyH.cons rfl (fun K' hK' => ?_) AllReadyH.nil
      rw [if_pos (by rfl)]
      refine wp_append_rows (.tmp 13) (.tmp 19) rfl top v xs rfl hoa _ _ [z] rfl hya (by simp; omega) hsa ?_
      intro v' w6 ho6 hgrow
      rw [← Hsucc.out] at ho6
      have hS6 : Boxed w6 w.heap.size 42 (.slice (some ⟨b, off, none⟩) zs.length cap) ∧ Boxed w6 (w.heap.size + 1) 42 (.slice none 0 0) ∧ Below w.heap.size w w6 ∧ (w6.cell? ⟨b, off + s, none⟩ = some (.int .i64 z)) ∧ Kps (Band (fun z => z < w.heap.size ∨ z = w.heap.size + 1 + 1 + 1 + 1) W0.heap.size (W0.heap.size + 2 + 4)) W w6 :=
        ⟨hSa.1.kept hgrow (fun e => by have := Hvb.out _ e.symm; omega), hSa.2.1.kept hgrow (fun e => by have := Hvb.out _ e.symm; omega), hSa.2.2.1.grown hgrow hSa.2.2.1.size (fun j e => by have := Hvb.out j e; omega), (World.cell?_of_block (a := ⟨b, off + s, none⟩) (hgrow.block b (Nat.lt_of_lt_of_le hb hSa.2.2.1.size) (fun e => by have := Hvb.out _ e.symm; omega))).trans hSa.2.2.2.1, hSa.2.2.2.2.trans (Kps.grown hgrow (fun j e h => Hband.out j h (.inr (Hvb.out j e))))⟩
      have bO6 : Boxed w6 (w.heap.size + 1 + 1) 37 v := bOa.kept hgrow (fun e => by have := Hvb.out _ e.symm; omega)
      have hs6 := Nat.le_trans hsa hgrow.size
      refine hK'.out _ _ hS6 fun hS1 => ?_
      clear hK' hS1 hgrow hSa hoa bOa hS0 hya bOd hod
      have c6 := bO6.cell
      have f6 := bO6.frozen
      have Ho6 := Lib.hid ho6
      obtain ⟨av, cv, ev⟩ := ho6.ints.shape
      rw [Hsucc.out, List.length_append, List.length_singleton] at ev
      subst ev
      clear ho6
      refine wpAnyH_ready (rs := [8]) (by kernel_rfl) (by simp) ?_
      refine AllReadyH.cons rfl (fun K' hK' => ?_) AllReadyH.nil
      rw [if_pos (by rfl)]
      go_simp
      have hS7 : Boxed (w6.setCell ⟨w.heap.size + 1 + 1, 0, none⟩ (.slice av (xs.length + 1) cv)) w.heap.size 42 (.slice (some ⟨b, off, none⟩) zs.length cap) ∧ Boxed (w6.setCell ⟨w.heap.size + 1 + 1, 0, none⟩ (.slice av (xs.length + 1) cv)) (w.heap.size + 1) 42 (.slice none 0 0) ∧ Below w.heap.size w (w6.setCell ⟨w.heap.size + 1 + 1, 0, none⟩ (.slice av (xs.length + 1) cv)) ∧ ((w6.setCell ⟨w.heap.size + 1 + 1, 0, none⟩ (.slice av (xs.length + 1) cv)).cell? ⟨b, off + s, none⟩ = some (.int .i64 z)) ∧ Kps (Band (fun z => z < w.heap.size ∨ z = w.heap.size + 1 + 1 + 1 + 1) W0.heap.size (W0.heap.size + 2 + 4)) W (w6.setCell ⟨w.heap.size + 1 + 1, 0, none⟩ (.slice av (xs.length + 1) cv)) :=
        ⟨hS6.1.other (by omega) _, hS6.2.1.other (by omega) _, hS6.2.2.1.setCell (p := ⟨w.heap.size + 1 + 1, 0, none⟩) (by simp; omega) _, (World.cell?_of_block (a := ⟨b, off + s, none⟩) (Below.heap_setCell _ _ _ b (fun e => by have h2 : b = w.heap.size + 1 + 1 := e; omega))).trans hS6.2.2.2.1, hS6.2.2.2.2.trans (Kps.setCell _ _ _ _ (fun h => Hband.out _ h (.inl rfl)))⟩
      refine hK'.out _ _ hS7 fun hS1 => wpAnyH_done (by kernel_rfl) ?_ _
      exact ⟨hS7.2.2.2.2, ⟨⟨_, bO6.set _, Ho6.out.kept (grownBy_setCell' _ _ _) (.inr fun e => by have := (Ho6.out.blk _ e).1; omega)⟩, hS7.1, hS7.2.1⟩, hS7.2.2.1, .inr (by simpa using hs6)⟩
    · rw [if_pos (by rfl)]
      go_simp
      have hSa : Boxed (Wd.alloc (.cells #[.int .i64 z] 2)) w.heap.size 42 (.slice (some ⟨b, off, none⟩) zs.length cap) ∧ Boxed (Wd.alloc (.cells #[.int .i64 z] 2)) (w.heap.size + 1) 42 (.slice none 0 0) ∧ Below w.heap.size w (Wd.alloc (.cells #[.int .i64 z] 2)) ∧ ((Wd.alloc (.cells #[.int .i64 z] 2)).cell? ⟨b, off + s, none⟩ = some (.int .i64 z)) ∧ Kps (Band (fun z => z < w.heap.size ∨ z = w.heap.size + 1 + 1 + 1 + 1) W0.heap.size (W0.heap.size + 2 + 4)) W (Wd.alloc (.cells #[.int .i64 z] 2)) := ⟨hS0.1.alloc _, hS0.2.1.alloc _, hS0.2.2.1.alloc hS0.2.2.1.size _, ((((Below.refl _ Wd).alloc (Nat.le_refl _) _).cell (p := ⟨b, off + s, none⟩) (Nat.lt_of_lt_of_le hb hS0.2.2.1.size)).trans hS0.2.2.2.1), hS0.2.2.2.2.trans (Kps.alloc _ _ _)⟩
      have bOa : Boxed (Wd.alloc (.cells #[.int .i64 z] 2)) (w.heap.size + 1 + 1) 37 v := bOd.alloc _
      have hoa : OwnI top (Wd.alloc (.cells #[.int .i64 z] 2)) v xs := World.ownsRow.alloc hod _
      have hya := ownI_one8 Wd z
      have hsa : top ≤ (Wd.alloc (.cells #[.int .i64 z] 2)).heap.size := by simp; omega
      refine hK'.out _ _ hSa fun hS1 => ?_
      clear hK' hS1
      have cO := bOa.cell
      refine wpAnyH_ready (rs := [0]) (by kernel_rfl) (by simp) ?_
      refine AllReadyH.cons rfl (fun K' hK' => ?_) AllReadyH.nil
      rw [if_pos (by rfl)]
      go_simp
      refine hK'.out _ _ hSa fun hS1 => ?_
      clear hK' hS1 cO
      refine wpAnyH_ready (rs := [7]) (by kernel_rfl) (by simp) ?_
      refine AllReadyH.cons rfl (fun K' hK' => ?_) AllReadyH.nil
      rw [if_pos (by rfl)]
      refine wp_append_rows (.tmp 13) (.tmp 19) rfl top v xs rfl hoa _ _ [z] rfl hya (by simp; omega) hsa ?_
      intro v' w6 ho6 hgrow
      rw [← Hsucc.out] at ho6
      have hS6 : Boxed w6 w.heap.size 42 (.slice (some ⟨b, off, none⟩) zs.length cap) ∧ Boxed w6 (w.heap.size + 1) 42 (.slice none 0 0) ∧ Below w.heap.size w w6 ∧ (w6.cell? ⟨b, off + s, none⟩ = some (.int .i64 z)) ∧ Kps (Band (fun z => z < w.heap.size ∨ z = w.heap.size + 1 + 1 + 1 + 1) W0.heap.size (W0.heap.size + 2 + 4)) W w6 :=
        ⟨hSa.1.kept hgrow (fun e => by have := Hvb.out _ e.symm; omega), hSa.2.1.kept hgrow (fun e => by have := Hvb.out _ e.symm; omega), hSa.2.2.1.grown hgrow hSa.2.2.1.size (fun j e => by have := Hvb.out j e; omega), (World.cell?_of_block (a := ⟨b, off + s, none⟩) (hgrow.block b (Nat.lt_of_lt_of_le hb hSa.2.2.1.size) (fun e => by have := Hvb.out _ e.symm; omega))).trans hSa.2.2.2.1, hSa.2.2.2.2.trans (Kps.grown hgrow (fun j e h => Hband.out j h (.inr (Hvb.out j e))))⟩
      have bO6 : Boxed w6 (w.heap.size + 1 + 1) 37 v := bOa.kept hgrow (fun e => by have := Hvb.out _ e.symm; omega)
      have hs6 := Nat.le_trans hsa hgrow.size
      refine hK'.out _ _ hS6 fun hS1 => ?_
      clear hK' hS1 hgrow hSa hoa bOa hS0 hya bOd hod
      have c6 := bO6.cell
      have f6 := bO6.frozen
      have Ho6 := Lib.hid ho6
      obtain ⟨av, cv, ev⟩ := ho6.ints.shape
      rw [Hsucc.out, List.length_append, List.length_singleton] at ev
      subst ev
      clear ho6
      refine wpAnyH_ready (rs := [8]) (by kernel_rfl) (by simp) ?_
      refine AllReadyH.cons rfl (fun K' hK' => ?_) AllReadyH.nil
      rw [if_pos (by rfl)]
      go_simp
      have hS7 : Boxed (w6.setCell ⟨w.heap.size + 1 + 1, 0, none⟩ (.slice av (xs.length + 1) cv)) w.heap.size 42 (.slice (some ⟨b, off, none⟩) zs.length cap) ∧ Boxed (w6.setCell ⟨w.heap.size + 1 + 1, 0, none⟩ (.slice av (xs.length + 1) cv)) (w.heap.size + 1) 42 (.slice none 0 0) ∧ Below w.heap.size w (w6.setCell ⟨w.heap.size + 1 + 1, 0, none⟩ (.slice av (xs.length + 1) cv)) ∧ ((w6.setCell ⟨w.heap.size + 1 + 1, 0, none⟩ (.slice av (xs.length + 1) cv)).cell? ⟨b, off + s, none⟩ = some (.int .i64 z)) ∧ Kps (Band (fun z => z < w.heap.size ∨ z = w.heap.size + 1 + 1 + 1 + 1) W0.heap.size (W0.heap.size + 2 + 4)) W (w6.setCell ⟨w.heap.size + 1 + 1, 0, none⟩ (.slice av (xs.length + 1) cv)) :=
        ⟨hS6.1.other (by omega) _, hS6.2.1.other (by omega) _, hS6.2.2.1.setCell (p := ⟨w.heap.size + 1 + 1, 0, none⟩) (by simp; omega) _, (World.cell?_of_block (a := ⟨b, off + s, none⟩) (Below.heap_setCell _ _ _ b (fun e => by have h2 : b = w.heap.size + 1 + 1 := e; omega))).trans hS6.2.2.2.1, hS6.2.2.2.2.trans (Kps.setCell _ _ _ _ (fun h => Hband.out _ h (.inl rfl)))⟩
      refine hK'.out _ _ hS7 fun hS1 => wpAnyH_done (by kernel_rfl) ?_ _
      exact ⟨hS7.2.2.2.2, ⟨⟨_, bO6.set _, Ho6.out.kept (grownBy_setCell' _ _ _) (.inr fun e => by have := (Ho6.out.blk _ e).1; omega)⟩, hS7.1, hS7.2.1⟩, hS7.2.2.1, .inr (by simpa using hs6)⟩
  case done =>
    rintro D W hD ⟨⟨⟨v, bO1, ho1⟩, bT1, bR1⟩, hB1, _⟩ hK
    rw [List.take_length] at ho1
    have cO := bO1.cell
    have cR := bR1.cell
    have fR := bR1.frozen
    rw [show ((slotsL sp c).map fun j => nth zs j) = partL zs sp c from rfl] at ho1
    obtain ⟨P, hP⟩ : ∃ P, partL zs sp c = P := ⟨_, rfl⟩
    rw [hP] at ho1
    have HP := Lib.hid hP
    have Ho := Lib.hid ho1
    obtain ⟨av, cv, rfl⟩ := ho1.ints.shape
    clear ho1 hP
    gi_wp2
    have hK' := (KeepsOthers.setCell W ⟨w.heap.size + 1, 0, none⟩ (.slice av P.length cv)).same D _ hK rfl
    have bR2 := boxed_shut (bR1.set (.slice av P.length cv)) hK'
    have cR2 := bR2.cell
    have ho2 : OwnI w.heap.size (W.setCell ⟨w.heap.size + 1, 0, none⟩ (.slice av P.length cv)) (.slice av P.length cv) P := (Ho.out.kept (grownBy_setCell' _ _ _) (.inr fun e => by have := (Ho.out.blk _ e).1; omega)).base (by omega)
    exact retM1 hK' ⟨.agg #[.slice av P.length cv], by simp [results, Try.f113, go_sem, cR2], _, rfl, by rw [HP.out]; exact ho2.shut hK', below_shut (hB1.setCell (p := ⟨w.heap.size + 1, 0, none⟩) (by simp) _) (by omega)⟩
  case stop =>
    rintro D c' k' W' hD hk h
    exact h.elim

theorem ownI_ne_box8 {B b : Nat} {W : World} {v u : Value} {zs : List Int} (h : OwnI B W v zs) (hb : Boxed W b 42 u) : v.ownBlock ≠ some b := by
  intro e
  obtain ⟨_, h2⟩ := h
  rcases h2 with ⟨rfl, _⟩ | ⟨g, cap, cur, rfl, _, hh, _⟩
  · simp [Value.ownBlock] at e
  · obtain rfl : g = b := by simpa [Value.ownBlock] using e
    have := hh.symm.trans hb
    simp at this

set_option maxRecDepth 100000 in
set_option maxHeartbeats 16000000 in
open Classical in
theorem l08Alone_c (c0 c1 : Value) (zs sp : List Int) (c : Int) (w : World) (hI : Ints w.heap.size w c0 zs) (hS : Ints w.heap.size w c1 sp) (ht : tasksOk zs = true) (h4 : cntL zs ≤ 4000) (hl : sp.length ≤ zs.length) (hc : c ∈ sp) :
    Calls Try.prog 110 #[.agg #[c0], c1, .int .i64 c] w fun e w' => e = .returned (.bool (decide (CanL (partL zs sp c)))) ∧ Below w.heap.size w w' := by
  have hfw : Try.prog.follows Departure.mixedOrders = true := by kernel_rfl
  obtain ⟨a, cap, rfl⟩ := hI.shape
  obtain ⟨a1, cap1, rfl⟩ := hS.shape
  have hz8 := (tasksOk_len ht).2
  have Hok := Lib.hid (partL_ok ht c hl hc)
  have Hfew := Lib.hid (show cntL (partL zs sp c) ≤ 4000 by have := partL_few ht c hl; omega)
  have HI := Lib.hid hI
  have HS := Lib.hid hS
  clear hI hS ht hc
  go_enter Try.func110, Try.ntmps110
  go_wp2
  obtain ⟨W, hW⟩ : ∃ W, ((w.alloc (.cells #[.slice a zs.length cap] 42)).alloc (.cells #[] 2)).alloc (.cells #[.slice (some ⟨w.heap.size + 1, 0, none⟩) 0 0] 42) = W := ⟨_, rfl⟩
  have hB0 : Below w.heap.size w W := by rw [← hW]; exact (((Below.refl _ w).alloc (Nat.le_refl _) _).alloc (by simp) _).alloc (by simp; omega) _
  have hs0 : w.heap.size + 3 ≤ W.heap.size := by rw [← hW]; simp
  have bT0 : Boxed W w.heap.size 42 (.slice a zs.length cap) := by rw [← hW]; exact ((Boxed.new _ _ _).alloc _).alloc _
  have bO0 : Boxed W (w.heap.size + 1 + 1) 42 (.slice (some ⟨w.heap.size + 1, 0, none⟩) 0 0) := by rw [← hW]; exact boxed_at (by simp)
  have ho0 : OwnI (w.heap.size + 1) W (.slice (some ⟨w.heap.size + 1, 0, none⟩) 0 0) (partTo zs sp c 0) := by
    rw [← hW]
    have := World.ownsRow_made (w.alloc (.cells #[.slice a zs.length cap] 42)) (base := w.heap.size + 1) (e := 2) (size := 1) #[] 0 (by simp) (by unfold maxLen; omega) rfl
    simp only [World.size_alloc] at this
    exact World.ownsRow.alloc this _
  rw [hW]
  clear hW
  go_loopw [8] (fun q wr => ∃ (k : Nat) (v : Value), k ≤ sp.length ∧ q = .int .i64 k ∧ Boxed wr (w.heap.size + 1 + 1) 42 v ∧ OwnI (w.heap.size + 1) wr v (partTo zs sp c k) ∧ Boxed wr w.heap.size 42 (.slice a zs.length cap) ∧ Below w.heap.size w wr) (fun q _ => sp.length - (intOf q).toNat)
  case atStart => exact ⟨0, _, Nat.zero_le _, rfl, bO0, ho0, bT0, hB0⟩
  case round =>
    obtain ⟨k, v, hk, rfl, bO, hok, bT, hB⟩ := hrel
    clear bO0 ho0 bT0 hB0 hs0
    have hsw := hB.size
    have hbo := bO.lt
    by_cases hlt : k < sp.length
    · have hki : (k : Int) < (sp.length : Int) := by omega
      obtain ⟨b1, off1, rfl, hb1, hc1⟩ := (HS.out.later hB).at_ hlt
      have k1 := hc1 k hlt
      clear hc1
      by_cases he : nth sp k = c
      · have hq : (nth sp k == c) = true := by simp [he]
        have Hsucc := Lib.hid (partTo_yes (zs := zs) he)
        have hplen := partTo_len zs sp c k
        obtain ⟨xs, hxs⟩ : ∃ xs, partTo zs sp c k = xs := ⟨_, rfl⟩
        rw [hxs] at hok hplen Hsucc
        have hkz : k < zs.length := by omega
        obtain ⟨b, off, rfl, hb, hcc⟩ := (HI.out.below hB).at_ hkz
        have kz := hcc k hkz
        obtain ⟨z, hz'⟩ : ∃ z, nth zs k = z := ⟨_, rfl⟩
        rw [hz'] at kz Hsucc
        have hvb : ∀ j, v.ownBlock = some j → w.heap.size + 1 ≤ j := fun j e => (hok.blk j e).1
        have Hvb := Lib.hid hvb
        have hkzi : (k : Int) < (zs.length : Int) := by omega
        clear he hxs hcc hz' hvb
        go_wp2
        refine wp_region_held_drew (S := fun w' => Boxed w' w.heap.size 42 (.slice (some ⟨b, off, none⟩) zs.length cap) ∧ Below w.heap.size w w' ∧ (w'.cell? ⟨b, off + k, none⟩ = some (.int .i64 z))) hfw ⟨bT, hB.drew, kz⟩ ?_
        intro hS0
        refine wpAnyH_take (i := 0) (v := ?vr80) rfl (by kernel_rfl) (by kernel_rfl) (by kernel_rfl) (fun _ _ _ h => h) (.inl ⟨by rfl, ?yr80⟩) hS0 ?_
        case yr80 =>
          intro w' hS
          (have k3 := hS.1.cell; have k4 := hS.2.2; clear hS)
          go_simp
          try with_reducible rfl
        refine wpAnyH_take (i := 2) (v := ?vr82) rfl (by kernel_rfl) (by kernel_rfl) (by kernel_rfl) (fun _ _ _ h => h) (.inl ⟨by rfl, ?yr82⟩) hS0 ?_
        case yr82 =>
          intro w' hS
          (have k3 := hS.1.cell; have k4 := hS.2.2; clear hS)
          go_simp
          try with_reducible rfl
        refine wpAnyH_take (i := 3) (v := ?vr83) rfl (by kernel_rfl) (by kernel_rfl) (by kernel_rfl) (fun _ _ _ h => h) (.inl ⟨by rfl, ?yr83⟩) hS0 ?_
        case yr83 =>
          intro w' hS
          (have k3 := hS.1.cell; have k4 := hS.2.2; clear hS)
          go_simp
          try with_reducible rfl
        refine wpAnyH_take (i := 4) (v := ?vr84) rfl (by kernel_rfl) (by kernel_rfl) (by kernel_rfl) (fun _ _ _ h => h) (.inl ⟨by rfl, ?yr84⟩) hS0 ?_
        case yr84 =>
          intro w' hS
          (have k3 := hS.1.cell; have k4 := hS.2.2; clear hS)
          go_simp
          try with_reducible rfl
        refine wpAnyH_take (i := 5) (v := ?vr85) rfl (by kernel_rfl) (by kernel_rfl) (by kernel_rfl) (fun _ _ _ h => h) (.inl ⟨by rfl, ?yr85⟩) hS0 ?_
        case yr85 =>
          intro w' hS
          (have k3 := hS.1.cell; have k4 := hS.2.2; clear hS)
          go_simp
          try with_reducible rfl
        refine wpAnyH_take (i := 6) (v := ?vr86) rfl (by kernel_rfl) (by kernel_rfl) (by kernel_rfl) (fun _ _ _ h => h) (.inl ⟨by rfl, ?yr86⟩) hS0 ?_
        case yr86 =>
          intro w' hS
          (have k3 := hS.1.cell; have k4 := hS.2.2; clear hS)
          go_simp
          try with_reducible rfl
        obtain ⟨Wd, hWd⟩ : ∃ Wd, wr.drew = Wd := ⟨_, rfl⟩
        have bOd : Boxed Wd (w.heap.size + 1 + 1) 42 v := by rw [← hWd]; exact bO
        have hod : OwnI (w.heap.size + 1) Wd v xs := by rw [← hWd]; exact World.ownsRow.drew hok
        have hsd : w.heap.size + 1 + 1 < Wd.heap.size := by rw [← hWd]; exact hbo
        rw [hWd] at hS0 ⊢
        clear hWd bO hok hB bT kz k1
        refine wpAnyH_ready (rs := [1, 7]) (by kernel_rfl) (by simp) ?_
        refine AllReadyH.cons rfl (fun K' hK' => ?_) (AllReadyH.cons rfl (fun K' hK' => ?_) AllReadyH.nil)
        · rw [if_pos (by rfl)]
          have cO := bOd.cell
          go_simp
          refine hK'.out _ _ hS0 fun hS1 => ?_
          clear hK' hS1 cO
          refine wpAnyH_ready (rs := [7]) (by kernel_rfl) (by simp) ?_
          refine AllReadyH.cons rfl (fun K' hK' => ?_) AllReadyH.nil
          rw [if_pos (by rfl)]
          go_simp
          have hSa : Boxed (Wd.alloc (.cells #[.int .i64 z] 2)) w.heap.size 42 (.slice (some ⟨b, off, none⟩) zs.length cap) ∧ Below w.heap.size w (Wd.alloc (.cells #[.int .i64 z] 2)) ∧ ((Wd.alloc (.cells #[.int .i64 z] 2)).cell? ⟨b, off + k, none⟩ = some (.int .i64 z)) := ⟨hS0.1.alloc _, hS0.2.1.alloc hS0.2.1.size _, ((((Below.refl _ Wd).alloc (Nat.le_refl _) _).cell (p := ⟨b, off + k, none⟩) (Nat.lt_of_lt_of_le hb hS0.2.1.size)).trans hS0.2.2)⟩
          have bOa : Boxed (Wd.alloc (.cells #[.int .i64 z] 2)) (w.heap.size + 1 + 1) 42 v := bOd.alloc _
          have hoa : OwnI (w.heap.size + 1) (Wd.alloc (.cells #[.int .i64 z] 2)) v xs := World.ownsRow.alloc hod _
          have hya := ownI_one8 Wd z
          have hsa : w.heap.size + 1 ≤ (Wd.alloc (.cells #[.int .i64 z] 2)).heap.size := by simp; omega
          refine hK'.out _ _ hSa fun hS1 => ?_
          clear hK' hS1
          refine wpAnyH_ready (rs := [8]) (by kernel_rfl) (by simp) ?_
          refine AllReadyH.cons rfl (fun K' hK' => ?_) AllReadyH.nil
          rw [if_pos (by rfl)]
          refine wp_append_rows (.tmp 24) (.tmp 30) rfl (w.heap.size + 1) v xs rfl hoa _ _ [z] rfl hya (by simp; omega) hsa ?_
          intro v' w6 ho6 hgrow
          rw [← Hsucc.out] at ho6
          have hS6 : Boxed w6 w.heap.size 42 (.slice (some ⟨b, off, none⟩) zs.length cap) ∧ Below w.heap.size w w6 ∧ (w6.cell? ⟨b, off + k, none⟩ = some (.int .i64 z)) :=
            ⟨hSa.1.kept hgrow (fun e => by have := Hvb.out _ e.symm; omega), hSa.2.1.grown hgrow hSa.2.1.size (fun j e => by have := Hvb.out j e; omega), (World.cell?_of_block (a := ⟨b, off + k, none⟩) (hgrow.block b (Nat.lt_of_lt_of_le hb hSa.2.1.size) (fun e => by have := Hvb.out _ e.symm; omega))).trans hSa.2.2⟩
          have bO6 : Boxed w6 (w.heap.size + 1 + 1) 42 v := bOa.kept hgrow (fun e => ownI_ne_box8 hoa bOa e.symm)
          have hne6 := ownI_ne_box8 ho6 bO6
          refine hK'.out _ _ hS6 fun hS1 => ?_
          clear hK' hgrow hSa hoa bOa hS0 hya bOd hod
          have c6 := bO6.cell
          have f6 := bO6.frozen
          have Ho6 := Lib.hid ho6
          obtain ⟨av, cv, ev⟩ := ho6.ints.shape
          rw [Hsucc.out, List.length_append, List.length_singleton] at ev
          subst ev
          clear ho6
          refine wpAnyH_take (i := 9) (v := ?va89) rfl (by kernel_rfl) (by kernel_rfl) (by kernel_rfl) (fun _ _ _ h => h) (.inl ⟨by rfl, ?ya89⟩) hS1 ?_
          case ya89 =>
            intro w' hS
            (clear hS)
            go_simp
            try with_reducible rfl
          clear hS1
          refine wpAnyH_ready (rs := [10]) (by kernel_rfl) (by simp) ?_
          refine AllReadyH.cons rfl (fun K' hK' => ?_) AllReadyH.nil
          rw [if_pos (by rfl)]
          go_simp
          have hS7 : Boxed (w6.setCell ⟨w.heap.size + 1 + 1, 0, none⟩ (.slice av (xs.length + 1) cv)) w.heap.size 42 (.slice (some ⟨b, off, none⟩) zs.length cap) ∧ Below w.heap.size w (w6.setCell ⟨w.heap.size + 1 + 1, 0, none⟩ (.slice av (xs.length + 1) cv)) ∧ ((w6.setCell ⟨w.heap.size + 1 + 1, 0, none⟩ (.slice av (xs.length + 1) cv)).cell? ⟨b, off + k, none⟩ = some (.int .i64 z)) :=
            ⟨hS6.1.other (by omega) _, hS6.2.1.setCell (p := ⟨w.heap.size + 1 + 1, 0, none⟩) (by simp; omega) _, (World.cell?_of_block (a := ⟨b, off + k, none⟩) (Below.heap_setCell _ _ _ b (fun e => by have h2 : b = w.heap.size + 1 + 1 := e; omega))).trans hS6.2.2⟩
          have bO7 := bO6.set (.slice av (xs.length + 1) cv)
          have ho7 : OwnI (w.heap.size + 1) (w6.setCell ⟨w.heap.size + 1 + 1, 0, none⟩ (.slice av (xs.length + 1) cv)) (.slice av (xs.length + 1) cv) (partTo zs sp c (k + 1)) := Ho6.out.kept (grownBy_setCell' _ _ _) (.inr hne6)
          refine hK'.out _ _ hS7 fun hS8 => wpAnyH_done (by kernel_rfl) ?_ _
          clear hK' hS8 c6 f6 bO6 hS6
          go_wp2
          go_roundw
          case rel => exact ⟨k + 1, _, by omega, by simp, bO7, ho7, hS7.1, hS7.2.1⟩
          case measure => simp [intOf]; omega
        · rw [if_pos (by rfl)]
          go_simp
          have hSa : Boxed (Wd.alloc (.cells #[.int .i64 z] 2)) w.heap.size 42 (.slice (some ⟨b, off, none⟩) zs.length cap) ∧ Below w.heap.size w (Wd.alloc (.cells #[.int .i64 z] 2)) ∧ ((Wd.alloc (.cells #[.int .i64 z] 2)).cell? ⟨b, off + k, none⟩ = some (.int .i64 z)) := ⟨hS0.1.alloc _, hS0.2.1.alloc hS0.2.1.size _, ((((Below.refl _ Wd).alloc (Nat.le_refl _) _).cell (p := ⟨b, off + k, none⟩) (Nat.lt_of_lt_of_le hb hS0.2.1.size)).trans hS0.2.2)⟩
          have bOa : Boxed (Wd.alloc (.cells #[.int .i64 z] 2)) (w.heap.size + 1 + 1) 42 v := bOd.alloc _
          have hoa : OwnI (w.heap.size + 1) (Wd.alloc (.cells #[.int .i64 z] 2)) v xs := World.ownsRow.alloc hod _
          have hya := ownI_one8 Wd z
          have hsa : w.heap.size + 1 ≤ (Wd.alloc (.cells #[.int .i64 z] 2)).heap.size := by simp; omega
          refine hK'.out _ _ hSa fun hS1 => ?_
          clear hK' hS1
          have cO := bOa.cell
          refine wpAnyH_ready (rs := [1]) (by kernel_rfl) (by simp) ?_
          refine AllReadyH.cons rfl (fun K' hK' => ?_) AllReadyH.nil
          rw [if_pos (by rfl)]
          go_simp
          refine hK'.out _ _ hSa fun hS1 => ?_
          clear hK' hS1 cO
          refine wpAnyH_ready (rs := [8]) (by kernel_rfl) (by simp) ?_
          refine AllReadyH.cons rfl (fun K' hK' => ?_) AllReadyH.nil
          rw [if_pos (by rfl)]
          refine wp_append_rows (.tmp 24) (.tmp 30) rfl (w.heap.size + 1) v xs rfl hoa _ _ [z] rfl hya (by simp; omega) hsa ?_
          intro v' w6 ho6 hgrow
          rw [← Hsucc.out] at ho6
          have hS6 : Boxed w6 w.heap.size 42 (.slice (some ⟨b, off, none⟩) zs.length cap) ∧ Below w.heap.size w w6 ∧ (w6.cell? ⟨b, off + k, none⟩ = some (.int .i64 z)) :=
            ⟨hSa.1.kept hgrow (fun e => by have := Hvb.out _ e.symm; omega), hSa.2.1.grown hgrow hSa.2.1.size (fun j e => by have := Hvb.out j e; omega), (World.cell?_of_block (a := ⟨b, off + k, none⟩) (hgrow.block b (Nat.lt_of_lt_of_le hb hSa.2.1.size) (fun e => by have := Hvb.out _ e.symm; omega))).trans hSa.2.2⟩
          have bO6 : Boxed w6 (w.heap.size + 1 + 1) 42 v := bOa.kept hgrow (fun e => ownI_ne_box8 hoa bOa e.symm)
          have hne6 := ownI_ne_box8 ho6 bO6
          refine hK'.out _ _ hS6 fun hS1 => ?_
          clear hK' hgrow hSa hoa bOa hS0 hya bOd hod
          have c6 := bO6.cell
          have f6 := bO6.frozen
          have Ho6 := Lib.hid ho6
          obtain ⟨av, cv, ev⟩ := ho6.ints.shape
          rw [Hsucc.out, List.length_append, List.length_singleton] at ev
          subst ev
          clear ho6
          refine wpAnyH_take (i := 9) (v := ?vb89) rfl (by kernel_rfl) (by kernel_rfl) (by kernel_rfl) (fun _ _ _ h => h) (.inl ⟨by rfl, ?yb89⟩) hS1 ?_
          case yb89 =>
            intro w' hS
            (clear hS)
            go_simp
            try with_reducible rfl
          clear hS1
          refine wpAnyH_ready (rs := [10]) (by kernel_rfl) (by simp) ?_
          refine AllReadyH.cons rfl (fun K' hK' => ?_) AllReadyH.nil
          rw [if_pos (by rfl)]
          go_simp
          have hS7 : Boxed (w6.setCell ⟨w.heap.size + 1 + 1, 0, none⟩ (.slice av (xs.length + 1) cv)) w.heap.size 42 (.slice (some ⟨b, off, none⟩) zs.length cap) ∧ Below w.heap.size w (w6.setCell ⟨w.heap.size + 1 + 1, 0, none⟩ (.slice av (xs.length + 1) cv)) ∧ ((w6.setCell ⟨w.heap.size + 1 + 1, 0, none⟩ (.slice av (xs.length + 1) cv)).cell? ⟨b, off + k, none⟩ = some (.int .i64 z)) :=
            ⟨hS6.1.other (by omega) _, hS6.2.1.setCell (p := ⟨w.heap.size + 1 + 1, 0, none⟩) (by simp; omega) _, (World.cell?_of_block (a := ⟨b, off + k, none⟩) (Below.heap_setCell _ _ _ b (fun e => by have h2 : b = w.heap.size + 1 + 1 := e; omega))).trans hS6.2.2⟩
          have bO7 := bO6.set (.slice av (xs.length + 1) cv)
          have ho7 : OwnI (w.heap.size + 1) (w6.setCell ⟨w.heap.size + 1 + 1, 0, none⟩ (.slice av (xs.length + 1) cv)) (.slice av (xs.length + 1) cv) (partTo zs sp c (k + 1)) := Ho6.out.kept (grownBy_setCell' _ _ _) (.inr hne6)
          refine hK'.out _ _ hS7 fun hS8 => wpAnyH_done (by kernel_rfl) ?_ _
          clear hK' hS8 c6 f6 bO6 hS6
          go_wp2
          go_roundw
          case rel => exact ⟨k + 1, _, by omega, by simp, bO7, ho7, hS7.1, hS7.2.1⟩
          case measure => simp [intOf]; omega
      · have hq : (nth sp k == c) = false := by simpa using he
        have Hsucc := Lib.hid (partTo_no (zs := zs) he)
        clear he
        go_wp2
        go_roundw
        case rel => exact ⟨k + 1, _, by omega, by simp, bO, by rw [Hsucc.out]; exact hok, bT, hB⟩
        case measure => simp [intOf]; omega
    · obtain rfl : k = sp.length := by omega
      rw [show partTo zs sp c sp.length = partL zs sp c from rfl] at hok
      have cO := bO.cell
      have hI := hok.ints
      obtain ⟨P, hP⟩ : ∃ P, partL zs sp c = P := ⟨_, rfl⟩
      rw [hP] at hI Hok Hfew
      have HP := Lib.hid hP
      obtain ⟨av, cv, rfl⟩ := hI.shape
      clear hok hP
      go_wp2_with fail
      refine (l02Can_c _ P _ hI Hok.out Hfew.out).mono ?_
      rintro e w5 ⟨rfl, hb5⟩
      go_wp2
      go_ret
      exact ⟨ret_bool (by rw [HP.out]), hB.trans (hb5.mono hB.size)⟩

end Go.Proofs.Ytlgjnceedjbakaa
