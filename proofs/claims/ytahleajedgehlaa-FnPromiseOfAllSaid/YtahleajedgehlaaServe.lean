/-
  DoServe: the program's turnsServe, the model's l01Serves; DoServe of both.
  Conditions: lists of at most 1048576 elements.
-/
import Derived.Test.YtahleajedgehlaaWaitsI
namespace Go.Proofs.Ytahleajedgehlaa
open Go.RowKit Go.Shelf
attribute [local go_sem] Oper.semAt_some

/-- the first k tasks are served -/
def servesTo (zs ts : List Int) (k : Nat) : Bool := (List.range k).all fun (j : Nat) => inB (greatW ts (j : Int)) 1 (nth zs j)
theorem servesTo_succ (zs ts : List Int) (k : Nat) : servesTo zs ts (k + 1) = (servesTo zs ts k && inB (greatW ts (k : Int)) 1 (nth zs k)) := by
  simp [servesTo, List.range_succ]
theorem servesTo_false {zs ts : List Int} {k n : Nat} (hk : k < n) (h : inB (greatW ts (k : Int)) 1 (nth zs k) = false) : servesTo zs ts n = false := by
  unfold servesTo; rw [List.all_eq_false]; exact ⟨k, by simpa using hk, by simp [h]⟩
def serves (zs ts : List Int) : Bool := servesTo zs ts zs.length
theorem greatW_bd (ts : List Int) (i : Int) : 0 ≤ greatW ts i := (maxTo_ge _).1
theorem waitsL_bd {ts : List Int} {i x : Int} (h : x ∈ waitsL ts i) : -(ts.length : Int) ≤ x ∧ x ≤ ts.length + ts.length := by
  unfold waitsL at h
  split at h
  · simp at h
  · rename_i h0
    rcases List.mem_append.1 h with h | h
    · simp only [diffs, List.mem_map, List.mem_range] at h
      obtain ⟨j, hj, rfl⟩ := h
      have := slotN_lt (zs := ts) (i := i) (c := j + 1) (by omega)
      have := slotN_lt (zs := ts) (i := i) (c := j) (by omega)
      omega
    · simp at h
      have := slotN_lt (zs := ts) (i := i) (c := 0) (by omega)
      have := slotN_lt (zs := ts) (i := i) (c := (slotsL ts i).length - 1) (by omega)
      omega
theorem greatW_le (ts : List Int) (i : Int) : greatW ts i ≤ ts.length + ts.length := by
  suffices h : ∀ (l : List Int) (a b : Int), a ≤ b → (∀ x ∈ l, x ≤ b) → l.foldl max a ≤ b from h _ 0 _ (by omega) (fun x hx => (waitsL_bd hx).2)
  intro l
  induction l with
  | nil => intro a b h _; exact h
  | cons y l ih => intro a b h hb; exact ih _ _ (by have := hb y (by simp); omega) (fun x hx => hb x (by simp [hx]))

set_option maxRecDepth 100000 in
set_option maxHeartbeats 8000000 in
theorem turnsServe_c (sv tv : Value) (zs ts : List Int) (w : World) (hI : Ints w.heap.size w sv zs) (hT : Ints w.heap.size w tv ts) (hm : zs.length ≤ 1048576) (hm1 : ts.length ≤ 1048576) :
    Calls Try.prog 19 #[.agg #[sv], tv] w fun e w' => e = .returned (.bool (serves zs ts)) ∧ Below w.heap.size w w' := by
  obtain ⟨a, cap, rfl⟩ := hI.shape
  obtain ⟨a2, cap2, rfl⟩ := hT.shape
  refine (callsIn_wide (n := 9)).1 ?_
  refine callsIn_of_wp_marks Try.func19 rfl trivial ?_ rfl
  simp only [Try.ntmps19, List.size_toArray, List.length_cons, List.length_nil, Nat.reduceAdd, Nat.reduceSub, Array.replicate_succ, Array.replicate_zero, List.push_toArray, List.append_toArray, List.nil_append, List.cons_append]
  gi_wp2_with (first | (gi_at_call 21; refine (callsIn_wide.2 (numbered_c _ _ _ _)).mono ?_; rintro e w' ⟨rfl, rfl⟩) | (refine ⟨trivial, ?_⟩; gi_at_call 21; refine (callsIn_wide.2 (numbered_c _ _ _ _)).mono ?_; rintro e w' ⟨rfl, rfl⟩))
  obtain ⟨W0, hW0⟩ : ∃ W0, (((w.alloc (.cells #[.slice a zs.length cap] 24)).alloc (.cells #[.slice a2 ts.length cap2] 22)).alloc (.cells #[.bool false] 4)).alloc (.cells #[.slice a zs.length cap] 22) = W0 := ⟨_, rfl⟩
  have hB0 : Below w.heap.size w W0 := by rw [← hW0]; exact ((((Below.refl _ w).alloc (Nat.le_refl _) _).alloc (by simp) _).alloc (by simp; omega) _).alloc (by simp; omega) _
  have hsz : w.heap.size + 4 ≤ W0.heap.size := by rw [← hW0]; simp
  have bT : Boxed W0 (w.heap.size + 1) 22 (.slice a2 ts.length cap2) := by rw [← hW0]; repeat first | (refine boxed_at ?_; (simp; done)) | refine Boxed.alloc ?_ _
  have bR : Boxed W0 (w.heap.size + 1 + 1) 4 (.bool false) := by rw [← hW0]; repeat first | (refine boxed_at ?_; (simp; done)) | refine Boxed.alloc ?_ _
  have bN : Boxed W0 (w.heap.size + 1 + 1 + 1) 22 (.slice a zs.length cap) := by rw [← hW0]; repeat first | (refine boxed_at ?_; (simp; done)) | refine Boxed.alloc ?_ _
  rw [hW0]
  clear hW0
  refine range_outA rfl (by omega) rfl trivial (enters_of Try.func40 (by kernel_rfl) rfl) (numbered_at Fence.wide 8 trivial rfl (by omega) (w.heap.size + 1 + 1 + 1) w.heap.size _ zs (by omega) W0 bN (by omega) (hI.below hB0)) (fun b hb => by omega) (fun _ => rfl)
    (fun k W => ((servesTo zs ts k = true) ∧ Boxed W (w.heap.size + 1) 22 (.slice a2 ts.length cap2) ∧ Boxed W (w.heap.size + 1 + 1) 4 (.bool false)) ∧ Below w.heap.size w W)
    (fun c _ W => ((c = .ret ∧ serves zs ts = false) ∧ Boxed W (w.heap.size + 1 + 1) 4 (.bool false)) ∧ Below w.heap.size w W)
    (OwnFrom.and (OwnFrom.and (ownFrom_pure _ _) (OwnFrom.and (Own.from (boxed_own _ _ _) _) (Own.from (boxed_own _ _ _) _))) (ownFrom_below (Nat.le_refl _) (by omega)))
    (fun _ => OwnFrom.and (OwnFrom.and (ownFrom_pure _ _) (Own.from (boxed_own _ _ _) _)) (ownFrom_below (Nat.le_refl _) (by omega)))
    ⟨⟨rfl, bT, bR⟩, hB0⟩ ?a1 ?assign ?body ?done ?stop
  case assign =>
    intro l k W K hk hK
    simp only [numAt]
    gi_wp2
    exact hK
  case body =>
    rintro l k W hl hr ⟨⟨hs, bT1, bR1⟩, hB⟩ hlt hsW
    have cT := bT1.cell
    have hband : ∀ b, Band (fun b => b < w.heap.size) W0.heap.size (W0.heap.size + 2 + 0) b → ¬ (b = w.heap.size + 1 + 1) ∧ b < W.heap.size := fun b hb => by
      rcases hb with hb | hb <;> omega
    have Hband := Lib.hid hband
    have Hs := Lib.hid hs
    have hpB := hB.size
    clear hs hband hsW
    gi_wp2_with fail
    refine ⟨trivial, (callsIn_wide.2 (greatestWait_c _ ts k _ (hT.later hB) hm1)).mono ?_⟩
    rintro e w3 ⟨rfl, hb3⟩
    have hB3 := hB.trans (hb3.mono hpB)
    have bR3 := boxed_later bR1 hb3
    have bT3 := boxed_later bT1 hb3
    have fR := bR3.frozen
    have cR := bR3.cell
    have hk3 : Kps (Band (fun b => b < w.heap.size) W0.heap.size (W0.heap.size + 2 + 0)) W w3 := Kps.below hb3
    clear hb3 cT
    have fin : ∀ (d : inB (greatW ts (k : Int)) 1 (nth zs k) = false), ((.ret : Code) = .ret ∧ serves zs ts = false) := fun d => ⟨rfl, servesTo_false hlt d⟩
    have Fin := Lib.hid fin
    clear fin
    by_cases h0 : greatW ts (k : Int) = 0
    · have hq : (greatW ts (k : Int) == 0) = true := by simp [h0]
      have hd := Fin.out (inB_false.2 (by omega))
      clear h0
      gi_wp2
      exact ⟨hk3.trans (Kps.setCell _ _ _ _ (fun h => (Hband.out _ h).1 rfl)), ⟨⟨rfl, hd.2⟩, bR3.set _⟩, hB3.setCell (p := ⟨w.heap.size + 1 + 1, 0, none⟩) (by simp; omega) _⟩
    · have hq : (greatW ts (k : Int) == 0) = false := by simpa using h0
      have hg := greatW_bd ts (k : Int)
      by_cases h1 : nth zs k < greatW ts (k : Int)
      · have hd := Fin.out (inB_false.2 (by omega))
        gi_wp2
        exact ⟨hk3.trans (Kps.setCell _ _ _ _ (fun h => (Hband.out _ h).1 rfl)), ⟨⟨rfl, hd.2⟩, bR3.set _⟩, hB3.setCell (p := ⟨w.heap.size + 1 + 1, 0, none⟩) (by simp; omega) _⟩
      · have hd : inB (greatW ts (k : Int)) 1 (nth zs k) = true := inB_true.2 (by omega)
        have Hd := Lib.hid hd
        clear hd h0
        gi_wp2
        exact ⟨hk3, ⟨by rw [servesTo_succ, Hs.out, Hd.out]; rfl, bT3, bR3⟩, hB3⟩
  case done =>
    rintro D W hD ⟨⟨hs, bT1, bR1⟩, hB⟩ hK
    have cR := bR1.cell
    have fR := bR1.frozen
    gi_wp2
    have hK' := (KeepsOthers.setCell W ⟨w.heap.size + 1 + 1, 0, none⟩ (.bool true)).same D _ hK rfl
    have cR2 := (boxed_shut (bR1.set (.bool true)) hK').cell
    exact retM1 hK' ⟨.bool true, by simp [results, Try.f19, go_sem, cR2], ret_bool hs.symm, below_shut (hB.setCell (p := ⟨w.heap.size + 1 + 1, 0, none⟩) (by simp; omega) _) (by omega)⟩
  case stop =>
    rintro D c k W hD hk ⟨⟨⟨rfl, hs⟩, bR1⟩, hB1⟩ hK
    gi_wp2
    have cR2 := (boxed_shut bR1 hK).cell
    exact retM1 hK ⟨.bool false, by simp [results, Try.f19, go_sem, cR2], ret_bool hs.symm, below_shut hB1 (by omega)⟩

/-! ### DoServe -/
def serveR (zs ts : List Int) : Bool := if codeOf zs ts = 0 then serves zs ts else false
theorem ret_b2 {a b : Bool} {c d : Int} (h : a = b) (k : c = d) : Ending.returned (.tuple #[.bool a, .int .i64 c]) = .returned (.tuple #[.bool b, .int .i64 d]) := by rw [h, k]

set_option maxRecDepth 100000 in
set_option maxHeartbeats 8000000 in
theorem i_DoServe (c0 : Value) (zs : List Int) (c1 : Value) (ts : List Int) (w : World) (hI : Ints w.heap.size w c0 zs) (_hN : I64s zs) (hm : zs.length ≤ 1048576) (hT : Ints w.heap.size w c1 ts) (_hN1 : I64s ts) (hm1 : ts.length ≤ 1048576) :
    Calls Try.prog 7 #[.agg #[c0], c1] w fun e w' => e = .returned (.tuple #[.bool (serveR zs ts), .int .i64 (codeOf zs ts)]) ∧ Below w.heap.size w w' := by
  obtain ⟨a, cap, rfl⟩ := hI.shape
  obtain ⟨a2, cap2, rfl⟩ := hT.shape
  have hB0 : Below w.heap.size w (w.alloc (.cells #[.slice a zs.length cap] 24)) := (Below.refl _ w).alloc (Nat.le_refl _) _
  by_cases hc : codeOf zs ts = 0
  · have Hr := Lib.hid (show serveR zs ts = serves zs ts from if_pos hc)
    have Hc := Lib.hid hc
    clear hc
    go_enter Try.func7, Try.ntmps7
    go_wp2_with fail
    refine (checkTurnsFor_c _ _ zs ts _ (hI.later hB0) (hT.later hB0) (by omega) (by omega)).mono ?_
    rintro e w1 ⟨he, hb⟩
    rw [Hc.out] at he
    subst he
    have b1 : Boxed w1 w.heap.size 24 (.slice a zs.length cap) := boxed_later (Boxed.new _ _ _) hb
    have k1 := b1.cell
    have hB1 := hB0.trans (hb.mono (by simp))
    go_wp2_with fail
    refine (turnsServe_c _ _ zs ts _ (hI.later hB1) (hT.later hB1) hm hm1).mono ?_
    rintro e w2 ⟨rfl, hb2⟩
    go_wp2
    go_ret2
    exact ⟨ret_b2 Hr.out.symm Hc.out.symm, hB1.trans (hb2.mono hB1.size)⟩
  · have Hc := Lib.hid hc
    have hp := codeOf_I64 zs ts
    have hq : ((codeOf zs ts) != 0) = true := by simpa using hc
    have Hr := Lib.hid (show serveR zs ts = false from if_neg hc)
    clear hc
    go_enter Try.func7, Try.ntmps7
    go_wp2_with fail
    refine (checkTurnsFor_c _ _ zs ts _ (hI.later hB0) (hT.later hB0) (by omega) (by omega)).mono ?_
    rintro e w1 ⟨rfl, hb⟩
    go_wp2
    go_ret2
    exact ⟨ret_b2 Hr.out.symm rfl, hB0.trans (hb.mono (by simp))⟩

end Go.Proofs.Ytahleajedgehlaa
