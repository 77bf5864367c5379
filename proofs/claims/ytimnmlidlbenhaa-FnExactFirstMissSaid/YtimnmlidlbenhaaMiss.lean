/-
  FirstMiss: the program's hasMissAt; FirstMiss of both.
  Conditions: lists of at most 1048576 elements.
-/
import Derived.Test.YtimnmlidlbenhaaServe
namespace Go.Proofs.Ytimnmlidlbenhaa
open Go.RowKit Go.Shelf
attribute [local go_sem] Oper.semAt_some

/-- the task i has no turn in the first g slots from the slot s on -/
def missTo (ts : List Int) (s : Nat) (i : Int) (g : Nat) : Bool := (List.range g).all fun (n : Nat) => nth ts ((s + n) % ts.length) != i
theorem missTo_succ (ts : List Int) (s : Nat) (i : Int) (g : Nat) : missTo ts s i (g + 1) = (missTo ts s i g && (nth ts ((s + g) % ts.length) != i)) := by simp [missTo, List.range_succ]
theorem missTo_false {ts : List Int} {s : Nat} {i : Int} {k g : Nat} (hk : k < g) (h : nth ts ((s + k) % ts.length) = i) : missTo ts s i g = false := by
  unfold missTo; rw [List.all_eq_false]; exact ⟨k, by simpa using hk, by simp [h]⟩

set_option maxRecDepth 100000 in
set_option maxHeartbeats 8000000 in
theorem hasMissAt_c (sv : Value) (ts : List Int) (s : Nat) (i : Int) (g : Nat) (w : World) (hI : Ints w.heap.size w sv ts) (h0 : 0 < ts.length) (hl : ts.length ≤ 1048576) (hs : s < ts.length) (hg : g ≤ 40) :
    Calls Try.prog 67 #[sv, .int .i64 s, .int .i64 i, .int .i64 g] w fun e w' => e = .returned (.bool (missTo ts s i g)) ∧ w = w' := by
  obtain ⟨a, cap, rfl⟩ := hI.shape
  go_enter Try.func67, Try.ntmps67
  go_wp2
  go_loop [11] (fun n => ∃ k : Nat, k ≤ g ∧ n = .int .i64 k ∧ missTo ts s i k = true) (fun n => g - (intOf n).toNat)
  case atStart => exact ⟨0, Nat.zero_le _, rfl, rfl⟩
  case round =>
    obtain ⟨k, hk, rfl, hmi⟩ := hrel
    have Hmi := Lib.hid hmi
    clear hmi
    by_cases hlt : k < g
    · obtain ⟨b, off, rfl, hb, hc⟩ := hI.at_ h0
      obtain ⟨m, hm⟩ : ∃ m : Nat, (s + k) % ts.length = m := ⟨_, rfl⟩
      have hml : m < ts.length := by rw [← hm]; exact Nat.mod_lt _ h0
      have hmz : ((s : Int) + k).tmod ts.length = m := by rw [← hm, ← Int.natCast_add]; rfl
      have hme : ((s : Int) + k) % ts.length = m := by rw [← hm]; simp
      have hcx := hc m hml
      have Hm := Lib.hid hm
      clear hc hm
      by_cases he : nth ts m = i
      · have hq : (nth ts m == i) = true := by simp [he]
        have hf := missTo_false (ts := ts) (i := i) hlt (by rw [Hm.out]; exact he)
        have Hf := Lib.hid hf
        clear hf he
        go_wp2
        go_ret
        exact ⟨ret_bool Hf.out.symm, rfl⟩
      · have hq : (nth ts m == i) = false := by simpa using he
        have hf : missTo ts s i (k + 1) = true := by rw [missTo_succ, Hmi.out, Hm.out]; simpa using he
        have Hf := Lib.hid hf
        clear hf he
        go_wp2
        exact ⟨⟨k + 1, by omega, by simp, Hf.out⟩, by simp [intOf]; omega⟩
    · obtain rfl : k = g := by omega
      go_wp2
      go_ret
      exact ⟨ret_bool Hmi.out.symm, rfl⟩

def missAt (zs ts : List Int) (s i : Nat) : Bool := missTo ts s (i : Int) (nth zs i).toNat
def missI (zs ts : List Int) (s : Nat) : Option Nat := (List.range zs.length).find? fun i => missAt zs ts s i
def missS (zs ts : List Int) : Option Nat := (List.range ts.length).find? fun s => (missI zs ts s).isSome
def fm0 (zs ts : List Int) : Int := if codeOf zs ts = 0 then ((missS zs ts).getD 0 : Nat) else 0
def fm1 (zs ts : List Int) : Int := if codeOf zs ts = 0 then (((missS zs ts).bind (missI zs ts)).getD 0 : Nat) else 0
def fm2 (zs ts : List Int) : Int := if codeOf zs ts = 0 then if (missS zs ts).isSome then 0 else 4 else codeOf zs ts
theorem ownFrom_kps {β : Type} {B : Nat} {S : Nat → Prop} {A : World} (h : A.heap.size ≤ B) : OwnFrom B (fun (_ : β) W => Kps S A W) := fun _ W W' row hs hg hr =>
  ⟨Nat.le_trans hs.size hg.size, fun k hk hl => (hg.block k (Nat.lt_of_lt_of_le hl hs.size) (fun e => by have := (hr k e.symm).1; omega)).trans (hs.same k hk hl)⟩
theorem OwnFrom.ex {β γ : Type} {B : Nat} {J : β → γ → World → Prop} (h : ∀ c, OwnFrom B (fun s W => J s c W)) : OwnFrom B (fun s W => ∃ c, J s c W) :=
  fun s A X row ⟨c, hc⟩ hg hr => ⟨c, h c s A X row hc hg hr⟩
theorem missI_none {zs ts : List Int} {s : Nat} (h : ∀ i, i < zs.length → missAt zs ts s i = false) : missI zs ts s = none := by
  unfold missI; rw [List.find?_eq_none]; intro i hi; simp [h i (by simpa using hi)]
theorem missI_some {zs ts : List Int} {s i : Nat} (hi : i < zs.length) (h : ∀ j, j < i → missAt zs ts s j = false) (hm : missAt zs ts s i = true) : missI zs ts s = some i := by
  unfold missI; rw [List.find?_range_eq_some]; exact ⟨hm, by simpa using hi, fun j hj => by simp [h j hj]⟩
theorem missS_none {zs ts : List Int} (h : ∀ s, s < ts.length → missI zs ts s = none) : missS zs ts = none := by
  unfold missS; rw [List.find?_eq_none]; intro i hi; simp [h i (by simpa using hi)]
theorem missS_some {zs ts : List Int} {s i : Nat} (hs : s < ts.length) (h : ∀ j, j < s → missI zs ts j = none) (hm : missI zs ts s = some i) : missS zs ts = some s := by
  unfold missS; rw [List.find?_range_eq_some]; exact ⟨by simp [hm], by simpa using hs, fun j hj => by simp [h j hj]⟩

theorem fm_hit {zs ts : List Int} {s i : Nat} (hc : codeOf zs ts = 0) (hs : s < ts.length) (hi : i < zs.length) (hno : ∀ j, j < s → missI zs ts j = none) (hno2 : ∀ j, j < i → missAt zs ts s j = false) (hm : missAt zs ts s i = true) :
    fm0 zs ts = s ∧ fm1 zs ts = i ∧ fm2 zs ts = 0 := by
  have h1 := missI_some hi hno2 hm
  have h2 := missS_some hs hno h1
  unfold fm0 fm1 fm2; rw [if_pos hc, if_pos hc, if_pos hc, h2]; simp [h1]
theorem fm_none {zs ts : List Int} (hc : codeOf zs ts = 0) (hno : ∀ s, s < ts.length → missI zs ts s = none) : fm0 zs ts = 0 ∧ fm1 zs ts = 0 ∧ fm2 zs ts = 4 := by
  have h2 := missS_none hno
  unfold fm0 fm1 fm2; rw [if_pos hc, if_pos hc, if_pos hc, h2]; simp
theorem fm_err {zs ts : List Int} (hc : codeOf zs ts ≠ 0) : fm0 zs ts = 0 ∧ fm1 zs ts = 0 ∧ fm2 zs ts = codeOf zs ts := by
  unfold fm0 fm1 fm2; rw [if_neg hc, if_neg hc, if_neg hc]; simp
theorem not_band {n lo hi b : Nat} (h1 : n ≤ b) (h2 : b < lo) : ¬ Band (fun b => b < n) lo hi b := fun h => by
  rcases h with h | h
  · exact absurd (show b < n from h) (by omega)
  · omega
theorem below_set3 {B : Nat} {a W : World} (h : Below B a W) {x y z : Nat} {u v t : Value} (hx : B ≤ x) (hy : B ≤ y) (hz : B ≤ z) :
    Below B a (((W.setCell ⟨x, 0, none⟩ u).setCell ⟨y, 0, none⟩ v).setCell ⟨z, 0, none⟩ t) := ((h.setCell (p := ⟨x, 0, none⟩) hx u).setCell (p := ⟨y, 0, none⟩) hy v).setCell (p := ⟨z, 0, none⟩) hz t
theorem held3 {W : World} {x y z D : Nat} {u v t : Value} (hK : W.heap[D]? = some (.deferred (some []))) :
    (((W.setCell ⟨x, 0, none⟩ u).setCell ⟨y, 0, none⟩ v).setCell ⟨z, 0, none⟩ t).heap[D]? = some (.deferred (some [])) :=
  (KeepsOthers.setCell _ ⟨z, 0, none⟩ t).same D _ ((KeepsOthers.setCell _ ⟨y, 0, none⟩ v).same D _ ((KeepsOthers.setCell W ⟨x, 0, none⟩ u).same D _ hK rfl) rfl) rfl
theorem box3 {W : World} {x y z : Nat} {tx ty tz : TypeId} {u0 v0 t0 u v t : Value} (hx : Boxed W x tx u0) (hy : Boxed W y ty v0) (hz : Boxed W z tz t0) (h1 : x ≠ y) (h2 : x ≠ z) (h3 : y ≠ z) :
    Boxed (((W.setCell ⟨x, 0, none⟩ u).setCell ⟨y, 0, none⟩ v).setCell ⟨z, 0, none⟩ t) x tx u ∧ Boxed (((W.setCell ⟨x, 0, none⟩ u).setCell ⟨y, 0, none⟩ v).setCell ⟨z, 0, none⟩ t) y ty v ∧ Boxed (((W.setCell ⟨x, 0, none⟩ u).setCell ⟨y, 0, none⟩ v).setCell ⟨z, 0, none⟩ t) z tz t :=
  ⟨((hx.set u).other (by omega) _).other (by omega) _, ((hy.other (by omega) _).set v).other (by omega) _, ((hz.other (by omega) _).other (by omega) _).set t⟩
theorem ret_i3 {a b c a' b' c' : Int} (h1 : a = a') (h2 : b = b') (h3 : c = c') : Ending.returned (.tuple #[.int .i64 a, .int .i64 b, .int .i64 c]) = .returned (.tuple #[.int .i64 a', .int .i64 b', .int .i64 c']) := by rw [h1, h2, h3]

set_option maxRecDepth 100000 in
set_option maxHeartbeats 8000000 in
theorem i_FirstMiss (c0 : Value) (zs : List Int) (c1 : Value) (ts : List Int) (w : World) (hI : Ints w.heap.size w c0 zs) (_hN : I64s zs) (hm : zs.length ≤ 1048576) (hT : Ints w.heap.size w c1 ts) (_hN1 : I64s ts) (hm1 : ts.length ≤ 1048576) :
    Calls Try.prog 22 #[.agg #[c0], c1] w fun e w' => e = .returned (.tuple #[.int .i64 (fm0 zs ts), .int .i64 (fm1 zs ts), .int .i64 (fm2 zs ts)]) ∧ Below w.heap.size w w' := by
  obtain ⟨a, cap, rfl⟩ := hI.shape
  obtain ⟨a2, cap2, rfl⟩ := hT.shape
  refine (callsIn_wide (n := 9)).1 ?_
  by_cases hc : codeOf zs ts = 0
  · obtain ⟨h1, h2⟩ := codeOf_zero hc
    have hl := tasksOk_len h1
    have hl2 := turnsOk_len h2
    have Hc := Lib.hid hc
    clear hc
    refine callsIn_of_wp_marks Try.func22 rfl trivial ?_ rfl
    simp only [Try.ntmps22, List.size_toArray, List.length_cons, List.length_nil, Nat.reduceAdd, Nat.reduceSub, Array.replicate_succ, Array.replicate_zero, List.push_toArray, List.append_toArray, List.nil_append, List.cons_append]
    gi_wp2_with fail
    obtain ⟨W0, hW0⟩ : ∃ W0, ((((w.alloc (.cells #[.slice a zs.length cap] 28)).alloc (.cells #[.slice a2 ts.length cap2] 22)).alloc (.cells #[.int .i64 0] 2)).alloc (.cells #[.int .i64 0] 2)).alloc (.cells #[.int .i64 0] 2) = W0 := ⟨_, rfl⟩
    have hB0 : Below w.heap.size w W0 := by rw [← hW0]; exact (((((Below.refl _ w).alloc (Nat.le_refl _) _).alloc (by simp) _).alloc (by simp; omega) _).alloc (by simp; omega) _).alloc (by simp; omega) _
    have hsz : w.heap.size + 5 ≤ W0.heap.size := by rw [← hW0]; simp
    have bG : Boxed W0 w.heap.size 28 (.slice a zs.length cap) := by rw [← hW0]; repeat first | (refine boxed_at ?_; (simp; done)) | refine Boxed.alloc ?_ _
    have bT : Boxed W0 (w.heap.size + 1) 22 (.slice a2 ts.length cap2) := by rw [← hW0]; repeat first | (refine boxed_at ?_; (simp; done)) | refine Boxed.alloc ?_ _
    have bX : Boxed W0 (w.heap.size + 1 + 1) 2 (.int .i64 0) := by rw [← hW0]; repeat first | (refine boxed_at ?_; (simp; done)) | refine Boxed.alloc ?_ _
    have bY : Boxed W0 (w.heap.size + 1 + 1 + 1) 2 (.int .i64 0) := by rw [← hW0]; repeat first | (refine boxed_at ?_; (simp; done)) | refine Boxed.alloc ?_ _
    have bZ : Boxed W0 (w.heap.size + 1 + 1 + 1 + 1) 2 (.int .i64 0) := by rw [← hW0]; repeat first | (refine boxed_at ?_; (simp; done)) | refine Boxed.alloc ?_ _
    rw [hW0]
    clear hW0
    refine ⟨trivial, (callsIn_wide.2 (checkTurnsFor_c _ _ zs ts _ (hI.later hB0) (hT.later hB0) (by omega) (by omega))).mono ?_⟩
    rintro e w1 ⟨he, hb⟩
    rw [Hc.out] at he
    subst he
    have hB1 := hB0.trans (hb.mono (by omega))
    have hs1 := hb.size
    replace bG := boxed_later bG hb
    replace bT := boxed_later bT hb
    replace bX := boxed_later bX hb
    replace bY := boxed_later bY hb
    replace bZ := boxed_later bZ hb
    clear hb hB0
    have cT := bT.cell
    gi_wp2_with (first | (gi_at_call 62; refine (callsIn_wide.2 (numbered_c _ _ _ _)).mono ?_; rintro e w' ⟨rfl, rfl⟩) | (refine ⟨trivial, ?_⟩; gi_at_call 62; refine (callsIn_wide.2 (numbered_c _ _ _ _)).mono ?_; rintro e w' ⟨rfl, rfl⟩))
    obtain ⟨W0', hW0⟩ : ∃ W0', w1.alloc (.cells #[.slice a2 ts.length cap2] 22) = W0' := ⟨_, rfl⟩
    have hb2 : Below w1.heap.size w1 W0' := by rw [← hW0]; exact (Below.refl _ w1).alloc (Nat.le_refl _) _
    have hB2 : Below w.heap.size w W0' := hB1.trans (hb2.mono (by omega))
    have hs2 : w1.heap.size + 1 ≤ W0'.heap.size := by rw [← hW0]; simp
    have bN : Boxed W0' w1.heap.size 22 (.slice a2 ts.length cap2) := by rw [← hW0]; exact Boxed.new _ _ _
    replace bG := boxed_later bG hb2
    replace bT := boxed_later bT hb2
    replace bX := boxed_later bX hb2
    replace bY := boxed_later bY hb2
    replace bZ := boxed_later bZ hb2
    rw [hW0]
    clear hW0 hb2 hB1 cT
    refine range_out (Keep := fun b => b < w.heap.size) rfl (by omega) rfl trivial (enters_of Try.func107 (by kernel_rfl) rfl) (numbered_at Fence.wide 8 trivial rfl (by omega) _ w.heap.size _ ts (by omega) W0' bN (by omega) (hT.below hB2)) (fun b hb => by omega) (fun _ => rfl)
      (fun k W => ((∀ s, s < k → missI zs ts s = none) ∧ (Boxed W w.heap.size 28 (.slice a zs.length cap) ∧ Boxed W (w.heap.size + 1) 22 (.slice a2 ts.length cap2)) ∧ (Boxed W (w.heap.size + 1 + 1) 2 (.int .i64 0) ∧ Boxed W (w.heap.size + 1 + 1 + 1) 2 (.int .i64 0) ∧ Boxed W (w.heap.size + 1 + 1 + 1 + 1) 2 (.int .i64 0))) ∧ Below w.heap.size w W)
      (fun c _ W => ((c = .ret ∧ fm2 zs ts = 0) ∧ (Boxed W (w.heap.size + 1 + 1) 2 (.int .i64 (fm0 zs ts)) ∧ Boxed W (w.heap.size + 1 + 1 + 1) 2 (.int .i64 (fm1 zs ts)) ∧ Boxed W (w.heap.size + 1 + 1 + 1 + 1) 2 (.int .i64 0))) ∧ Below w.heap.size w W)
      (OwnFrom.and (OwnFrom.and (ownFrom_pure _ _) (OwnFrom.and (OwnFrom.and (Own.from (boxed_own _ _ _) _) (Own.from (boxed_own _ _ _) _)) (OwnFrom.and (Own.from (boxed_own _ _ _) _) (OwnFrom.and (Own.from (boxed_own _ _ _) _) (Own.from (boxed_own _ _ _) _))))) (ownFrom_below (Nat.le_refl _) (by omega)))
      (fun _ => OwnFrom.and (OwnFrom.and (ownFrom_pure _ _) (OwnFrom.and (Own.from (boxed_own _ _ _) _) (OwnFrom.and (Own.from (boxed_own _ _ _) _) (Own.from (boxed_own _ _ _) _)))) (ownFrom_below (Nat.le_refl _) (by omega)))
      ⟨⟨fun s h => by omega, ⟨bG, bT⟩, bX, bY, bZ⟩, hB2⟩
      (fun k a' W => ∃ b, ((W0'.heap.size + 2 ≤ b ∧ a' = { tmps := #[.agg #[.slice a zs.length cap], .slice a2 ts.length cap2, .pointer (some ⟨w.heap.size, 0, none⟩), .pointer (some ⟨w.heap.size + 1, 0, none⟩), .pointer (some ⟨w.heap.size + 1 + 1, 0, none⟩), .pointer (some ⟨w.heap.size + 1 + 1 + 1, 0, none⟩), .pointer (some ⟨w.heap.size + 1 + 1 + 1 + 1, 0, none⟩), .int .i64 0, .pointer (some ⟨b, 0, none⟩), undef, undef, .agg #[.slice a zs.length cap], .slice a2 ts.length cap2, .int .i64 0, .int .i64 0, .bool false, undef, .slice a2 ts.length cap2, .func (.func 107) #[] #[.pointer (some ⟨w1.heap.size, 0, none⟩)], .int .i64 (k : Nat), .int .i64 (nth ts k), undef, undef, undef, undef, undef, undef, undef, undef, undef, undef, undef, undef], defers := [] }) ∧ Boxed W b 2 (.int .i64 k)))
      ?hAx ?assign ?body ?done ?stop
    case hAx => exact fun k a' => OwnFrom.ex fun b => OwnFrom.and (ownFrom_pure _ _) (Own.from (boxed_own _ _ _) _)
    case assign =>
      intro l k W K hk hlt hsW hK
      simp only [numAt]
      gi_wp2
      have bG1 := Boxed.new W 2 (.int .i64 0)
      obtain ⟨b, hbe⟩ : ∃ b, W.heap.size = b := ⟨_, rfl⟩
      have hsb : (W.alloc (.cells #[.int .i64 0] 2)).heap.size = b + 1 := by simp [hbe]
      simp only [hbe] at bG1 ⊢
      exact hK _ _ (Kps.alloc _ _ _) ⟨⟨hk.1.1, ⟨hk.1.2.1.1.alloc _, hk.1.2.1.2.alloc _⟩, hk.1.2.2.1.alloc _, hk.1.2.2.2.1.alloc _, hk.1.2.2.2.2.alloc _⟩, hk.2.alloc hk.2.size _⟩ ⟨b, ⟨by omega, rfl⟩, boxed_at hbe.symm⟩
    case body =>
      rintro l k a' W hl' hr ⟨⟨hno, ⟨bG1, bT1⟩, bX1, bY1, bZ1⟩, hB⟩ ⟨b, ⟨hbt, rfl⟩, bS1⟩ hlt hsW
      have cG := bG1.cell
      have Hno := Lib.hid hno
      have hbW := bS1.lt
      clear hno
      gi_wp2_with (first | (gi_at_call 62; refine (callsIn_wide.2 (numbered_c _ _ _ _)).mono ?_; rintro e w' ⟨rfl, rfl⟩) | (refine ⟨trivial, ?_⟩; gi_at_call 62; refine (callsIn_wide.2 (numbered_c _ _ _ _)).mono ?_; rintro e w' ⟨rfl, rfl⟩))
      obtain ⟨W2, hW2⟩ : ∃ W2, W.alloc (.cells #[.slice a zs.length cap] 22) = W2 := ⟨_, rfl⟩
      have hb2 : Below W.heap.size W W2 := by rw [← hW2]; exact (Below.refl _ W).alloc (Nat.le_refl _) _
      have hB2' : Below w.heap.size w W2 := hB.trans (hb2.mono (by omega))
      have hs2' : W.heap.size + 1 ≤ W2.heap.size := by rw [← hW2]; simp
      have bM : Boxed W2 W.heap.size 22 (.slice a zs.length cap) := by rw [← hW2]; exact Boxed.new _ _ _
      replace bG1 := boxed_later bG1 hb2
      replace bT1 := boxed_later bT1 hb2
      replace bX1 := boxed_later bX1 hb2
      replace bY1 := boxed_later bY1 hb2
      replace bZ1 := boxed_later bZ1 hb2
      replace bS1 := boxed_later bS1 hb2
      obtain ⟨r0, hr0⟩ := hr
      have hlw : l < W.heap.size := (Array.getElem?_eq_some_iff.1 hr0).1
      have hr2 := (hb2.block l hlw).trans hr0
      have hkp : Kps (Band (fun b => b < w.heap.size) W0'.heap.size (W0'.heap.size + 2 + 0)) W W2 := Kps.below hb2
      rw [hW2]
      clear hW2 hb2 cG hr0
      refine range_inA (Keep := fun b => b < w.heap.size) rfl hr2 (by omega) rfl trivial (enters_of Try.func107 (by kernel_rfl) rfl) ((numbered_at Fence.wide 6 trivial rfl (by omega) _ w.heap.size _ zs (by omega) W2 bM (by omega) (hI.below hB2')).inRound l) (fun b hb => by omega) (fun _ => rfl)
        (fun i W' => ((∀ j, j < i → missAt zs ts k j = false) ∧ ((Boxed W' w.heap.size 28 (.slice a zs.length cap) ∧ Boxed W' (w.heap.size + 1) 22 (.slice a2 ts.length cap2)) ∧ Boxed W' b 2 (.int .i64 k)) ∧ (Boxed W' (w.heap.size + 1 + 1) 2 (.int .i64 0) ∧ Boxed W' (w.heap.size + 1 + 1 + 1) 2 (.int .i64 0) ∧ Boxed W' (w.heap.size + 1 + 1 + 1 + 1) 2 (.int .i64 0))) ∧ (Below w.heap.size w W' ∧ Kps (Band (fun b => b < w.heap.size) W0'.heap.size (W0'.heap.size + 2 + 0)) W W'))
        (fun c _ W' => ((c = .ret ∧ fm2 zs ts = 0) ∧ (Boxed W' (w.heap.size + 1 + 1) 2 (.int .i64 (fm0 zs ts)) ∧ Boxed W' (w.heap.size + 1 + 1 + 1) 2 (.int .i64 (fm1 zs ts)) ∧ Boxed W' (w.heap.size + 1 + 1 + 1 + 1) 2 (.int .i64 0))) ∧ (Below w.heap.size w W' ∧ Kps (Band (fun b => b < w.heap.size) W0'.heap.size (W0'.heap.size + 2 + 0)) W W'))
        (OwnFrom.and (OwnFrom.and (ownFrom_pure _ _) (OwnFrom.and (OwnFrom.and (OwnFrom.and (Own.from (boxed_own _ _ _) _) (Own.from (boxed_own _ _ _) _)) (Own.from (boxed_own _ _ _) _)) (OwnFrom.and (Own.from (boxed_own _ _ _) _) (OwnFrom.and (Own.from (boxed_own _ _ _) _) (Own.from (boxed_own _ _ _) _))))) (OwnFrom.and (ownFrom_below (Nat.le_refl _) (by omega)) (ownFrom_kps (by omega))))
        (fun _ => OwnFrom.and (OwnFrom.and (ownFrom_pure _ _) (OwnFrom.and (Own.from (boxed_own _ _ _) _) (OwnFrom.and (Own.from (boxed_own _ _ _) _) (Own.from (boxed_own _ _ _) _)))) (OwnFrom.and (ownFrom_below (Nat.le_refl _) (by omega)) (ownFrom_kps (by omega))))
        ⟨⟨fun s h => by omega, ⟨⟨bG1, bT1⟩, bS1⟩, bX1, bY1, bZ1⟩, hB2', hkp⟩ ?b1 ?assign2 ?body2 ?done2 ?stop2
      case assign2 =>
        intro l2 i W' K hk hK
        simp only [numAt]
        gi_wp2
        exact hK
      case body2 =>
        rintro l2 i W' hl2 hr2 ⟨⟨hno2, ⟨⟨bG2, bT2⟩, bS2⟩, bX2, bY2, bZ2⟩, hB3, hkp3⟩ hi hsW'
        have Hno2 := Lib.hid hno2
        have hg := tasksOk_nth h1 hi
        have cT := bT2.cell
        have cS := bS2.cell
        clear hno2
        obtain ⟨g, hgz⟩ : ∃ g : Nat, nth zs i = g := ⟨(nth zs i).toNat, by omega⟩
        rw [hgz] at hg ⊢
        gi_wp2_with fail
        refine ⟨trivial, (callsIn_wide.2 (hasMissAt_c _ ts k i g _ (hT.later hB3) (by omega) hm1 hlt (by omega))).mono ?_⟩
        rintro e w3 ⟨rfl, rfl⟩
        have hmA : missAt zs ts k i = missTo ts k (i : Int) g := by unfold missAt; rw [hgz]; simp
        have hb5 : w.heap.size + 5 ≤ W0'.heap.size := by omega
        cases hd : missTo ts k (i : Int) g
        · have hno3 : ∀ j, j < i + 1 → missAt zs ts k j = false := fun j hj => by
            by_cases e : j = i
            · subst e; rw [hmA]; exact hd
            · exact Hno2.out j (by omega)
          have Hno3 := Lib.hid hno3
          clear hd hmA hno3
          gi_wp2
          exact ⟨Kps.refl _ _, ⟨Hno3.out, ⟨⟨bG2, bT2⟩, bS2⟩, bX2, bY2, bZ2⟩, hB3, hkp3⟩
        · have hf := fm_hit Hc.out hlt hi Hno.out Hno2.out (by rw [hmA]; exact hd)
          have Hf := Lib.hid hf
          have fX := bX2.frozen
          have fY := bY2.frozen
          have fZ := bZ2.frozen
          have cX := bX2.cell
          have cY := bY2.cell
          have cZ := bZ2.cell
          clear hd hmA hf
          gi_wp2
          exact ⟨((Kps.setCell _ _ _ _ (not_band (by omega) (by omega))).trans (Kps.setCell _ _ _ _ (not_band (by omega) (by omega)))).trans (Kps.setCell _ _ _ _ (not_band (by omega) (by omega))), ⟨⟨rfl, Hf.out.2.2⟩, by rw [Hf.out.1]; exact ((bX2.set _).other (by omega) _).other (by omega) _, by rw [Hf.out.2.1]; exact ((bY2.other (by omega) _).set _).other (by omega) _, ((bZ2.other (by omega) _).other (by omega) _).set _⟩,
            below_set3 hB3 (by omega) (by omega) (by omega), hkp3.trans (((Kps.setCell _ _ _ _ (not_band (by omega) (by omega))).trans (Kps.setCell _ _ _ _ (not_band (by omega) (by omega)))).trans (Kps.setCell _ _ _ _ (not_band (by omega) (by omega))))⟩
      case done2 =>
        rintro W' ⟨⟨hno2, ⟨⟨bG2, bT2⟩, bS2⟩, bX2, bY2, bZ2⟩, hB3, hkp3⟩
        have hno3 : ∀ s, s < k + 1 → missI zs ts s = none := fun s hs => by
          by_cases e : s = k
          · subst e; exact missI_none hno2
          · exact Hno.out s (by omega)
        have Hno3 := Lib.hid hno3
        clear hno2 hno3
        gi_wp2
        exact ⟨hkp3, ⟨Hno3.out, ⟨bG2, bT2⟩, bX2, bY2, bZ2⟩, hB3⟩
      case stop2 =>
        rintro c j W' hj ⟨⟨⟨rfl, hf⟩, bX2, bY2, bZ2⟩, hB3, hkp3⟩
        have Hf := Lib.hid hf
        clear hf
        gi_wp2
        exact ⟨hkp3, ⟨⟨rfl, Hf.out⟩, bX2, bY2, bZ2⟩, hB3⟩
    case done =>
      rintro D W hD ⟨⟨hno, ⟨bG2, bT2⟩, bX2, bY2, bZ2⟩, hB3⟩ hK
      have Hf := Lib.hid (fm_none Hc.out hno)
      have fX := bX2.frozen
      have fY := bY2.frozen
      have fZ := bZ2.frozen
      have cX := bX2.cell
      have cY := bY2.cell
      have cZ := bZ2.cell
      clear hno
      gi_wp2
      have hK' := held3 (x := w.heap.size + 1 + 1) (y := w.heap.size + 1 + 1 + 1) (z := w.heap.size + 1 + 1 + 1 + 1) (u := .int .i64 0) (v := .int .i64 0) (t := .int .i64 4) hK
      have bs := box3 (u := .int .i64 0) (v := .int .i64 0) (t := .int .i64 4) bX2 bY2 bZ2 (by omega) (by omega) (by omega)
      have kX := (boxed_shut bs.1 hK').cell
      have kY := (boxed_shut bs.2.1 hK').cell
      have kZ := (boxed_shut bs.2.2 hK').cell
      exact retM1 hK' ⟨.tuple #[.int .i64 0, .int .i64 0, .int .i64 4], by simp [results, Try.f22, go_sem, kX, kY, kZ], ret_i3 Hf.out.1.symm Hf.out.2.1.symm Hf.out.2.2.symm, below_shut (below_set3 hB3 (by omega) (by omega) (by omega)) (by omega)⟩
    case stop =>
      rintro D c k W hD hk ⟨⟨⟨rfl, hf⟩, bX2, bY2, bZ2⟩, hB3⟩ hK
      have Hf := Lib.hid hf
      have cX := (boxed_shut bX2 hK).cell
      have cY := (boxed_shut bY2 hK).cell
      have cZ := (boxed_shut bZ2 hK).cell
      clear hf
      gi_wp2
      exact retM1 hK ⟨.tuple #[.int .i64 (fm0 zs ts), .int .i64 (fm1 zs ts), .int .i64 0], by simp [results, Try.f22, go_sem, cX, cY, cZ], ret_i3 rfl rfl Hf.out.symm, below_shut hB3 (by omega)⟩
  · have Hf := Lib.hid (fm_err hc)
    have Hc := Lib.hid hc
    have hp := codeOf_I64 zs ts
    have hq : ((codeOf zs ts) != 0) = true := by simpa using hc
    clear hc
    refine callsIn_of_wp_marks Try.func22 rfl trivial ?_ rfl
    simp only [Try.ntmps22, List.size_toArray, List.length_cons, List.length_nil, Nat.reduceAdd, Nat.reduceSub, Array.replicate_succ, Array.replicate_zero, List.push_toArray, List.append_toArray, List.nil_append, List.cons_append]
    gi_wp2_with fail
    obtain ⟨W0, hW0⟩ : ∃ W0, (((((w.alloc (.cells #[.slice a zs.length cap] 28)).alloc (.cells #[.slice a2 ts.length cap2] 22)).alloc (.cells #[.int .i64 0] 2)).alloc (.cells #[.int .i64 0] 2)).alloc (.cells #[.int .i64 0] 2)) = W0 := ⟨_, rfl⟩
    have hB0 : Below w.heap.size w W0 := by rw [← hW0]; exact ((((((Below.refl _ w).alloc (Nat.le_refl _) _).alloc (by simp; try omega) _).alloc (by simp; try omega) _).alloc (by simp; try omega) _).alloc (by simp; try omega) _)
    have hs0 : w.heap.size + 5 ≤ W0.heap.size := by rw [← hW0]; simp
    have bG : Boxed W0 (w.heap.size) 28 (.slice a zs.length cap) := by rw [← hW0]; repeat first | (refine boxed_at ?_; (simp; done)) | refine Boxed.alloc ?_ _
    have bT : Boxed W0 (w.heap.size + 1) 22 (.slice a2 ts.length cap2) := by rw [← hW0]; repeat first | (refine boxed_at ?_; (simp; done)) | refine Boxed.alloc ?_ _
    have bX : Boxed W0 (w.heap.size + 1 + 1) 2 (.int .i64 0) := by rw [← hW0]; repeat first | (refine boxed_at ?_; (simp; done)) | refine Boxed.alloc ?_ _
    have bY : Boxed W0 (w.heap.size + 1 + 1 + 1) 2 (.int .i64 0) := by rw [← hW0]; repeat first | (refine boxed_at ?_; (simp; done)) | refine Boxed.alloc ?_ _
    have bZ : Boxed W0 (w.heap.size + 1 + 1 + 1 + 1) 2 (.int .i64 0) := by rw [← hW0]; repeat first | (refine boxed_at ?_; (simp; done)) | refine Boxed.alloc ?_ _
    rw [hW0]
    clear hW0
    refine ⟨trivial, (callsIn_wide.2 (checkTurnsFor_c _ _ zs ts _ (hI.later hB0) (hT.later hB0) (by omega) (by omega))).mono ?_⟩
    rintro e w1 ⟨rfl, hb⟩
    have hB1 := hB0.trans (hb.mono (by omega))
    replace bG := boxed_later bG hb
    replace bT := boxed_later bT hb
    replace bX := boxed_later bX hb
    replace bY := boxed_later bY hb
    replace bZ := boxed_later bZ hb
    have fX := bX.frozen
    have fY := bY.frozen
    have fZ := bZ.frozen
    have cX := bX.cell
    have cY := bY.cell
    have cZ := bZ.cell
    gi_wp2
    have bs := box3 (u := .int .i64 0) (v := .int .i64 0) (t := .int .i64 (codeOf zs ts)) bX bY bZ (by omega) (by omega) (by omega)
    have kX := bs.1.cell
    have kY := bs.2.1.cell
    have kZ := bs.2.2.cell
    exact retM0 ⟨.tuple #[.int .i64 0, .int .i64 0, .int .i64 (codeOf zs ts)], by simp [results, Try.f22, go_sem, kX, kY, kZ], ret_i3 Hf.out.1.symm Hf.out.2.1.symm Hf.out.2.2.symm, below_set3 hB1 (by omega) (by omega) (by omega)⟩

set_option maxRecDepth 100000 in
set_option maxHeartbeats 8000000 in
theorem s_FirstMiss (c0 : Value) (zs : List Int) (c1 : Value) (ts : List Int) (w : World) (hI : Ints w.heap.size w c0 zs) (_hN : I64s zs) (hm : zs.length ≤ 1048576) (hT : Ints w.heap.size w c1 ts) (_hN1 : I64s ts) (hm1 : ts.length ≤ 1048576) :
    Calls Try.prog 20 #[.agg #[c0], c1] w fun e w' => e = .returned (.tuple #[.int .i64 (fm0 zs ts), .int .i64 (fm1 zs ts), .int .i64 (fm2 zs ts)]) ∧ Below w.heap.size w w' := by
  obtain ⟨a, cap, rfl⟩ := hI.shape
  obtain ⟨a2, cap2, rfl⟩ := hT.shape
  have hB0 : Below w.heap.size w (w.alloc (.cells #[.slice a zs.length cap] 28)) := (Below.refl _ w).alloc (Nat.le_refl _) _
  by_cases hc : codeOf zs ts = 0
  · obtain ⟨h1, h2⟩ := codeOf_zero hc
    have hl := tasksOk_len h1
    have hl2 := turnsOk_len h2
    have Hc := Lib.hid hc
    clear hc
    go_enter Try.func20, Try.ntmps20
    go_wp2_with fail
    refine (l01Code_c _ _ zs ts _ (hI.later hB0) (hT.later hB0) (by omega) (by omega)).mono ?_
    rintro e w1 ⟨he, hb⟩
    rw [Hc.out] at he
    subst he
    have b1 : Boxed w1 w.heap.size 28 (.slice a zs.length cap) := boxed_later (Boxed.new _ _ _) hb
    have hB1 := hB0.trans (hb.mono (by simp))
    clear hb hB0
    go_wp2
    go_loopw [8] (fun n wr => ∃ s : Nat, s ≤ ts.length ∧ n = .int .i64 s ∧ (∀ j, j < s → missI zs ts j = none) ∧ Boxed wr w.heap.size 28 (.slice a zs.length cap) ∧ Below w.heap.size w wr) (fun n _ => ts.length - (intOf n).toNat)
    case atStart => exact ⟨0, Nat.zero_le _, rfl, fun j h => by omega, b1, hB1⟩
    case round =>
      obtain ⟨s, hs, rfl, hno, bx, hB⟩ := hrel
      have Hno := Lib.hid hno
      clear hno b1 hB1
      by_cases hlt : s < ts.length
      · go_wp2
        go_loopw [9] (fun i wr2 => ∃ j : Nat, j ≤ zs.length ∧ i = .int .i64 j ∧ (∀ m, m < j → missAt zs ts s m = false) ∧ Boxed wr2 w.heap.size 28 (.slice a zs.length cap) ∧ Below w.heap.size w wr2) (fun i _ => zs.length - (intOf i).toNat)
        case atStart => exact ⟨0, Nat.zero_le _, rfl, fun j h => by omega, bx, hB⟩
        case round =>
          obtain ⟨j, hj, rfl, hno2, by1, hB2⟩ := hrel
          have Hno2 := Lib.hid hno2
          have k1 := by1.cell
          clear hno2 bx hB
          go_wp2_with fail
          refine (l01K_c _ _ _ _).mono ?_
          rintro e w3 ⟨rfl, rfl⟩
          have hB3 := hB2.alloc hB2.size (.cells #[.slice a zs.length cap] 28)
          have b3 := by1.alloc (.cells #[.slice a zs.length cap] 28)
          obtain ⟨w3, hw3⟩ : ∃ w3, wr.alloc (.cells #[.slice a zs.length cap] 28) = w3 := ⟨_, rfl⟩
          rw [hw3] at hB3 b3 ⊢
          clear hw3 by1 k1 hB2
          have k3 := b3.cell
          by_cases hlj : j < zs.length
          · obtain ⟨b, off, ea, hb, hcl⟩ := (hI.below hB3).at_ hlj
            have hcx := hcl j hlj
            have hg := tasksOk_nth h1 hlj
            obtain ⟨g, hgz⟩ : ∃ g : Nat, nth zs j = g := ⟨(nth zs j).toNat, by omega⟩
            have hmA : missAt zs ts s j = missTo ts s (j : Int) g := by unfold missAt; rw [hgz]; simp
            rw [hgz] at hcx hg
            have HmA := Lib.hid hmA
            subst ea
            clear hcl hmA hgz
            go_wp2
            go_loop [10, 11] (fun m k => ∃ q : Nat, q ≤ g ∧ k = .int .i64 q ∧ m = .bool (!missTo ts s (j : Int) q)) (fun _ k => g - (intOf k).toNat)
            case atStart => exact ⟨0, Nat.zero_le _, rfl, rfl⟩
            case round =>
              obtain ⟨q, hq, rfl, rfl⟩ := hrel
              by_cases hlq : q < g
              · cases hmi : missTo ts s (j : Int) q
                · have hmi2 : missTo ts s (j : Int) (q + 1) = false := by rw [missTo_succ, hmi]; rfl
                  have Hmi := Lib.hid hmi2
                  simp only [Bool.not_false]
                  clear hmi hmi2
                  go_wp2
                  exact ⟨⟨q + 1, by omega, by simp, by rw [Hmi.out]; rfl⟩, by simp [intOf]; omega⟩
                · simp only [Bool.not_true]
                  obtain ⟨b2, off2, et, hb2, hct⟩ := (hT.below hB3).at_ (show 0 < ts.length by omega)
                  obtain ⟨m, hm2⟩ : ∃ m : Nat, (s + q) % ts.length = m := ⟨_, rfl⟩
                  have hml : m < ts.length := by rw [← hm2]; exact Nat.mod_lt _ (by omega)
                  have hmz : ((s : Int) + q).tmod ts.length = m := by rw [← hm2, ← Int.natCast_add]; rfl
                  have hme : ((s : Int) + q) % ts.length = m := by rw [← hm2]; simp
                  have hcy := hct m hml
                  have hmi2 : missTo ts s (j : Int) (q + 1) = (nth ts m != (j : Int)) := by rw [missTo_succ, hmi, hm2]; rfl
                  have Hmi := Lib.hid hmi2
                  subst et
                  clear hct hm2 hmi hmi2
                  by_cases he : nth ts m = (j : Int)
                  · have hqq : (nth ts m == (j : Int)) = true := by simp [he]
                    have hz : (!missTo ts s (j : Int) (q + 1)) = true := by rw [Hmi.out]; simp [he]
                    have Hz := Lib.hid hz
                    clear he hz
                    go_wp2
                    exact ⟨⟨q + 1, by omega, by simp, by rw [Hz.out]⟩, by simp [intOf]; omega⟩
                  · have hqq : (nth ts m == (j : Int)) = false := by simpa using he
                    have hz : (!missTo ts s (j : Int) (q + 1)) = false := by rw [Hmi.out]; simpa using he
                    have Hz := Lib.hid hz
                    clear he hz
                    go_wp2
                    exact ⟨⟨q + 1, by omega, by simp, by rw [Hz.out]⟩, by simp [intOf]; omega⟩
              · obtain rfl : q = g := by omega
                cases hd : missTo ts s (j : Int) q
                · have Hmi := Lib.hid (HmA.out.trans hd)
                  simp only [Bool.not_false]
                  clear hd
                  go_wp2
                  go_roundw
                  case rel => exact ⟨j + 1, by omega, by simp, fun m hm' => by by_cases e : m = j; exact e ▸ Hmi.out; exact Hno2.out m (by omega), b3, hB3⟩
                  case measure => simp [intOf]; omega
                · have Hf := Lib.hid (fm_hit Hc.out hlt hlj Hno.out Hno2.out (HmA.out.trans hd))
                  simp only [Bool.not_true]
                  clear hd
                  go_wp2
                  go_ret3
                  exact ⟨ret_i3 Hf.out.1.symm Hf.out.2.1.symm Hf.out.2.2.symm, hB3⟩
          · obtain rfl : j = zs.length := by omega
            have hn := missI_none Hno2.out
            have Hn := Lib.hid hn
            clear hn
            go_wp2
            go_roundw
            case rel => exact ⟨s + 1, by omega, by simp, fun m hm' => by by_cases e : m = s; exact e ▸ Hn.out; exact Hno.out m (by omega), b3, hB3⟩
            case measure => simp [intOf]; omega
      · obtain rfl : s = ts.length := by omega
        have Hf := Lib.hid (fm_none Hc.out Hno.out)
        go_wp2
        go_ret3
        exact ⟨ret_i3 Hf.out.1.symm Hf.out.2.1.symm Hf.out.2.2.symm, hB⟩
  · have Hf := Lib.hid (fm_err hc)
    have hp := codeOf_I64 zs ts
    have hq : ((codeOf zs ts) != 0) = true := by simpa using hc
    clear hc
    go_enter Try.func20, Try.ntmps20
    go_wp2_with fail
    refine (l01Code_c _ _ zs ts _ (hI.later hB0) (hT.later hB0) (by omega) (by omega)).mono ?_
    rintro e w1 ⟨rfl, hb⟩
    go_wp2
    go_ret3
    exact ⟨ret_i3 Hf.out.1.symm Hf.out.2.1.symm Hf.out.2.2.symm, hB0.trans (hb.mono (by simp))⟩

end Go.Proofs.Ytimnmlidlbenhaa
