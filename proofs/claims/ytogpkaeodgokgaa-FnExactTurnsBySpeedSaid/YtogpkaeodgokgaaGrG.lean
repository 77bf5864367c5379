/-
  TasksOfGarden of both, and the model's l06Tasks.
  Conditions: lists of at most 1048576 elements; heights up to 100000.
-/
import Derived.Test.YtogpkaeodgokgaaGrT
namespace Go.Proofs.Ytogpkaeodgokgaa
open Go.RowKit Go.Shelf
attribute [local go_sem] Oper.semAt_some

/-! ### gaps for a height -/
def gapG (rs : List Int) (m : Int) (k : Nat) : Int := m / nth rs k
def gapsG (rs : List Int) (m : Int) (k : Nat) : List Int := (List.range k).map fun (i : Nat) => gapG rs m i
theorem gapsG_length (rs : List Int) (m : Int) (k : Nat) : (gapsG rs m k).length = k := by simp [gapsG]
theorem gapsG_succ (rs : List Int) (m : Int) (k : Nat) : gapsG rs m (k + 1) = gapsG rs m k ++ [gapG rs m k] := by simp [gapsG, List.range_succ]
theorem nth_gapsG {rs : List Int} {m : Int} {k j : Nat} (h : j < k) : nth (gapsG rs m k) j = gapG rs m j := by simp [nth, gapsG, h]
theorem gapG_bd {rs : List Int} {m : Int} {k : Nat} (h1 : 1 ≤ nth rs k) (h0 : 0 ≤ m) : 0 ≤ gapG rs m k ∧ gapG rs m k ≤ m :=
  ⟨Int.ediv_nonneg h0 (by omega), Int.ediv_le_self _ h0⟩
/-- is a gap too great? -/
def overG (rs : List Int) (m : Int) : Bool := (List.range rs.length).any fun (j : Nat) => decide (40 < gapG rs m j)
theorem overG_yes {rs : List Int} {m : Int} {k : Nat} (hk : k < rs.length) (h : 40 < gapG rs m k) : overG rs m = true := by
  unfold overG; rw [List.any_eq_true]; exact ⟨k, by simpa using hk, by simpa using h⟩
theorem overG_no {rs : List Int} {m : Int} (h : ∀ k, k < rs.length → gapG rs m k ≤ 40) : overG rs m = false := by
  unfold overG; rw [List.any_eq_false]; intro k hk; have := h k (by simpa using hk); simp; omega
theorem overG_at {rs : List Int} {m : Int} (h : overG rs m = true) : ∃ k, k < rs.length ∧ 40 < gapG rs m k := by
  unfold overG at h; rw [List.any_eq_true] at h
  obtain ⟨k, hk, h⟩ := h
  exact ⟨k, by simpa using hk, by simpa using h⟩
theorem overG_all {rs : List Int} {m : Int} (h : overG rs m = false) {k : Nat} (hk : k < rs.length) : gapG rs m k ≤ 40 := by
  unfold overG at h; rw [List.any_eq_false] at h
  have := h k (by simpa using hk)
  simpa using this
def tgC (rs : List Int) (m : Int) : Int := if gardenOk rs = true then if inB m (mostK rs rs.length) 1000 = true then if overG rs m = true then 4 else 0 else 2 else 1
def tgR (rs : List Int) (m : Int) : List Int := if tgC rs m = 0 then gapsG rs m rs.length else []
theorem tgR_len (rs : List Int) (m : Int) : (tgR rs m).length * 8 ≤ 140737488351232 := by
  unfold tgR
  split
  · rename_i h
    have hg : gardenOk rs = true := by
      unfold tgC at h
      split at h
      · assumption
      · omega
    have := gardenOk_len hg
    rw [gapsG_length]; omega
  · simp
theorem tg_one {rs : List Int} {m : Int} (h : gardenOk rs = false) : tgC rs m = 1 ∧ tgR rs m = [] := by
  have : tgC rs m = 1 := by unfold tgC; rw [if_neg (by rw [h]; simp)]
  exact ⟨this, by unfold tgR; rw [if_neg (by omega)]⟩
theorem tg_two {rs : List Int} {m : Int} (h : gardenOk rs = true) (h2 : inB m (mostK rs rs.length) 1000 = false) : tgC rs m = 2 ∧ tgR rs m = [] := by
  have : tgC rs m = 2 := by unfold tgC; rw [if_pos h, if_neg (by rw [h2]; simp)]
  exact ⟨this, by unfold tgR; rw [if_neg (by omega)]⟩
theorem tg_four {rs : List Int} {m : Int} (h : gardenOk rs = true) (h2 : inB m (mostK rs rs.length) 1000 = true) (h3 : overG rs m = true) : tgC rs m = 4 ∧ tgR rs m = [] := by
  have : tgC rs m = 4 := by unfold tgC; rw [if_pos h, if_pos h2, if_pos h3]
  exact ⟨this, by unfold tgR; rw [if_neg (by omega)]⟩
theorem tg_none {rs : List Int} {m : Int} (h : gardenOk rs = true) (h2 : inB m (mostK rs rs.length) 1000 = true) (h3 : overG rs m = false) : tgC rs m = 0 ∧ tgR rs m = gapsG rs m rs.length := by
  have : tgC rs m = 0 := by unfold tgC; rw [if_pos h, if_pos h2, if_neg (by rw [h3]; simp)]
  exact ⟨this, by unfold tgR; rw [if_pos this]⟩

/-! ### the greatest of numbers -/
theorem mostTo_in {ts : List Int} {k : Nat} (hk : k ≤ ts.length) (h0 : 0 < k) (hb : ∀ j, j < ts.length → -1 ≤ nth ts j) : ∃ j, j < k ∧ mostTo ts k = nth ts j := by
  induction k with
  | zero => omega
  | succ k ih =>
    rw [mostTo_succ (by omega)]
    by_cases hk0 : 0 < k
    · obtain ⟨j, hj, e⟩ := ih (by omega) hk0
      by_cases hm : mostTo ts k ≤ nth ts k
      · exact ⟨k, by omega, by omega⟩
      · exact ⟨j, by omega, by omega⟩
    · obtain rfl : k = 0 := by omega
      have := hb 0 (by omega)
      exact ⟨0, by omega, by simp [mostTo]; omega⟩
theorem mostTo_up {ts : List Int} {k j : Nat} (hk : k ≤ ts.length) (hj : j < k) : nth ts j ≤ mostTo ts k := by
  induction k with
  | zero => omega
  | succ k ih =>
    rw [mostTo_succ (by omega)]
    by_cases e : j = k
    · subst e; omega
    · have := ih (by omega) (by omega); omega
theorem most_rates {rs : List Int} (h : gardenOk rs = true) : most rs = mostK rs rs.length := by
  have h8 := gardenOk_len h
  have : ∀ k, 0 < k → k ≤ rs.length → mostTo rs k = mostK rs k := by
    intro k
    induction k with
    | zero => intro h0; omega
    | succ k ih =>
      intro _ hk
      have h1 := gardenOk_nth h (k := k) (by omega)
      rw [mostTo_succ (by omega)]
      unfold mostK
      by_cases hk0 : 0 < k
      · rw [ih hk0 (by omega)]
      · obtain rfl : k = 0 := by omega
        simp [mostTo, mostK]; omega
  exact this _ (by omega) (Nat.le_refl _)
theorem over_most {rs : List Int} {m : Int} (h : gardenOk rs = true) (h0 : 0 ≤ m) : decide (40 < most (gapsG rs m rs.length)) = overG rs m := by
  have h8 := gardenOk_len h
  have hl := gapsG_length rs m rs.length
  cases ho : overG rs m
  · refine decide_eq_false fun hc => ?_
    obtain ⟨j, hj, e⟩ := mostTo_in (ts := gapsG rs m rs.length) (Nat.le_refl _) (by omega) (fun j hj => by
      rw [nth_gapsG (by omega)]
      have := gapG_bd (m := m) (gardenOk_nth h (k := j) (by omega)).1 h0; omega)
    have := overG_all ho (k := j) (by omega)
    unfold most at hc
    rw [e, nth_gapsG (by omega)] at hc
    omega
  · obtain ⟨k, hk, h4⟩ := overG_at ho
    have := mostTo_up (ts := gapsG rs m rs.length) (j := k) (Nat.le_refl _) (by omega)
    rw [nth_gapsG hk] at this
    exact decide_eq_true (by unfold most; omega)

set_option maxRecDepth 100000 in
set_option maxHeartbeats 8000000 in
theorem maxR_c (sv : Value) (ts : List Int) (w : World) (hI : Ints w.heap.size w sv ts) (hl0 : 0 < ts.length) (hl : ts.length ≤ 1000) (hbd : ∀ k, k < ts.length → 0 ≤ nth ts k ∧ nth ts k ≤ 1000000) :
    Calls Try.prog 107 #[sv] w fun e w' => e = .returned (.int .i64 (most ts)) ∧ w = w' := by
  obtain ⟨a, cap, rfl⟩ := hI.shape
  obtain ⟨b, off, rfl, hbb, hc⟩ := hI.at_ hl0
  have h0 : w.cell? ⟨b, off, none⟩ = some (.int .i64 (nth ts 0)) := by simpa using hc 0 (by omega)
  have e1 : mostTo ts 1 = nth ts 0 := by
    have := hbd 0 hl0
    rw [mostTo_succ (by omega)]; simp [mostTo]; omega
  have hn0 := hbd 0 hl0
  go_enter Try.func107, Try.ntmps107
  clear hc
  go_wp2
  rw [← e1]
  clear e1 h0 hbd
  go_loop [4, 3] (fun i m => ∃ k : Nat, 1 ≤ k ∧ k ≤ ts.length ∧ i = .int .i64 k ∧ m = .int .i64 (mostTo ts k)) (fun i _ => ts.length - (intOf i).toNat)
  case atStart => exact ⟨1, Nat.le_refl _, hl0, rfl, rfl⟩
  case round =>
    obtain ⟨k, hk1, hk, rfl, rfl⟩ := hrel
    by_cases hlt : k < ts.length
    · obtain ⟨b2, off2, hs, hb2, hc⟩ := hI.at_ hlt
      cases hs
      have hcx := hc k hlt
      have hs := mostTo_succ hlt
      have Hs := Lib.hid hs
      clear hc hs
      go_wp2
      exact ⟨⟨k + 1, by omega, by omega, by simp, by rw [Hs.out]; congr 1; omega⟩, by simp [intOf]; omega⟩
    · obtain rfl : k = ts.length := by omega
      go_wp2
      go_ret
      exact ⟨ret_int rfl, rfl⟩

/-! ### the model -/
theorem own_ne_box {B b : Nat} {W : World} {v u : Value} {zs : List Int} (h : OwnI B W v zs) (hb : Boxed W b 29 u) : v.ownBlock ≠ some b := fun e => by
  obtain ⟨_, h2⟩ := h
  have hb' : W.heap[b]? = _ := hb
  rcases h2 with ⟨e2, _⟩ | ⟨g, cap, cur, e2, _, hh, _⟩
  · rw [e2] at e; simp [Value.ownBlock] at e
  · rw [e2] at e; simp [Value.ownBlock] at e; subst e; rw [hb'] at hh; simp at hh
/-- what the model's tasks hand back -/
def LTPost (w : World) (rs : List Int) (m : Int) (e : Ending) (w' : World) : Prop :=
  (overG rs m = false ∧ ∃ v, e = .returned (.tuple #[.agg #[v], .bool true]) ∧ OwnI w.heap.size w' v (gapsG rs m rs.length) ∧ Below w.heap.size w w') ∨
  (overG rs m = true ∧ e = .returned (.tuple #[.agg #[.slice none 0 0], .bool false]) ∧ Below w.heap.size w w')

set_option maxRecDepth 100000 in
set_option maxHeartbeats 8000000 in
theorem l06Tasks_c (c0 : Value) (rs : List Int) (m : Int) (w : World) (hI : Ints w.heap.size w c0 rs) (hg : gardenOk rs = true) (h0 : 0 ≤ m) (h1 : m ≤ 100000) :
    Calls Try.prog 109 #[.agg #[c0], .int .i64 m] w (LTPost w rs m) := by
  obtain ⟨i0, hi, hz0, hz1, hz2⟩ := info_parts Try.infoI
  obtain ⟨a, cap, rfl⟩ := hI.shape
  have hl8 := gardenOk_len hg
  obtain ⟨W0, hW0⟩ : ∃ W0, (((w.alloc (.cells #[.slice a rs.length cap] 48)).alloc (.cells #[.slice none 0 0] 29)).alloc (.cells #[] 2)).alloc (.cells #[.slice (some ⟨w.heap.size + 1 + 1, 0, none⟩) 0 0] 29) = W0 := ⟨_, rfl⟩
  have hB0 : Below w.heap.size w W0 := by rw [← hW0]; exact ((((Below.refl _ w).alloc (Nat.le_refl _) _).alloc (by simp) _).alloc (by simp; omega) _).alloc (by simp; omega) _
  have hs0 : w.heap.size + 4 ≤ W0.heap.size := by rw [← hW0]; simp
  have bG : Boxed W0 w.heap.size 48 (.slice a rs.length cap) := by rw [← hW0]; repeat first | (refine boxed_at ?_; (simp; done)) | refine Boxed.alloc ?_ _
  have bR : Boxed W0 (w.heap.size + 1) 29 (.slice none 0 0) := by rw [← hW0]; repeat first | (refine boxed_at ?_; (simp; done)) | refine Boxed.alloc ?_ _
  have bO : Boxed W0 (w.heap.size + 1 + 1 + 1) 29 (.slice (some ⟨w.heap.size + 1 + 1, 0, none⟩) 0 0) := by rw [← hW0]; repeat first | (refine boxed_at ?_; (simp; done)) | refine Boxed.alloc ?_ _
  have ho0 : OwnI (w.heap.size + 1 + 1) W0 (.slice (some ⟨w.heap.size + 1 + 1, 0, none⟩) 0 0) [] := by
    rw [← hW0]
    have := ownI_emptyG (B := w.heap.size + 1 + 1) ((w.alloc (.cells #[.slice a rs.length cap] 48)).alloc (.cells #[.slice none 0 0] 29)) (by simp)
    have h2 := this.below (W' := _) ((Below.refl _ _).alloc (Nat.le_refl _) (.cells #[.slice (some ⟨w.heap.size + 1 + 1, 0, none⟩) 0 0] 29))
    simpa using h2
  go_enter Try.func109, Try.ntmps109
  go_wp2
  try rw [hW0]
  clear hW0
  go_loopw [7] (fun i wr => ∃ (k : Nat) (v : Value), k ≤ rs.length ∧ i = .int .i64 k ∧ (∀ j, j < k → gapG rs m j ≤ 40) ∧ Boxed wr (w.heap.size + 1 + 1 + 1) 29 v ∧ OwnI (w.heap.size + 1 + 1) wr v (gapsG rs m k) ∧ Boxed wr w.heap.size 48 (.slice a rs.length cap) ∧ Boxed wr (w.heap.size + 1) 29 (.slice none 0 0) ∧ Below w.heap.size w wr) (fun i _ => rs.length - (intOf i).toNat)
  case atStart => exact ⟨0, _, Nat.zero_le _, rfl, fun j hj => by omega, bO, ho0, bG, bR, hB0⟩
  case round =>
    obtain ⟨k, v, hk, rfl, hall, bO1, ho, bG1, bR1, hB⟩ := hrel
    have Hall := Lib.hid hall
    clear hall bO ho0 bG bR hB0
    have kG := bG1.cell
    have kO := bO1.cell
    have fO := bO1.frozen
    have hsw := hB.size
    have hbs := bO1.lt
    by_cases hlt : k < rs.length
    · obtain ⟨b, off, rfl, hb, hc⟩ := (hI.below hB).at_ hlt
      have hcx := hc k hlt
      have hr := gardenOk_nth hg hlt
      have hgb := gapG_bd (m := m) hr.1 h0
      have hz : nth rs k ≠ 0 := by omega
      have hdv : Int.tdiv m (nth rs k) = gapG rs m k := Int.tdiv_eq_ediv_of_nonneg h0
      have hdv2 : m / nth rs k = gapG rs m k := rfl
      obtain ⟨g, hgg⟩ : ∃ g : Int, gapG rs m k = g := ⟨_, rfl⟩
      have Hgg := Lib.hid hgg
      rw [hgg] at hgb hdv hdv2
      have hwg : IntKind.i64.wrap g = g := by rw [IntKind.wrap_i64]; omega
      clear hc hgg
      by_cases h40 : 40 < g
      · have Hov := Lib.hid (overG_yes hlt (m := m) (by rw [Hgg.out]; exact h40))
        have kR := bR1.cell
        have fR := bR1.frozen
        go_wp2
        have kR2 := (bR1.set (.slice none 0 0)).cell
        exact bodyPost_ret (v := .tuple #[.agg #[.slice none 0 0], .bool false]) (by simp [results, Try.results109, go_sem, kR2]) rfl (.inr ⟨Hov.out, rfl, hB.setCell (p := ⟨w.heap.size + 1, 0, none⟩) (by simp) _⟩)
      · have hsu := gapsG_succ rs m k
        rw [Hgg.out] at hsu
        have hlen := gapsG_length rs m k
        obtain ⟨xs, hxs⟩ : ∃ xs, gapsG rs m k = xs := ⟨_, rfl⟩
        rw [hxs] at ho hsu hlen
        have hlen2 : xs.length ≤ 8 := by omega
        have Hsu := Lib.hid hsu
        have hneB := own_ne_box ho bO1
        have hneR := own_ne_box ho bR1
        have HneB := Lib.hid hneB
        have HneR := Lib.hid hneR
        have hall2 : ∀ j, j < k + 1 → gapG rs m j ≤ 40 := fun j hj => by
          by_cases e : j = k
          · subst e; rw [Hgg.out]; omega
          · exact Hall.out j (by omega)
        have Hall2 := Lib.hid hall2
        have hB2 : Below w.heap.size w wr := hB
        clear hsu hlen hxs hneB hneR hall2
        go_wp2_with (at_builtin; refine wpList_append_own _ rfl _ _ 22 rfl (w.heap.size+1+1) 2 i0 (.int .i64 0) 1 8 Try.underlying22 hi hz0 hz1 hz2 rfl (by decide) _ _ _ rfl (World.ownsRow.alloc ho _) ⟨wr.heap.size, 0, none⟩ 1 1 [.int .i64 (g)] rfl rfl (Go.cell_one_new _ _ _) (by simp [Value.oneCell']) (by unfold maxLen; omega) (by omega) (by simp; omega) ?_)
        intro v' w1 hown' hgrow _
        have ho2 := ownI_snoc hown'
        have hB2 : Below w.heap.size w w1 := (hB.alloc hsw _).grown hgrow (by simp; omega) (fun j e => by have := (ho.blk j e).1; omega)
        have hgr : wr.grownBy w1 _ := (World.grownBy_alloc _ _ _).trans hgrow
        clear hown' hgrow
        have bO2 := bO1.kept hgr (fun e => HneB.out e.symm)
        have bG2 := bG1.kept hgr (fun e => by have := (ho.blk _ e.symm).1; omega)
        have bR2 := bR1.kept hgr (fun e => HneR.out e.symm)
        have kO2 := bO2.cell
        have fO2 := bO2.frozen
        have hne2 := own_ne_box ho2 bO2
        obtain ⟨av, cv, ev⟩ := ho2.ints.shape
        rw [show (xs ++ [g]).length = xs.length + 1 by simp] at ev
        subst ev
        have Hne2 := Lib.hid hne2
        clear hgr kO fO kG hne2
        go_wp2
        go_roundw
        case rel => exact ⟨k + 1, _, by omega, by simp, Hall2.out, bO2.set _, by rw [Hsu.out]; exact ho2.kept (grownBy_setCell2 _ _ _ _) (.inr Hne2.out), bG2.kept (grownBy_setCell2 _ _ _ _) (by simp; omega), bR2.kept (grownBy_setCell2 _ _ _ _) (by simp), hB2.setCell (p := ⟨w.heap.size + 1 + 1 + 1, 0, none⟩) (by simp; omega) _⟩
        case measure => simp [intOf]; omega
    · obtain rfl : k = rs.length := by omega
      have Hov := Lib.hid (overG_no Hall.out)
      have kR := bR1.cell
      have fR := bR1.frozen
      obtain ⟨av, cv, ev⟩ := ho.ints.shape
      rw [gapsG_length] at ev
      subst ev
      have hneR := own_ne_box ho bR1
      go_wp2
      have kR2 := (bR1.set (.slice av rs.length cv)).cell
      exact bodyPost_ret (v := .tuple #[.agg #[.slice av rs.length cv], .bool true]) (by simp [results, Try.results109, go_sem, kR2]) rfl (.inl ⟨Hov.out, _, rfl, (ho.kept (grownBy_setCell2 _ _ _ _) (.inr hneR)).base (by omega), hB.setCell (p := ⟨w.heap.size + 1, 0, none⟩) (by simp) _⟩)

set_option maxRecDepth 100000 in
set_option maxHeartbeats 8000000 in
theorem s_TasksOfGarden (c0 : Value) (rs : List Int) (m : Int) (w : World) (hI : Ints w.heap.size w c0 rs) (_hN : I64s rs) (hm : rs.length ≤ 1048576) (_hx : I64 m) :
    Calls Try.prog 61 #[.agg #[c0], .int .i64 m] w (GivesI w (tgR rs m) fun v => .tuple #[.agg #[v], .int .i64 (tgC rs m)]) := by
  obtain ⟨a, cap, rfl⟩ := hI.shape
  cases hg : gardenOk rs
  · have H := Lib.hid (tg_one (m := m) hg)
    go_enter Try.func61, Try.ntmps61
    go_wp2_with fail
    obtain ⟨W0, hW0⟩ : ∃ W0, ((w.alloc (.cells #[.slice a rs.length cap] 48)).alloc (.cells #[.slice none 0 0] 29)) = W0 := ⟨_, rfl⟩
    have hB0 : Below w.heap.size w W0 := by rw [← hW0]; exact (((Below.refl _ w).alloc (Nat.le_refl _) _).alloc (by simp; try omega) _)
    have hs0 : w.heap.size + 2 ≤ W0.heap.size := by rw [← hW0]; simp
    have bG : Boxed W0 (w.heap.size) 48 (.slice a rs.length cap) := by rw [← hW0]; repeat first | (refine boxed_at ?_; (simp; done)) | refine Boxed.alloc ?_ _
    have bR : Boxed W0 (w.heap.size + 1) 29 (.slice none 0 0) := by rw [← hW0]; repeat first | (refine boxed_at ?_; (simp; done)) | refine Boxed.alloc ?_ _
    rw [hW0]
    clear hW0
    refine (l06Is_d false _ rs _ (hI.later hB0) (by omega) hg).mono ?_
    rintro e w1 ⟨rfl, hb⟩
    replace bR := boxed_later bR hb
    have hB1 := hB0.trans (hb.mono hB0.size)
    have kR := bR.cell
    have fR := bR.frozen
    go_wp2
    have kR2 := (bR.set (.slice none 0 0)).cell
    exact bodyPost_ret (v := .tuple #[.agg #[.slice none 0 0], .int .i64 1]) (by simp [results, Try.results61, go_sem, kR2]) rfl ⟨.slice none 0 0, by rw [H.out.1], by rw [H.out.2]; exact ownI_nil _ _, hB1.setCell (p := ⟨w.heap.size + 1, 0, none⟩) (by simp) _⟩
  · cases h2 : inB m (mostK rs rs.length) 1000
    · have H := Lib.hid (tg_two hg h2)
      have H2 := Lib.hid h2
      clear h2
      go_enter Try.func61, Try.ntmps61
      go_wp2_with fail
      obtain ⟨W0, hW0⟩ : ∃ W0, ((w.alloc (.cells #[.slice a rs.length cap] 48)).alloc (.cells #[.slice none 0 0] 29)) = W0 := ⟨_, rfl⟩
      have hB0 : Below w.heap.size w W0 := by rw [← hW0]; exact (((Below.refl _ w).alloc (Nat.le_refl _) _).alloc (by simp; try omega) _)
      have hs0 : w.heap.size + 2 ≤ W0.heap.size := by rw [← hW0]; simp
      have bG : Boxed W0 (w.heap.size) 48 (.slice a rs.length cap) := by rw [← hW0]; repeat first | (refine boxed_at ?_; (simp; done)) | refine Boxed.alloc ?_ _
      have bR : Boxed W0 (w.heap.size + 1) 29 (.slice none 0 0) := by rw [← hW0]; repeat first | (refine boxed_at ?_; (simp; done)) | refine Boxed.alloc ?_ _
      rw [hW0]
      clear hW0
      refine (l06Is_d true _ rs _ (hI.later hB0) (by omega) hg).mono ?_
      rintro e w1 ⟨rfl, hb⟩
      replace bR := boxed_later bR hb
      replace bG := boxed_later bG hb
      have hB1 := hB0.trans (hb.mono hB0.size)
      have kG := bG.cell
      clear hb hB0
      go_wp2_with fail
      refine (l06Sum_c _ rs _ (hI.later hB1) hg).mono ?_
      rintro e w2 ⟨rfl, hb⟩
      replace bR := boxed_later bR hb
      replace bG := boxed_later bG hb
      have hB2 := hB1.trans (hb.mono hB1.size)
      have kR := bR.cell
      have fR := bR.frozen
      clear hb hB1 kG
      go_wp2_with (go_at_call 86; refine (l01In_d false _ _ _ _ H2.out).mono ?_; rintro e w' ⟨rfl, rfl⟩)
      have kR2 := (bR.set (.slice none 0 0)).cell
      exact bodyPost_ret (v := .tuple #[.agg #[.slice none 0 0], .int .i64 2]) (by simp [results, Try.results61, go_sem, kR2]) rfl ⟨.slice none 0 0, by rw [H.out.1], by rw [H.out.2]; exact ownI_nil _ _, hB2.setCell (p := ⟨w.heap.size + 1, 0, none⟩) (by simp) _⟩
    · have H2 := Lib.hid h2
      have hmb := inB_true.1 h2
      have hmk := mostK_bd hg (Nat.le_refl rs.length)
      have Htg4 := Lib.hid (tg_four (m := m) hg h2)
      have Htg0 := Lib.hid (tg_none (m := m) hg h2)
      clear h2
      go_enter Try.func61, Try.ntmps61
      go_wp2_with fail
      obtain ⟨W0, hW0⟩ : ∃ W0, ((w.alloc (.cells #[.slice a rs.length cap] 48)).alloc (.cells #[.slice none 0 0] 29)) = W0 := ⟨_, rfl⟩
      have hB0 : Below w.heap.size w W0 := by rw [← hW0]; exact (((Below.refl _ w).alloc (Nat.le_refl _) _).alloc (by simp; try omega) _)
      have hs0 : w.heap.size + 2 ≤ W0.heap.size := by rw [← hW0]; simp
      have bG : Boxed W0 (w.heap.size) 48 (.slice a rs.length cap) := by rw [← hW0]; repeat first | (refine boxed_at ?_; (simp; done)) | refine Boxed.alloc ?_ _
      have bR : Boxed W0 (w.heap.size + 1) 29 (.slice none 0 0) := by rw [← hW0]; repeat first | (refine boxed_at ?_; (simp; done)) | refine Boxed.alloc ?_ _
      rw [hW0]
      clear hW0
      refine (l06Is_d true _ rs _ (hI.later hB0) (by omega) hg).mono ?_
      rintro e w1 ⟨rfl, hb⟩
      replace bR := boxed_later bR hb
      replace bG := boxed_later bG hb
      have hB1 := hB0.trans (hb.mono hB0.size)
      have kG := bG.cell
      clear hb hB0
      go_wp2_with fail
      refine (l06Sum_c _ rs _ (hI.later hB1) hg).mono ?_
      rintro e w2 ⟨rfl, hb⟩
      replace bR := boxed_later bR hb
      replace bG := boxed_later bG hb
      have hB2 := hB1.trans (hb.mono hB1.size)
      have kG2 := bG.cell
      clear hb hB1 kG
      go_wp2_with (go_at_call 86; refine (l01In_d true _ _ _ _ H2.out).mono ?_; rintro e w' ⟨rfl, rfl⟩)
      refine (l06Tasks_c _ rs m _ (hI.later hB2) hg (by omega) (by omega)).mono ?_
      have hs2 := bR.lt
      rintro e w3 (⟨hov, v, rfl, ho, hb⟩ | ⟨hov, rfl, hb⟩)
      · have H := Lib.hid (Htg0.out hov)
        replace bR := boxed_later bR hb
        have hB3 := hB2.trans (hb.mono hB2.size)
        obtain ⟨av, cv, rfl⟩ := ho.ints.shape
        have hs3 := hb.size
        have bR3 := bR.alloc (.cells #[.slice av (gapsG rs m rs.length).length cv] 29)
        have bO3 : Boxed (w3.alloc (.cells #[.slice av (gapsG rs m rs.length).length cv] 29)) w3.heap.size 29 (.slice av (gapsG rs m rs.length).length cv) := Boxed.new _ _ _
        have ho3 := ho.below ((Below.refl _ w3).alloc (Nat.le_refl _) (.cells #[.slice av (gapsG rs m rs.length).length cv] 29))
        have hB4 := hB3.alloc hB3.size (.cells #[.slice av (gapsG rs m rs.length).length cv] 29)
        obtain ⟨W4, hW4⟩ : ∃ W4, w3.alloc (.cells #[.slice av (gapsG rs m rs.length).length cv] 29) = W4 := ⟨_, rfl⟩
        rw [hW4] at bR3 bO3 ho3 hB4
        have kR := bR3.cell
        have fR := bR3.frozen
        have kO := bO3.cell
        have fO := bO3.frozen
        have hne := own_ne_box ho3 bR3
        obtain ⟨n, hn⟩ : ∃ n, (gapsG rs m rs.length).length = n := ⟨_, rfl⟩
        rw [hn] at kO bO3 hW4 hne ⊢
        have Hn := Lib.hid hn
        clear hb ho bR hn
        go_wp2
        have kR2 := (bR3.set (.slice av n cv)).cell
        rw [Hn.out] at ho3
        exact bodyPost_ret (v := .tuple #[.agg #[.slice av n cv], .int .i64 0]) (by simp [results, Try.results61, go_sem, kR2]) rfl ⟨.slice av n cv, by rw [H.out.1], by rw [H.out.2]; exact (ho3.kept (grownBy_setCell2 _ _ _ _) (.inr hne)).base hB2.size, hB4.setCell (p := ⟨w.heap.size + 1, 0, none⟩) (by simp) _⟩
      · have H := Lib.hid (Htg4.out hov)
        replace bR := boxed_later bR hb
        have hB3 := hB2.trans (hb.mono hB2.size)
        have hs3 := hb.size
        have hlR := bR.lt
        have bR2 := (bR.set (.slice none 0 0)).alloc (.cells #[.slice none 0 0] 29)
        have hB4 := hB3.setCell (p := ⟨w.heap.size + 1, 0, none⟩) (by simp) (.slice none 0 0)
        have hB5 := hB4.alloc hB4.size (.cells #[.slice none 0 0] 29)
        have kR := bR.cell
        have fR := bR.frozen
        have kR2 := bR2.cell
        clear hb bR
        go_wp2
        exact bodyPost_ret (v := .tuple #[.agg #[.slice none 0 0], .int .i64 4]) (by simp [results, Try.results61, go_sem, kR2]) rfl ⟨.slice none 0 0, by rw [H.out.1], by rw [H.out.2]; exact ownI_nil _ _, hB5⟩

/-! ### the program -/

set_option maxRecDepth 100000 in
set_option maxHeartbeats 16000000 in
theorem i_TasksOfGarden (c0 : Value) (rs : List Int) (m : Int) (w : World) (hI : Ints w.heap.size w c0 rs) (_hN : I64s rs) (hm : rs.length ≤ 1048576) (_hx : I64 m) :
    Calls Try.prog 62 #[.agg #[c0], .int .i64 m] w (GivesI w (tgR rs m) fun v => .tuple #[.agg #[v], .int .i64 (tgC rs m)]) := by
  obtain ⟨i0, hi, hz0, hz1, hz2⟩ := info_parts Try.infoI
  obtain ⟨a, cap, rfl⟩ := hI.shape
  have hfw : Try.prog.follows Departure.mixedOrders = true := by kernel_rfl
  refine (callsIn_wide (n := 9)).1 ?_
  cases hg : gardenOk rs
  · have H := Lib.hid (tg_one (m := m) hg)
    refine callsIn_of_wp_marks Try.func62 rfl trivial ?_ rfl
    simp only [Try.ntmps62, List.size_toArray, List.length_cons, List.length_nil, Nat.reduceAdd, Nat.reduceSub, Array.replicate_succ, Array.replicate_zero, List.push_toArray, List.append_toArray, List.nil_append, List.cons_append]
    gi_wp2_with fail
    obtain ⟨W0, hW0⟩ : ∃ W0, (((w.alloc (.cells #[.slice a rs.length cap] 48)).alloc (.cells #[.int .i64 m] 2)).alloc (.cells #[.slice none 0 0] 29)) = W0 := ⟨_, rfl⟩
    have hB0 : Below w.heap.size w W0 := by rw [← hW0]; exact ((((Below.refl _ w).alloc (Nat.le_refl _) _).alloc (by simp; try omega) _).alloc (by simp; try omega) _)
    have hs0 : w.heap.size + 3 ≤ W0.heap.size := by rw [← hW0]; simp
    have bG : Boxed W0 (w.heap.size) 48 (.slice a rs.length cap) := by rw [← hW0]; repeat first | (refine boxed_at ?_; (simp; done)) | refine Boxed.alloc ?_ _
    have bM : Boxed W0 (w.heap.size + 1) 2 (.int .i64 m) := by rw [← hW0]; repeat first | (refine boxed_at ?_; (simp; done)) | refine Boxed.alloc ?_ _
    have bR : Boxed W0 (w.heap.size + 1 + 1) 29 (.slice none 0 0) := by rw [← hW0]; repeat first | (refine boxed_at ?_; (simp; done)) | refine Boxed.alloc ?_ _
    rw [hW0]
    clear hW0
    refine ⟨trivial, (callsIn_wide.2 (isGarden_d false _ rs _ (hI.later hB0) (by omega) hg)).mono ?_⟩
    rintro e w1 ⟨rfl, hb⟩
    have hB1 := hB0.trans (hb.mono hB0.size)
    replace bG := boxed_later bG hb
    replace bM := boxed_later bM hb
    replace bR := boxed_later bR hb
    have hs1 : w.heap.size + 3 ≤ w1.heap.size := Nat.le_trans hs0 hb.size
    clear hb hB0 hs0
    have kR := bR.cell
    have fR := bR.frozen
    gi_wp2
    have kR2 := (bR.set (.slice none 0 0)).cell
    exact retM0 ⟨.tuple #[.agg #[.slice none 0 0], .int .i64 1], by simp [results, Try.results62, go_sem, kR2], ⟨.slice none 0 0, by rw [H.out.1], by rw [H.out.2]; exact ownI_nil _ _, hB1.setCell (p := ⟨w.heap.size + 1 + 1, 0, none⟩) (by simp; omega) _⟩⟩
  · have hl8 := gardenOk_len hg
    have hmk := mostK_bd hg (Nat.le_refl rs.length)
    have hmr := most_rates hg
    have hrb : ∀ k, k < rs.length → 0 ≤ nth rs k ∧ nth rs k ≤ 1000000 := fun k hk => by have := gardenOk_nth hg hk; omega
    by_cases hlow : m < mostK rs rs.length
    · have H := Lib.hid (tg_two hg (inB_false.2 (.inl hlow)))
      have hdl : decide (m < mostK rs rs.length) = true := decide_eq_true hlow
      refine callsIn_of_wp_marks Try.func62 rfl trivial ?_ rfl
      simp only [Try.ntmps62, List.size_toArray, List.length_cons, List.length_nil, Nat.reduceAdd, Nat.reduceSub, Array.replicate_succ, Array.replicate_zero, List.push_toArray, List.append_toArray, List.nil_append, List.cons_append]
      gi_wp2_with fail
      obtain ⟨W0, hW0⟩ : ∃ W0, (((w.alloc (.cells #[.slice a rs.length cap] 48)).alloc (.cells #[.int .i64 m] 2)).alloc (.cells #[.slice none 0 0] 29)) = W0 := ⟨_, rfl⟩
      have hB0 : Below w.heap.size w W0 := by rw [← hW0]; exact ((((Below.refl _ w).alloc (Nat.le_refl _) _).alloc (by simp; try omega) _).alloc (by simp; try omega) _)
      have hs0 : w.heap.size + 3 ≤ W0.heap.size := by rw [← hW0]; simp
      have bG : Boxed W0 (w.heap.size) 48 (.slice a rs.length cap) := by rw [← hW0]; repeat first | (refine boxed_at ?_; (simp; done)) | refine Boxed.alloc ?_ _
      have bM : Boxed W0 (w.heap.size + 1) 2 (.int .i64 m) := by rw [← hW0]; repeat first | (refine boxed_at ?_; (simp; done)) | refine Boxed.alloc ?_ _
      have bR : Boxed W0 (w.heap.size + 1 + 1) 29 (.slice none 0 0) := by rw [← hW0]; repeat first | (refine boxed_at ?_; (simp; done)) | refine Boxed.alloc ?_ _
      rw [hW0]
      clear hW0
      refine ⟨trivial, (callsIn_wide.2 (isGarden_d true _ rs _ (hI.later hB0) (by omega) hg)).mono ?_⟩
      rintro e w1 ⟨rfl, hb⟩
      have hB1 := hB0.trans (hb.mono hB0.size)
      replace bG := boxed_later bG hb
      replace bM := boxed_later bM hb
      replace bR := boxed_later bR hb
      have hs1 : w.heap.size + 3 ≤ w1.heap.size := Nat.le_trans hs0 hb.size
      clear hb hB0 hs0
      gi_wp2_with fail
      refine wpIn_wide.2 (wp_region_noPanic (wp_region_held_drew (S := fun w' => Below w1.heap.size w1 w') hfw (Below.refl _ _).drew ?_))
      intro hS0
      refine wpAnyH_take (i := 0) (v := ?vp10) rfl (by kernel_rfl) (by kernel_rfl) (by kernel_rfl) (fun _ _ _ h => h) (.inl ⟨by first | kernel_rfl | rfl, ?yp10⟩) hS0 ?_
      case yp10 =>
        intro w' hS
        (have k1 := (boxed_later bM hS).cell; clear hS)
        go_simp
        try with_reducible rfl
      refine wpAnyH_take (i := 1) (v := ?vp21) rfl (by kernel_rfl) (by kernel_rfl) (by kernel_rfl) (fun _ _ _ h => h) (.inl ⟨by first | kernel_rfl | rfl, ?yp21⟩) hS0 ?_
      case yp21 =>
        intro w' hS
        (have k1 := (boxed_later bG hS).cell; clear hS)
        go_simp
        try with_reducible rfl
      refine wpAnyH_take (i := 2) (v := ?vp22) rfl (by kernel_rfl) (by kernel_rfl) (by kernel_rfl) (fun _ _ _ h => h) (.inl ⟨by first | kernel_rfl | rfl, ?yp22⟩) hS0 ?_
      case yp22 =>
        intro w' hS
        (have k1 := (boxed_later bG hS).cell; clear hS)
        go_simp
        try with_reducible rfl
      try simp only [Act.put, List.getElem_toArray, List.getElem_cons_zero, List.getElem_cons_succ, List.setIfInBounds_toArray, List.set_cons_zero, List.set_cons_succ]
      refine wpAnyH_ready (rs := [3]) (by kernel_rfl) (by simp) ?_
      refine AllReadyH.cons rfl (fun K' hK' => ?_) AllReadyH.nil
      rw [if_pos (by first | kernel_rfl | rfl)]
      go_simp
      refine (maxR_c _ rs _ ((hI.later hB1).later hS0) (by omega) (by omega) hrb).mono ?_
      rintro e w2 ⟨rfl, hw2⟩
      subst hw2
      rw [hmr]
      refine hK'.out _ _ hS0 fun hS1 => ?_
      refine wpAnyH_take (i := 4) (v := (.bool true)) rfl (by kernel_rfl) (by kernel_rfl) (by kernel_rfl) (fun _ _ _ h => h) (.inl ⟨by first | kernel_rfl | rfl, ?yp34⟩) hS1 ?_
      case yp34 =>
        intro w' hS
        (clear hS)
        go_simp
        first | done | (simp; done) | (simp; omega) | omega | (simp [*]; done)
      refine wpAnyH_take (i := 5) (v := (.bool true)) rfl (by kernel_rfl) (by kernel_rfl) (by kernel_rfl) (fun _ _ _ h => h) (.inl ⟨by first | kernel_rfl | rfl, ?yp45⟩) hS1 ?_
      case yp45 =>
        intro w' hS
        (clear hS)
        go_simp
        first | done | (simp; done) | (simp; omega) | omega | (simp [*]; done)
      refine wpAnyH_take (i := 6) (v := undef) rfl (by kernel_rfl) (by kernel_rfl) (by kernel_rfl) (fun _ _ _ h => h) (.inr ⟨by kernel_rfl, rfl⟩) hS1 ?_
      refine wpAnyH_take (i := 7) (v := undef) rfl (by kernel_rfl) (by kernel_rfl) (by kernel_rfl) (fun _ _ _ h => h) (.inr ⟨by kernel_rfl, rfl⟩) hS1 ?_
      try simp only [Act.put, List.getElem_toArray, List.getElem_cons_zero, List.getElem_cons_succ, List.setIfInBounds_toArray, List.set_cons_zero, List.set_cons_succ]
      refine wpAnyH_take (i := 8) (v := (.bool true)) rfl (by kernel_rfl) (by kernel_rfl) (by kernel_rfl) (fun _ _ _ h => h) (.inl ⟨by first | kernel_rfl | rfl, ?yp78⟩) hS1 ?_
      case yp78 =>
        intro w' hS
        (clear hS)
        go_simp
        first | done | (simp; done) | (simp; omega) | omega | (simp [*]; done)
      refine wpAnyH_done (by kernel_rfl) (NoPanic.normal ?_) _
      have hB2 := hB1.trans (hS1.mono hB1.size)
      replace bG := boxed_later bG hS1
      replace bM := boxed_later bM hS1
      replace bR := boxed_later bR hS1
      have hs2 : w.heap.size + 3 ≤ w1.drew.heap.size := hs1
      obtain ⟨w2, hw2⟩ : ∃ w2, w1.drew = w2 := ⟨_, rfl⟩
      rw [hw2] at bG bM bR hB2 hs2
      try rw [hw2]
      clear hS0 hS1 hw2 hB1 hs1
      have kR := bR.cell
      have fR := bR.frozen
      gi_wp2
      have kR2 := (bR.set (.slice none 0 0)).cell
      exact retM0 ⟨.tuple #[.agg #[.slice none 0 0], .int .i64 2], by simp [results, Try.results62, go_sem, kR2], ⟨.slice none 0 0, by rw [H.out.1], by rw [H.out.2]; exact ownI_nil _ _, hB2.setCell (p := ⟨w.heap.size + 1 + 1, 0, none⟩) (by simp; omega) _⟩⟩
    by_cases hhi : 1000 < m
    · have H := Lib.hid (tg_two (rs := rs) hg (inB_false.2 (.inr hhi)))
      have hdl : decide (m < mostK rs rs.length) = false := decide_eq_false hlow
      have hdh : decide (1000 < m) = true := decide_eq_true hhi
      refine callsIn_of_wp_marks Try.func62 rfl trivial ?_ rfl
      simp only [Try.ntmps62, List.size_toArray, List.length_cons, List.length_nil, Nat.reduceAdd, Nat.reduceSub, Array.replicate_succ, Array.replicate_zero, List.push_toArray, List.append_toArray, List.nil_append, List.cons_append]
      gi_wp2_with fail
      obtain ⟨W0, hW0⟩ : ∃ W0, (((w.alloc (.cells #[.slice a rs.length cap] 48)).alloc (.cells #[.int .i64 m] 2)).alloc (.cells #[.slice none 0 0] 29)) = W0 := ⟨_, rfl⟩
      have hB0 : Below w.heap.size w W0 := by rw [← hW0]; exact ((((Below.refl _ w).alloc (Nat.le_refl _) _).alloc (by simp; try omega) _).alloc (by simp; try omega) _)
      have hs0 : w.heap.size + 3 ≤ W0.heap.size := by rw [← hW0]; simp
      have bG : Boxed W0 (w.heap.size) 48 (.slice a rs.length cap) := by rw [← hW0]; repeat first | (refine boxed_at ?_; (simp; done)) | refine Boxed.alloc ?_ _
      have bM : Boxed W0 (w.heap.size + 1) 2 (.int .i64 m) := by rw [← hW0]; repeat first | (refine boxed_at ?_; (simp; done)) | refine Boxed.alloc ?_ _
      have bR : Boxed W0 (w.heap.size + 1 + 1) 29 (.slice none 0 0) := by rw [← hW0]; repeat first | (refine boxed_at ?_; (simp; done)) | refine Boxed.alloc ?_ _
      rw [hW0]
      clear hW0
      refine ⟨trivial, (callsIn_wide.2 (isGarden_d true _ rs _ (hI.later hB0) (by omega) hg)).mono ?_⟩
      rintro e w1 ⟨rfl, hb⟩
      have hB1 := hB0.trans (hb.mono hB0.size)
      replace bG := boxed_later bG hb
      replace bM := boxed_later bM hb
      replace bR := boxed_later bR hb
      have hs1 : w.heap.size + 3 ≤ w1.heap.size := Nat.le_trans hs0 hb.size
      clear hb hB0 hs0
      gi_wp2_with fail
      refine wpIn_wide.2 (wp_region_noPanic (wp_region_held_drew (S := fun w' => Below w1.heap.size w1 w') hfw (Below.refl _ _).drew ?_))
      intro hS0
      refine wpAnyH_take (i := 0) (v := ?vp10) rfl (by kernel_rfl) (by kernel_rfl) (by kernel_rfl) (fun _ _ _ h => h) (.inl ⟨by first | kernel_rfl | rfl, ?yp10⟩) hS0 ?_
      case yp10 =>
        intro w' hS
        (have k1 := (boxed_later bM hS).cell; clear hS)
        go_simp
        try with_reducible rfl
      refine wpAnyH_take (i := 1) (v := ?vp21) rfl (by kernel_rfl) (by kernel_rfl) (by kernel_rfl) (fun _ _ _ h => h) (.inl ⟨by first | kernel_rfl | rfl, ?yp21⟩) hS0 ?_
      case yp21 =>
        intro w' hS
        (have k1 := (boxed_later bG hS).cell; clear hS)
        go_simp
        try with_reducible rfl
      refine wpAnyH_take (i := 2) (v := ?vp22) rfl (by kernel_rfl) (by kernel_rfl) (by kernel_rfl) (fun _ _ _ h => h) (.inl ⟨by first | kernel_rfl | rfl, ?yp22⟩) hS0 ?_
      case yp22 =>
        intro w' hS
        (have k1 := (boxed_later bG hS).cell; clear hS)
        go_simp
        try with_reducible rfl
      try simp only [Act.put, List.getElem_toArray, List.getElem_cons_zero, List.getElem_cons_succ, List.setIfInBounds_toArray, List.set_cons_zero, List.set_cons_succ]
      refine wpAnyH_ready (rs := [3]) (by kernel_rfl) (by simp) ?_
      refine AllReadyH.cons rfl (fun K' hK' => ?_) AllReadyH.nil
      rw [if_pos (by first | kernel_rfl | rfl)]
      go_simp
      refine (maxR_c _ rs _ ((hI.later hB1).later hS0) (by omega) (by omega) hrb).mono ?_
      rintro e w2 ⟨rfl, hw2⟩
      subst hw2
      rw [hmr]
      refine hK'.out _ _ hS0 fun hS1 => ?_
      refine wpAnyH_take (i := 4) (v := (.bool false)) rfl (by kernel_rfl) (by kernel_rfl) (by kernel_rfl) (fun _ _ _ h => h) (.inl ⟨by first | kernel_rfl | rfl, ?yp34⟩) hS1 ?_
      case yp34 =>
        intro w' hS
        (clear hS)
        go_simp
        first | done | (simp; done) | (simp; omega) | omega | (simp [*]; done)
      refine wpAnyH_take (i := 5) (v := (.bool false)) rfl (by kernel_rfl) (by kernel_rfl) (by kernel_rfl) (fun _ _ _ h => h) (.inl ⟨by first | kernel_rfl | rfl, ?yp45⟩) hS1 ?_
      case yp45 =>
        intro w' hS
        (clear hS)
        go_simp
        first | done | (simp; done) | (simp; omega) | omega | (simp [*]; done)
      refine wpAnyH_take (i := 6) (v := ?vp56) rfl (by kernel_rfl) (by kernel_rfl) (by kernel_rfl) (fun _ _ _ h => h) (.inl ⟨by first | kernel_rfl | rfl, ?yp56⟩) hS1 ?_
      case yp56 =>
        intro w' hS
        (have k1 := (boxed_later bM hS).cell; clear hS)
        go_simp
        try with_reducible rfl
      try simp only [Act.put, List.getElem_toArray, List.getElem_cons_zero, List.getElem_cons_succ, List.setIfInBounds_toArray, List.set_cons_zero, List.set_cons_succ]
      refine wpAnyH_take (i := 7) (v := (.bool true)) rfl (by kernel_rfl) (by kernel_rfl) (by kernel_rfl) (fun _ _ _ h => h) (.inl ⟨by first | kernel_rfl | rfl, ?yp67⟩) hS1 ?_
      case yp67 =>
        intro w' hS
        (clear hS)
        go_simp
        first | done | (simp; done) | (simp; omega) | omega | (simp [*]; done)
      refine wpAnyH_take (i := 8) (v := (.bool true)) rfl (by kernel_rfl) (by kernel_rfl) (by kernel_rfl) (fun _ _ _ h => h) (.inl ⟨by first | kernel_rfl | rfl, ?yp78⟩) hS1 ?_
      case yp78 =>
        intro w' hS
        (clear hS)
        go_simp
        first | done | (simp; done) | (simp; omega) | omega | (simp [*]; done)
      refine wpAnyH_done (by kernel_rfl) (NoPanic.normal ?_) _
      have hB2 := hB1.trans (hS1.mono hB1.size)
      replace bG := boxed_later bG hS1
      replace bM := boxed_later bM hS1
      replace bR := boxed_later bR hS1
      have hs2 : w.heap.size + 3 ≤ w1.drew.heap.size := hs1
      obtain ⟨w2, hw2⟩ : ∃ w2, w1.drew = w2 := ⟨_, rfl⟩
      rw [hw2] at bG bM bR hB2 hs2
      try rw [hw2]
      clear hS0 hS1 hw2 hB1 hs1
      have kR := bR.cell
      have fR := bR.frozen
      gi_wp2
      have kR2 := (bR.set (.slice none 0 0)).cell
      exact retM0 ⟨.tuple #[.agg #[.slice none 0 0], .int .i64 2], by simp [results, Try.results62, go_sem, kR2], ⟨.slice none 0 0, by rw [H.out.1], by rw [H.out.2]; exact ownI_nil _ _, hB2.setCell (p := ⟨w.heap.size + 1 + 1, 0, none⟩) (by simp; omega) _⟩⟩
    have hin : inB m (mostK rs rs.length) 1000 = true := inB_true.2 (by omega)
    have Htg4 := Lib.hid (tg_four (m := m) hg hin)
    have Htg0 := Lib.hid (tg_none (m := m) hg hin)
    have hdl : decide (m < mostK rs rs.length) = false := decide_eq_false hlow
    have hdh : decide (1000 < m) = false := decide_eq_false hhi
    have hm0 : 0 ≤ m := by omega
    have hm1 : m ≤ 1000 := by omega
    clear hin
    refine callsIn_of_wp_marks Try.func62 rfl trivial ?_ rfl
    simp only [Try.ntmps62, List.size_toArray, List.length_cons, List.length_nil, Nat.reduceAdd, Nat.reduceSub, Array.replicate_succ, Array.replicate_zero, List.push_toArray, List.append_toArray, List.nil_append, List.cons_append]
    gi_wp2_with fail
    obtain ⟨W0, hW0⟩ : ∃ W0, (((w.alloc (.cells #[.slice a rs.length cap] 48)).alloc (.cells #[.int .i64 m] 2)).alloc (.cells #[.slice none 0 0] 29)) = W0 := ⟨_, rfl⟩
    have hB0 : Below w.heap.size w W0 := by rw [← hW0]; exact ((((Below.refl _ w).alloc (Nat.le_refl _) _).alloc (by simp; try omega) _).alloc (by simp; try omega) _)
    have hs0 : w.heap.size + 3 ≤ W0.heap.size := by rw [← hW0]; simp
    have bG : Boxed W0 (w.heap.size) 48 (.slice a rs.length cap) := by rw [← hW0]; repeat first | (refine boxed_at ?_; (simp; done)) | refine Boxed.alloc ?_ _
    have bM : Boxed W0 (w.heap.size + 1) 2 (.int .i64 m) := by rw [← hW0]; repeat first | (refine boxed_at ?_; (simp; done)) | refine Boxed.alloc ?_ _
    have bR : Boxed W0 (w.heap.size + 1 + 1) 29 (.slice none 0 0) := by rw [← hW0]; repeat first | (refine boxed_at ?_; (simp; done)) | refine Boxed.alloc ?_ _
    rw [hW0]
    clear hW0
    refine ⟨trivial, (callsIn_wide.2 (isGarden_d true _ rs _ (hI.later hB0) (by omega) hg)).mono ?_⟩
    rintro e w1 ⟨rfl, hb⟩
    have hB1 := hB0.trans (hb.mono hB0.size)
    replace bG := boxed_later bG hb
    replace bM := boxed_later bM hb
    replace bR := boxed_later bR hb
    have hs1 : w.heap.size + 3 ≤ w1.heap.size := Nat.le_trans hs0 hb.size
    clear hb hB0 hs0
    gi_wp2_with fail
    refine wpIn_wide.2 (wp_region_noPanic (wp_region_held_drew (S := fun w' => Below w1.heap.size w1 w') hfw (Below.refl _ _).drew ?_))
    intro hS0
    refine wpAnyH_take (i := 0) (v := ?vp10) rfl (by kernel_rfl) (by kernel_rfl) (by kernel_rfl) (fun _ _ _ h => h) (.inl ⟨by first | kernel_rfl | rfl, ?yp10⟩) hS0 ?_
    case yp10 =>
      intro w' hS
      (have k1 := (boxed_later bM hS).cell; clear hS)
      go_simp
      try with_reducible rfl
    refine wpAnyH_take (i := 1) (v := ?vp21) rfl (by kernel_rfl) (by kernel_rfl) (by kernel_rfl) (fun _ _ _ h => h) (.inl ⟨by first | kernel_rfl | rfl, ?yp21⟩) hS0 ?_
    case yp21 =>
      intro w' hS
      (have k1 := (boxed_later bG hS).cell; clear hS)
      go_simp
      try with_reducible rfl
    refine wpAnyH_take (i := 2) (v := ?vp22) rfl (by kernel_rfl) (by kernel_rfl) (by kernel_rfl) (fun _ _ _ h => h) (.inl ⟨by first | kernel_rfl | rfl, ?yp22⟩) hS0 ?_
    case yp22 =>
      intro w' hS
      (have k1 := (boxed_later bG hS).cell; clear hS)
      go_simp
      try with_reducible rfl
    try simp only [Act.put, List.getElem_toArray, List.getElem_cons_zero, List.getElem_cons_succ, List.setIfInBounds_toArray, List.set_cons_zero, List.set_cons_succ]
    refine wpAnyH_ready (rs := [3]) (by kernel_rfl) (by simp) ?_
    refine AllReadyH.cons rfl (fun K' hK' => ?_) AllReadyH.nil
    rw [if_pos (by first | kernel_rfl | rfl)]
    go_simp
    refine (maxR_c _ rs _ ((hI.later hB1).later hS0) (by omega) (by omega) hrb).mono ?_
    rintro e w2 ⟨rfl, hw2⟩
    subst hw2
    rw [hmr]
    refine hK'.out _ _ hS0 fun hS1 => ?_
    refine wpAnyH_take (i := 4) (v := (.bool false)) rfl (by kernel_rfl) (by kernel_rfl) (by kernel_rfl) (fun _ _ _ h => h) (.inl ⟨by first | kernel_rfl | rfl, ?yp34⟩) hS1 ?_
    case yp34 =>
      intro w' hS
      (clear hS)
      go_simp
      first | done | (simp; done) | (simp; omega) | omega | (simp [*]; done)
    refine wpAnyH_take (i := 5) (v := (.bool false)) rfl (by kernel_rfl) (by kernel_rfl) (by kernel_rfl) (fun _ _ _ h => h) (.inl ⟨by first | kernel_rfl | rfl, ?yp45⟩) hS1 ?_
    case yp45 =>
      intro w' hS
      (clear hS)
      go_simp
      first | done | (simp; done) | (simp; omega) | omega | (simp [*]; done)
    refine wpAnyH_take (i := 6) (v := ?vp56) rfl (by kernel_rfl) (by kernel_rfl) (by kernel_rfl) (fun _ _ _ h => h) (.inl ⟨by first | kernel_rfl | rfl, ?yp56⟩) hS1 ?_
    case yp56 =>
      intro w' hS
      (have k1 := (boxed_later bM hS).cell; clear hS)
      go_simp
      try with_reducible rfl
    try simp only [Act.put, List.getElem_toArray, List.getElem_cons_zero, List.getElem_cons_succ, List.setIfInBounds_toArray, List.set_cons_zero, List.set_cons_succ]
    refine wpAnyH_take (i := 7) (v := (.bool false)) rfl (by kernel_rfl) (by kernel_rfl) (by kernel_rfl) (fun _ _ _ h => h) (.inl ⟨by first | kernel_rfl | rfl, ?yp67⟩) hS1 ?_
    case yp67 =>
      intro w' hS
      (clear hS)
      go_simp
      first | done | (simp; done) | (simp; omega) | omega | (simp [*]; done)
    refine wpAnyH_take (i := 8) (v := (.bool false)) rfl (by kernel_rfl) (by kernel_rfl) (by kernel_rfl) (fun _ _ _ h => h) (.inl ⟨by first | kernel_rfl | rfl, ?yp78⟩) hS1 ?_
    case yp78 =>
      intro w' hS
      (clear hS)
      go_simp
      first | done | (simp; done) | (simp; omega) | omega | (simp [*]; done)
    refine wpAnyH_done (by kernel_rfl) (NoPanic.normal ?_) _
    have hB2 := hB1.trans (hS1.mono hB1.size)
    replace bG := boxed_later bG hS1
    replace bM := boxed_later bM hS1
    replace bR := boxed_later bR hS1
    have hs2 : w.heap.size + 3 ≤ w1.drew.heap.size := hs1
    obtain ⟨w2, hw2⟩ : ∃ w2, w1.drew = w2 := ⟨_, rfl⟩
    rw [hw2] at bG bM bR hB2 hs2
    try rw [hw2]
    clear hS0 hS1 hw2 hB1 hs1
    clear hdl hdh hlow hhi
    have kG := bG.cell
    have hlG := bG.lt
    gi_wp2_with (first | (gi_at_call 102; refine (callsIn_wide.2 (numbered_c _ _ _ _)).mono ?_; rintro e w' ⟨rfl, rfl⟩) | (refine ⟨trivial, ?_⟩; gi_at_call 102; refine (callsIn_wide.2 (numbered_c _ _ _ _)).mono ?_; rintro e w' ⟨rfl, rfl⟩))
    obtain ⟨W1, hW1⟩ : ∃ W1, (w2.alloc (.cells #[.slice none 0 0] 22)).alloc (.cells #[.slice a rs.length cap] 22) = W1 := ⟨_, rfl⟩
    have hbW : Below w2.heap.size w2 W1 := by rw [← hW1]; exact ((Below.refl _ _).alloc (Nat.le_refl _) _).alloc (by simp) _
    have bO : Boxed W1 w2.heap.size 22 (.slice none 0 0) := by rw [← hW1]; exact (Boxed.new _ _ _).alloc _
    have bN : Boxed W1 (w2.heap.size + 1) 22 (.slice a rs.length cap) := by rw [← hW1]; repeat first | (refine boxed_at ?_; (simp; done)) | refine Boxed.alloc ?_ _
    have hB3 := hB2.trans (hbW.mono hB2.size)
    have hsW : w2.heap.size + 2 ≤ W1.heap.size := by rw [← hW1]; simp
    replace bG := boxed_later bG hbW
    replace bM := boxed_later bM hbW
    replace bR := boxed_later bR hbW
    try rw [hW1]
    clear hW1 hB2 hbW kG
    obtain ⟨top, htop⟩ : ∃ top, W1.heap.size + 2 + 0 = top := ⟨_, rfl⟩
    have Htop := Lib.hid htop
    refine range_outA rfl (by omega) rfl trivial (enters_of Try.func129 (by kernel_rfl) rfl) (numbered_at Fence.wide 8 trivial rfl (by omega) _ w.heap.size _ rs (by omega) W1 bN (by omega) (hI.below hB3)) (fun b hb => by omega) (fun _ => rfl)
      (fun k W => (∃ v, Boxed W w2.heap.size 22 v ∧ OwnI top W v (gapsG rs m k)) ∧ Boxed W (w.heap.size + 1) 2 (.int .i64 m) ∧ Boxed W (w.heap.size + 1 + 1) 29 (.slice none 0 0) ∧ Below w.heap.size w W ∧ (k = 0 ∨ top ≤ W.heap.size))
      (fun _ _ _ => False)
      (OwnFrom.and (Own.from (boxRow_Own _ _ _ _) _) (OwnFrom.and (Own.from (boxed_own _ _ _) _) (OwnFrom.and (Own.from (boxed_own _ _ _) _) (OwnFrom.and (ownFrom_below (Nat.le_refl _) (by omega)) (ownFrom_size _ _)))))
      (fun _ _ _ _ _ hs _ _ => hs)
      ⟨⟨_, bO, ownI_nil _ _⟩, bM, bR, hB3, .inl rfl⟩ ?a1 ?assign ?body ?done ?stop
    case assign =>
      intro l k W K hk hK
      simp only [numAt]
      gi_wp2
      exact hK
    case body =>
      rintro l k W hl2 hr ⟨⟨v, bO1, ho1⟩, bM1, bR1, hB, _⟩ hlt hsz
      have hsW2 : top ≤ W.heap.size := by omega
      have hbnd : ∀ j, top ≤ j → ¬ (Band (fun b => b < w.heap.size) W1.heap.size (W1.heap.size + 2 + 0)) j := fun j hj hx => by
        rcases hx with hx | hx
        · have : j < w.heap.size := hx
          omega
        · omega
      have Hbd := Lib.hid hbnd
      have Hn := Lib.hid (not_band (n := w.heap.size) (lo := W1.heap.size) (hi := W1.heap.size + 2 + 0) (b := w2.heap.size) (by omega) (by omega))
      have hwt : w2.heap.size + 4 ≤ top := by omega
      clear htop hbnd hsz
      have hr1 := gardenOk_nth hg hlt
      have hgb := gapG_bd (m := m) hr1.1 hm0
      have hz : nth rs k ≠ 0 := by omega
      have hdv : Int.tdiv m (nth rs k) = gapG rs m k := Int.tdiv_eq_ediv_of_nonneg hm0
      have hdv2 : m / nth rs k = gapG rs m k := rfl
      obtain ⟨g, hgg⟩ : ∃ g : Int, gapG rs m k = g := ⟨_, rfl⟩
      have hsu := gapsG_succ rs m k
      rw [hgg] at hgb hdv hdv2 hsu
      have hwg : IntKind.i64.wrap g = g := by rw [IntKind.wrap_i64]; omega
      obtain ⟨av, cv, ev⟩ := ho1.ints.shape
      rw [gapsG_length] at ev
      subst ev
      have hrow : W.ownsRow top 2 1 (.slice av k cv) k ((gapsG rs m k).map (.int .i64)) := by have h := ho1; unfold OwnI at h; rwa [gapsG_length] at h
      have Hsu := Lib.hid hsu
      have cO := bO1.cell
      have fO := bO1.frozen
      have hd := (Below.refl W.heap.size W).drew
      have hb5 : ∀ j, (Value.slice av k cv).ownBlock = some j → top ≤ j := fun j e => (ho1.blk j e).1
      have Hb5 := Lib.hid hb5
      have hk8 : k ≤ 8 := by omega
      clear hgg hsu hb5
      gi_wp2_with fail
      refine wpIn_region_held (S := fun w' => Boxed w' (w.heap.size + 1) 2 (.int .i64 m) ∧ Boxed w' (w.heap.size + 1 + 1) 29 (.slice none 0 0) ∧ Below w.heap.size w w' ∧ Kps (Band (fun b => b < w.heap.size) W1.heap.size (W1.heap.size + 2 + 0)) W w') hfw (by kernel_rfl) (fun ⟨_, _, h⟩ => h) ⟨boxed_later bM1 hd, boxed_later bR1 hd, hB.drew, ⟨Nat.le_refl _, fun _ _ _ => rfl⟩⟩ ?_
      intro hS0
      refine wpAnyH_take (i := 1) (v := ?vq11) rfl (by kernel_rfl) (by kernel_rfl) (by kernel_rfl) (fun _ _ _ h => h) (.inl ⟨by rfl, ?yq11⟩) hS0 ?_
      case yq11 =>
        intro w' hS
        (have k1 := hS.1.cell; clear hS)
        go_simp
        try with_reducible rfl
      refine wpAnyH_take (i := 2) (v := ?vq12) rfl (by kernel_rfl) (by kernel_rfl) (by kernel_rfl) (fun _ _ _ h => h) (.inl ⟨by rfl, ?yq12⟩) hS0 ?_
      case yq12 =>
        intro w' hS
        (have k1 := hS.1.cell; clear hS)
        go_simp
        try with_reducible rfl
      refine wpAnyH_take (i := 3) (v := (.int .i64 g)) rfl (by kernel_rfl) (by kernel_rfl) (by kernel_rfl) (fun _ _ _ h => h) (.inl ⟨by first | kernel_rfl | rfl, ?yq23⟩) hS0 ?_
      case yq23 =>
        intro w' hS
        (clear hS)
        go_simp
        first | done | (simp; done) | (simp; omega) | omega | (simp [*]; done)
      refine wpAnyH_ready (rs := [0, 4]) (by kernel_rfl) (by simp) ?_
      refine AllReadyH.cons rfl (fun K' hK' => ?_) (AllReadyH.cons rfl (fun K' hK' => ?_) AllReadyH.nil)
      · rw [if_pos (by rfl)]
        go_simp
        refine hK'.out _ _ hS0 fun hS9 => ?_
        clear hS9
        refine wpAnyH_ready (rs := [4]) (by kernel_rfl) (by simp) ?_
        refine AllReadyH.cons rfl (fun K' hK' => ?_) AllReadyH.nil
        rw [if_pos (by rfl)]
        go_simp
        have hS1 := show _ ∧ _ ∧ _ ∧ _ from ⟨hS0.1.alloc (.cells #[.int .i64 g] 2), hS0.2.1.alloc (.cells #[.int .i64 g] 2), hS0.2.2.1.alloc hS0.2.2.1.size (.cells #[.int .i64 g] 2), hS0.2.2.2.trans (Kps.alloc _ _ (.cells #[.int .i64 g] 2))⟩
        refine hK'.out _ _ hS1 fun hS7 => ?_
        clear hS7
        refine wpAnyH_ready (rs := [5]) (by kernel_rfl) (by simp) ?_
        refine AllReadyH.cons rfl (fun K' hK' => ?_) AllReadyH.nil
        rw [if_pos (by rfl)]
        refine wp_append_own _ (.tmp 28) (.tmp 32) 22 rfl top 2 i0 (.int .i64 0) 1 8 Try.underlying22 hi hz0 hz1 hz2 rfl (by decide) _ _ _ rfl (World.ownsRow.alloc (World.ownsRow.drew hrow) _) ⟨W.heap.size, 0, none⟩ 1 1 [.int .i64 g] rfl rfl (Go.cell_one_new _ _ _) (by simp [Value.oneCell']) (by unfold maxLen; omega) (by omega) (by simp; omega) ?_
        intro v' w5 hown' hgrow hfar
        have ho6 := ownI_snoc (xs := gapsG rs m k) (x := g) (by rw [gapsG_length]; exact hown')
        rw [← Hsu.out] at ho6
        obtain ⟨av', cv', ev'⟩ := ho6.ints.shape
        rw [gapsG_length] at ev'
        subst ev'
        have bO5 : Boxed w5 w2.heap.size 22 (.slice av k cv) := (show Boxed ((W.alloc (.cells #[.int .i64 g] 2)).drew) w2.heap.size 22 (.slice av k cv) from bO1.alloc _).kept hgrow (fun e => by have := Hb5.out _ e.symm; omega)
        have s1 := hS1.1.kept hgrow (fun e => by have := Hb5.out _ e.symm; omega)
        have s4 := hS1.2.1.kept hgrow (fun e => by have := Hb5.out _ e.symm; omega)
        have s2 : Below w.heap.size w w5 := hS1.2.2.1.grown hgrow hS1.2.2.1.size (fun j e => by have := Hb5.out j e; omega)
        have s3 : Kps (Band (fun b => b < w.heap.size) W1.heap.size (W1.heap.size + 2 + 0)) W w5 := hS1.2.2.2.trans (Kps.grown hgrow (fun j e => Hbd.out j (Hb5.out j e)))
        have hsz5 : top ≤ w5.heap.size := Nat.le_trans hsW2 s3.size
        have cO5 := bO5.cell
        have fO5 := bO5.frozen
        clear hown' hgrow hfar hS1 hS0 hrow
        refine hK'.out _ _ ⟨s1, s4, s2, s3⟩ fun hS3 => ?_
        refine wpAnyH_ready (rs := [6]) (by kernel_rfl) (by simp) ?_
        refine AllReadyH.cons rfl (fun K' hK' => ?_) AllReadyH.nil
        rw [if_pos (by rfl)]
        go_simp
        have t6 : OwnI top (w5.setCell ⟨w2.heap.size, 0, none⟩ (.slice av' (k + 1) cv')) (.slice av' (k + 1) cv') (gapsG rs m (k + 1)) := ho6.kept (grownBy_setCell2 _ _ _ _) (.inr (fun e => by have := (ho6.blk _ e).1; omega))
        have t7 : Kps (Band (fun b => b < w.heap.size) W1.heap.size (W1.heap.size + 2 + 0)) W (w5.setCell ⟨w2.heap.size, 0, none⟩ (.slice av' (k + 1) cv')) := s3.trans (Kps.setCell _ _ _ _ (Hn.out))
        refine hK'.out _ _ ⟨boxed_setFar s1 (by omega), boxed_setFar s4 (by omega), s2.setCell (p := ⟨w2.heap.size, 0, none⟩) (by show w.heap.size ≤ w2.heap.size; omega) _, t7⟩ fun hS4 => wpAnyH_done (by kernel_rfl) ?_ _
        exact ⟨t7, ⟨⟨_, bO5.set _, t6⟩, hS4.1, hS4.2.1, hS4.2.2.1, .inr (by simpa using hsz5)⟩⟩
      · rw [if_pos (by rfl)]
        go_simp
        have hS1 := show _ ∧ _ ∧ _ ∧ _ from ⟨hS0.1.alloc (.cells #[.int .i64 g] 2), hS0.2.1.alloc (.cells #[.int .i64 g] 2), hS0.2.2.1.alloc hS0.2.2.1.size (.cells #[.int .i64 g] 2), hS0.2.2.2.trans (Kps.alloc _ _ (.cells #[.int .i64 g] 2))⟩
        refine hK'.out _ _ hS1 fun hS7 => ?_
        clear hS7
        have cO2 : (W.drew.alloc (.cells #[.int .i64 g] 2)).cell? ⟨w2.heap.size, 0, none⟩ = some (.slice av k cv) := (show Boxed (W.drew.alloc (.cells #[.int .i64 g] 2)) w2.heap.size 22 (.slice av k cv) from (boxed_later bO1 hd).alloc _).cell
        have cO3 : ((W.alloc (.cells #[.int .i64 g] 2)).drew).cell? ⟨w2.heap.size, 0, none⟩ = some (.slice av k cv) := cO2
        have hlW : w2.heap.size < W.heap.size := bO1.lt
        refine wpAnyH_ready (rs := [0]) (by kernel_rfl) (by simp) ?_
        refine AllReadyH.cons rfl (fun K' hK' => ?_) AllReadyH.nil
        rw [if_pos (by rfl)]
        go_simp
        refine hK'.out _ _ hS1 fun hS9 => ?_
        clear hS9
        refine wpAnyH_ready (rs := [5]) (by kernel_rfl) (by simp) ?_
        refine AllReadyH.cons rfl (fun K' hK' => ?_) AllReadyH.nil
        rw [if_pos (by rfl)]
        refine wp_append_own _ (.tmp 28) (.tmp 32) 22 rfl top 2 i0 (.int .i64 0) 1 8 Try.underlying22 hi hz0 hz1 hz2 rfl (by decide) _ _ _ rfl (World.ownsRow.alloc (World.ownsRow.drew hrow) _) ⟨W.heap.size, 0, none⟩ 1 1 [.int .i64 g] rfl rfl (Go.cell_one_new _ _ _) (by simp [Value.oneCell']) (by unfold maxLen; omega) (by omega) (by simp; omega) ?_
        intro v' w5 hown' hgrow hfar
        have ho6 := ownI_snoc (xs := gapsG rs m k) (x := g) (by rw [gapsG_length]; exact hown')
        rw [← Hsu.out] at ho6
        obtain ⟨av', cv', ev'⟩ := ho6.ints.shape
        rw [gapsG_length] at ev'
        subst ev'
        have bO5 : Boxed w5 w2.heap.size 22 (.slice av k cv) := (show Boxed ((W.alloc (.cells #[.int .i64 g] 2)).drew) w2.heap.size 22 (.slice av k cv) from bO1.alloc _).kept hgrow (fun e => by have := Hb5.out _ e.symm; omega)
        have s1 := hS1.1.kept hgrow (fun e => by have := Hb5.out _ e.symm; omega)
        have s4 := hS1.2.1.kept hgrow (fun e => by have := Hb5.out _ e.symm; omega)
        have s2 : Below w.heap.size w w5 := hS1.2.2.1.grown hgrow hS1.2.2.1.size (fun j e => by have := Hb5.out j e; omega)
        have s3 : Kps (Band (fun b => b < w.heap.size) W1.heap.size (W1.heap.size + 2 + 0)) W w5 := hS1.2.2.2.trans (Kps.grown hgrow (fun j e => Hbd.out j (Hb5.out j e)))
        have hsz5 : top ≤ w5.heap.size := Nat.le_trans hsW2 s3.size
        have cO5 := bO5.cell
        have fO5 := bO5.frozen
        clear hown' hgrow hfar hS1 hS0 hrow
        refine hK'.out _ _ ⟨s1, s4, s2, s3⟩ fun hS3 => ?_
        refine wpAnyH_ready (rs := [6]) (by kernel_rfl) (by simp) ?_
        refine AllReadyH.cons rfl (fun K' hK' => ?_) AllReadyH.nil
        rw [if_pos (by rfl)]
        go_simp
        have t6 : OwnI top (w5.setCell ⟨w2.heap.size, 0, none⟩ (.slice av' (k + 1) cv')) (.slice av' (k + 1) cv') (gapsG rs m (k + 1)) := ho6.kept (grownBy_setCell2 _ _ _ _) (.inr (fun e => by have := (ho6.blk _ e).1; omega))
        have t7 : Kps (Band (fun b => b < w.heap.size) W1.heap.size (W1.heap.size + 2 + 0)) W (w5.setCell ⟨w2.heap.size, 0, none⟩ (.slice av' (k + 1) cv')) := s3.trans (Kps.setCell _ _ _ _ (Hn.out))
        refine hK'.out _ _ ⟨boxed_setFar s1 (by omega), boxed_setFar s4 (by omega), s2.setCell (p := ⟨w2.heap.size, 0, none⟩) (by show w.heap.size ≤ w2.heap.size; omega) _, t7⟩ fun hS4 => wpAnyH_done (by kernel_rfl) ?_ _
        exact ⟨t7, ⟨⟨_, bO5.set _, t6⟩, hS4.1, hS4.2.1, hS4.2.2.1, .inr (by simpa using hsz5)⟩⟩
    case done =>
      rintro D W hD ⟨⟨v, bO1, ho1⟩, bM1, bR1, hB, hsz⟩ hK
      have hsz2 : top ≤ W.heap.size := by rcases hsz with h | h; (omega); exact h
      have hom := over_most hg hm0 (rs := rs)
      obtain ⟨av, cv, ev⟩ := ho1.ints.shape
      rw [gapsG_length] at ev
      subst ev
      have kO := bO1.cell
      have hgl := gapsG_length rs m rs.length
      gi_wp2_with fail
      refine ⟨trivial, (callsIn_wide.2 (maxR_c _ (gapsG rs m rs.length) _ (by rw [← hgl]; rw [hgl]; exact ho1.ints) (by omega) (by omega) (fun k hk => by
        rw [hgl] at hk
        rw [nth_gapsG hk]
        have := gapG_bd (m := m) (gardenOk_nth hg hk).1 hm0; omega))).mono ?_⟩
      rintro e w9 ⟨rfl, hw9⟩
      subst hw9
      have kR := bR1.cell
      have fR := bR1.frozen
      have hK' := (KeepsOthers.setCell W ⟨w.heap.size + 1 + 1, 0, none⟩ (.slice none 0 0)).same D _ hK rfl
      cases hov : overG rs m
      · have H := Lib.hid (Htg0.out hov)
        rw [hov] at hom
        have hnt : ¬ 40 < most (gapsG rs m rs.length) := of_decide_eq_false hom
        have hK2 := (KeepsOthers.setCell W ⟨w.heap.size + 1 + 1, 0, none⟩ (.slice av rs.length cv)).same D _ hK rfl
        gi_wp2
        have bR2 := boxed_shut (bR1.set (.slice av rs.length cv)) hK2
        have kR2 := bR2.cell
        exact retM1 hK2 ⟨.tuple #[.agg #[.slice av rs.length cv], .int .i64 0], by simp [results, Try.results62, go_sem, kR2], ⟨.slice av rs.length cv, by rw [H.out.1], by rw [H.out.2]; exact ((ho1.kept (grownBy_setCell2 _ _ _ _) (.inr (fun e => by have := (ho1.blk _ e).1; omega))).base (by omega)).shut hK2, below_shut (hB.setCell (p := ⟨w.heap.size + 1 + 1, 0, none⟩) (by simp; omega) _) (by omega)⟩⟩
      · have H := Lib.hid (Htg4.out hov)
        rw [hov] at hom
        have hnt : 40 < most (gapsG rs m rs.length) := of_decide_eq_true hom
        gi_wp2
        have bR2 := boxed_shut (bR1.set (.slice none 0 0)) hK'
        have kR2 := bR2.cell
        exact retM1 hK' ⟨.tuple #[.agg #[.slice none 0 0], .int .i64 4], by simp [results, Try.results62, go_sem, kR2], ⟨.slice none 0 0, by rw [H.out.1], by rw [H.out.2]; exact ownI_nil _ _, below_shut (hB.setCell (p := ⟨w.heap.size + 1 + 1, 0, none⟩) (by simp; omega) _) (by omega)⟩⟩
    case stop =>
      rintro D c k W hD hk h
      exact h.elim

end Go.Proofs.Ytogpkaeodgokgaa
