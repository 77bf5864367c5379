/-
  GapsServed of both.
  Conditions: lists of at most 1048576 elements.
-/
import Derived.Test.YtoflgfenlbibpaaDoor
import Derived.Test.YtoflgfenlbibpaaLog
import Derived.Test.YtoflgfenlbibpaaRen
namespace Go.Proofs.Ytoflgfenlbibpaa
open Go.RowKit Go.Shelf
attribute [local go_sem] Oper.semAt_some

/-! ### the mathematics -/
def gasOk (ts : List Int) (k : Int) : Bool := inB k 1 8 && turnsOk ts k
def noWait (ts : List Int) (n : Nat) : Bool := (List.range n).any fun (j : Nat) => greatW ts (j : Int) == 0
def gasC (ts : List Int) (k : Int) : Int := if gasOk ts k then (if noWait ts k.toNat then 4 else if tasksOk (greatL ts k.toNat) then 0 else 3) else 2
def gasR (ts : List Int) (k : Int) : List Int := if gasC ts k = 0 then greatL ts k.toNat else []
theorem nth_greatL {ts : List Int} {n j : Nat} (h : j < n) : nth (greatL ts n) j = greatW ts (j : Int) := by simp [nth, greatL, h]
theorem noWait_at {ts : List Int} {n j : Nat} (h : j < n) (h0 : greatW ts (j : Int) = 0) : noWait ts n = true := by
  unfold noWait; rw [List.any_eq_true]; exact ⟨j, by simpa using h, by simp [h0]⟩
theorem noWait_no {ts : List Int} {n : Nat} (h : ∀ j, j < n → greatW ts (j : Int) ≠ 0) : noWait ts n = false := by
  unfold noWait; rw [List.any_eq_false]; intro j hj; simp at hj; simpa using h j hj
theorem noWait_least {ts : List Int} {n : Nat} (h0 : 0 < n) : noWait ts n = decide (leastL (greatL ts n) ≤ 0) := by
  obtain ⟨j, hj, e⟩ := leastL_mem (zs := greatL ts n) (by rw [greatL_length]; exact h0)
  rw [greatL_length] at hj
  rw [nth_greatL hj] at e
  by_cases h : leastL (greatL ts n) ≤ 0
  · rw [decide_eq_true h]
    have := greatW_bd ts (j : Int)
    exact noWait_at hj (by omega)
  · rw [decide_eq_false h]
    refine noWait_no fun i hi e2 => ?_
    have := leastL_le (zs := greatL ts n) (j := i) (by rw [greatL_length]; exact hi)
    rw [nth_greatL hi, e2] at this
    omega
theorem mostTo_ge {zs : List Int} {k j : Nat} (hk : k ≤ zs.length) (h : j < k) : nth zs j ≤ mostTo zs k := by
  induction k with
  | zero => omega
  | succ k ih =>
    rw [mostTo_succ (by omega)]
    by_cases e : j = k
    · subst e; omega
    · have := ih (by omega) (by omega); omega
theorem mostTo_le {zs : List Int} {k : Nat} {m : Int} (hk : k ≤ zs.length) (hm : -1 ≤ m) (h : ∀ j, j < k → nth zs j ≤ m) : mostTo zs k ≤ m := by
  induction k with
  | zero => simp [mostTo]; exact hm
  | succ k ih =>
    rw [mostTo_succ (by omega)]
    have := ih (by omega) (fun j hj => h j (by omega))
    have := h k (by omega)
    omega
theorem tasksOk_most {ts : List Int} {n : Nat} (h0 : 0 < n) (h8 : n ≤ 8) (hw : noWait ts n = false) : tasksOk (greatL ts n) = decide (most (greatL ts n) ≤ 40) := by
  have hpos : ∀ j, j < n → 1 ≤ greatW ts (j : Int) := fun j hj => by
    have := greatW_bd ts (j : Int)
    by_cases e : greatW ts (j : Int) = 0
    · rw [noWait_at hj e] at hw; cases hw
    · omega
  by_cases h : most (greatL ts n) ≤ 40
  · rw [decide_eq_true h]
    unfold tasksOk
    rw [Bool.and_eq_true, List.all_eq_true]
    refine ⟨fun z hz => ?_, by rw [greatL_length]; exact inB_true.2 ⟨by omega, by omega⟩⟩
    unfold greatL at hz
    obtain ⟨j, hj, rfl⟩ := List.mem_map.1 hz
    simp at hj
    have h1 := hpos j hj
    have h2 := mostTo_ge (zs := greatL ts n) (k := (greatL ts n).length) (j := j) (Nat.le_refl _) (by rw [greatL_length]; exact hj)
    rw [nth_greatL hj] at h2
    unfold most at h
    exact inB_true.2 ⟨h1, by omega⟩
  · rw [decide_eq_false h]
    cases e : tasksOk (greatL ts n)
    · rfl
    · exfalso; apply h
      unfold most
      refine mostTo_le (Nat.le_refl _) (by omega) fun j hj => ?_
      exact (tasksOk_nth e hj).2
theorem gasR_len (ts : List Int) (k : Int) : (gasR ts k).length * 8 ≤ 140737488351232 := by
  unfold gasR
  split
  · rename_i h
    have hk : gasOk ts k = true := by
      cases e : gasOk ts k
      · unfold gasC at h; rw [e] at h; simp at h
      · rfl
    unfold gasOk at hk
    rw [Bool.and_eq_true] at hk
    have := inB_true.1 hk.1
    rw [greatL_length]; omega
  · simp

set_option maxRecDepth 100000 in
set_option maxHeartbeats 8000000 in
theorem maxG_c (sv : Value) (ts : List Int) (w : World) (hI : Ints w.heap.size w sv ts) (hp : 0 < ts.length) (h1 : ∀ k, k < ts.length → -1 ≤ nth ts k) (hl : ts.length ≤ 1048576) :
    Calls Try.prog 198 #[sv] w fun e w' => e = .returned (.int .i64 (most ts)) ∧ w = w' := by
  obtain ⟨a, cap, rfl⟩ := hI.shape
  obtain ⟨b, off, rfl, hbb, hc⟩ := hI.at_ hp
  have h0 : w.cell? ⟨b, off, none⟩ = some (.int .i64 (nth ts 0)) := by simpa using hc 0 (by omega)
  have e1 : mostTo ts 1 = nth ts 0 := by
    have := h1 0 hp
    rw [mostTo_succ (by omega)]; simp [mostTo]; omega
  clear h1
  go_enter Try.func198, Try.ntmps198
  clear hc
  go_wp2
  rw [← e1]
  clear e1 h0
  go_loop [4, 3] (fun i m => ∃ k : Nat, 1 ≤ k ∧ k ≤ ts.length ∧ i = .int .i64 k ∧ m = .int .i64 (mostTo ts k)) (fun i _ => ts.length - (intOf i).toNat)
  case atStart => exact ⟨1, Nat.le_refl _, hp, rfl, rfl⟩
  case round =>
    obtain ⟨k, hk1, hk, rfl, rfl⟩ := hrel
    by_cases hlt : k < ts.length
    · obtain ⟨b2, off2, hs, hb2, hc⟩ := hI.at_ hlt
      cases hs
      have hcx := hc k hlt
      have hs := mostTo_succ hlt
      have Hs := Lib.hid hs
      clear hc hs
      go_wp2
      exact ⟨⟨k + 1, by omega, by omega, by simp, by rw [Hs.out]; congr 1; omega⟩, by simp [intOf]; omega⟩
    · obtain rfl : k = ts.length := by omega
      go_wp2
      go_ret
      exact ⟨ret_int rfl, rfl⟩

theorem ownI_ne_box3 {B b : Nat} {W : World} {v u : Value} {zs : List Int} (h : OwnI B W v zs) (hb : Boxed W b 26 u) : v.ownBlock ≠ some b := by
  intro e
  obtain ⟨_, h2⟩ := h
  rcases h2 with ⟨rfl, _⟩ | ⟨g, cap, cur, rfl, _, hh, _⟩
  · simp [Value.ownBlock] at e
  · obtain rfl : g = b := by simpa [Value.ownBlock] using e
    have := hh.symm.trans hb
    simp at this

theorem demand_y (b : Bool) (c : Int) (w : World) (hb : b = true) : Calls Try.prog 184 #[.bool b, .int .i64 c] w fun e w' => e = .returned (.tuple #[]) ∧ w = w' := by subst hb; exact demand_yes c w

theorem demand_n (b : Bool) (c : Int) (w : World) (hb : b = false) : Calls Try.prog 184 #[.bool b, .int .i64 c] w fun e w' => e = .panicked (refused c) ∧ w = w' := by subst hb; exact demand_no c w

set_option maxRecDepth 100000 in
set_option maxHeartbeats 8000000 in
theorem gasWork_c (bt bk : Nat) (sv : Value) (ts : List Int) (k : Int) (w : World) (hbT : Boxed w bt 24 sv) (hbK : Boxed w bk 2 (.int .i64 k)) (hI : Ints w.heap.size w sv ts) (hm : ts.length ≤ 1048576) (hk : I64 k) :
    Calls Try.prog 196 #[.pointer (some ⟨bk, 0, none⟩), .pointer (some ⟨bt, 0, none⟩)] w fun e w' => (gasC ts k = 0 ∧ GivesI w (gasR ts k) (fun v => .agg #[v]) e w') ∨ (gasR ts k = [] ∧ e = .panicked (refused (gasC ts k)) ∧ Below w.heap.size w w') := by
  obtain ⟨i0, hi, hz0, hz1, hz2⟩ := info_parts Try.infoI2
  obtain ⟨a, cap, rfl⟩ := hI.shape
  obtain ⟨hk0, hk1⟩ := hk
  have cT := (hbT.alloc (.cells #[.slice none 0 0] 26)).cell
  have cK := (hbK.alloc (.cells #[.slice none 0 0] 26)).cell
  have hlt := hbT.lt
  have hlk := hbK.lt
  by_cases hkr : 1 ≤ k ∧ k ≤ 8
  · obtain ⟨n, rfl⟩ : ∃ n : Nat, k = n := ⟨k.toNat, by omega⟩
    have Hin := Lib.hid (show inB (n : Int) 1 8 = true from inB_true.2 hkr)
    have hn : 1 ≤ n ∧ n ≤ 8 := by omega
    go_enter Try.func196, Try.ntmps196
    go_wp2_with fail
    obtain ⟨W0, hW0⟩ : ∃ W0, (w.alloc (.cells #[.slice none 0 0] 26)) = W0 := ⟨_, rfl⟩
    have hB0 : Below w.heap.size w W0 := by rw [← hW0]; exact ((Below.refl _ w).alloc (Nat.le_refl _) _)
    have hs0 : w.heap.size + 1 ≤ W0.heap.size := by rw [← hW0]; simp
    have bQ : Boxed W0 (w.heap.size) 26 (.slice none 0 0) := by rw [← hW0]; repeat first | (refine boxed_at ?_; (simp; done)) | refine Boxed.alloc ?_ _
    rw [hW0]
    clear hW0
    have bT1 := boxed_later hbT hB0
    have bK1 := boxed_later hbK hB0
    clear cT cK
    refine (areTurns_c _ ts n _ (hI.later hB0) (by omega)).mono ?_
    rintro e w1 ⟨rfl, hb⟩
    have hB1 := hB0.trans (hb.mono (by omega))
    replace bQ := boxed_later bQ hb
    replace bT1 := boxed_later bT1 hb
    replace bK1 := boxed_later bK1 hb
    clear hb hB0
    cases hok : turnsOk ts n
    · have Hc := Lib.hid (show gasC ts n = 2 by unfold gasC gasOk; rw [Hin.out, hok]; rfl)
      have Hr := Lib.hid (show gasR ts n = [] by unfold gasR; rw [Hc.out]; rfl)
      clear hok
      go_wp2_with fail
      refine (demand_no _ _).mono ?_
      rintro e w2 ⟨rfl, rfl⟩
      go_wp2
      exact ⟨rfl, .inr ⟨Hr.out, by rw [Hc.out], hB1⟩⟩
    · have hgo : gasOk ts n = true := by unfold gasOk; rw [Hin.out, hok]; rfl
      have Hgo := Lib.hid hgo
      clear hok hgo
      go_wp2_with fail
      refine (demand_yes _ _).mono ?_
      rintro e w2 ⟨rfl, rfl⟩
      have cK := bK1.cell
      have cT := bT1.cell
      have hsz1 := hB1.size
      go_wp2
      clear cK cT
      go_loopw [3, 18] (fun v i wr => ∃ j : Nat, j ≤ n ∧ i = .int .i64 j ∧ OwnI (w.heap.size + 1) wr v (greatL ts j) ∧ Boxed wr bt 24 (.slice a ts.length cap) ∧ Boxed wr w.heap.size 26 (.slice none 0 0) ∧ Below w.heap.size w wr) (fun _ i _ => n - (intOf i).toNat)
      case atStart => exact ⟨0, Nat.zero_le _, rfl, ownI_nil _ _, bT1, bQ, hB1⟩
      case round =>
        obtain ⟨j, hj, rfl, ho, bT2, bQ2, hB2⟩ := hrel
        have cT := bT2.cell
        clear bT1 bQ hB1 bK1
        have hgl := greatL_length ts j
        have hsz2 := hB2.size
        have hbl2 := bQ2.lt
        by_cases hlt : j < n
        · have Hs := Lib.hid (greatL_succ ts j)
          go_wp2_with fail
          refine (greatestWait_c _ ts j _ (hI.later hB2) hm).mono ?_
          rintro e w3 ⟨rfl, hb⟩
          have ho2 := ho.below hb
          have hB3 := hB2.trans (hb.mono hsz2)
          replace bT2 := boxed_later bT2 hb
          replace bQ2 := boxed_later bQ2 hb
          have hsw := bQ2.lt
          clear ho hb hB2 cT
          go_wp2_with (at_builtin; refine wpList_append_own _ rfl _ _ 24 rfl (w.heap.size + 1) 2 i0 (.int .i64 0) 1 8 Try.underlying24 hi hz0 hz1 hz2 rfl (by decide) _ _ _ rfl (World.ownsRow.alloc ho2 _) ⟨w3.heap.size, 0, none⟩ 1 1 [.int .i64 (greatW ts (j : Int))] rfl rfl (Go.cell_one_new _ _ _) (by simp [Value.oneCell']) (by unfold maxLen; omega) (by omega) (by simp; omega) ?_)
          intro v' w4 hown' hgrow _
          have ho3 := ownI_snoc (xs := greatL ts j) (by rw [hgl]; exact hown')
          rw [← Hs.out] at ho3
          have hB4 : Below w.heap.size w w4 := (hB3.alloc hB3.size _).grown hgrow (by simp; omega) (fun j e => by have := (ho2.blk j e).1; omega)
          have bT4 := (bT2.alloc (.cells #[.int .i64 (greatW ts (j : Int))] 2)).kept hgrow (fun e => by have := (ho2.blk _ e.symm).1; omega)
          have bQ4 := (bQ2.alloc (.cells #[.int .i64 (greatW ts (j : Int))] 2)).kept hgrow (fun e => by have := (ho2.blk _ e.symm).1; omega)
          clear hown' hgrow
          go_wp2
          go_roundw
          case rel => exact ⟨j + 1, by omega, by simp, ho3, bT4, bQ4, hB4⟩
          case measure => simp [intOf]; omega
        · obtain rfl : j = n := by omega
          obtain ⟨g, cp, rfl, hg1, hg2⟩ := ho.shape (by omega)
          have hpos : ∀ m, m < (greatL ts j).length → -1 ≤ nth (greatL ts j) m := fun m hm => by
            rw [greatL_length] at hm
            rw [nth_greatL hm]
            have := greatW_bd ts (m : Int)
            omega
          have Hpos := Lib.hid hpos
          have hnw := noWait_least (ts := ts) (n := j) (by omega)
          have htm := tasksOk_most (ts := ts) (n := j) (by omega) (by omega)
          have hle := ho.ints
          have hlb : 0 < (greatL ts j).length ∧ (greatL ts j).length ≤ 8 := by omega
          have hlb1 := hlb.1
          have Hgl := Lib.hid hgl
          clear hpos cT hgl
          cases hw : noWait ts j
          · have hmin : 0 < leastL (greatL ts j) := by rw [hw] at hnw; have := of_decide_eq_false hnw.symm; omega
            have Htk := Lib.hid (htm hw)
            have Hw := Lib.hid hw
            clear hnw htm hw
            go_wp2_with fail
            refine (min_c _ _ _ hle (by omega) (by omega)).mono ?_
            rintro e w5 ⟨rfl, rfl⟩
            go_wp2_with fail
            refine (demand_y _ _ _ (by simp)).mono ?_
            rintro e w5 ⟨rfl, rfl⟩
            go_wp2_with fail
            refine (maxG_c _ _ _ hle (by omega) Hpos.out (by omega)).mono ?_
            rintro e w5 ⟨rfl, rfl⟩
            by_cases hmx : most (greatL ts j) ≤ 40
            · have htk2 : tasksOk (greatL ts j) = true := by rw [Htk.out, decide_eq_true hmx]
              have hc0 : gasC ts j = 0 := by unfold gasC; rw [Hgo.out, if_pos rfl, Int.toNat_natCast, Hw.out, htk2]; rfl
              have Hc := Lib.hid hc0
              have Hr := Lib.hid (show gasR ts j = greatL ts j by unfold gasR; rw [if_pos hc0, Int.toNat_natCast])
              have cQ := bQ2.cell
              have fQ := bQ2.frozen
              clear htk2 hc0
              go_wp2_with fail
              refine (demand_y _ _ _ (by simp)).mono ?_
              rintro e w5 ⟨rfl, rfl⟩
              have k1 := (bQ2.set (.slice (some ⟨g, 0, none⟩) (greatL ts j).length cp)).cell
              have ho9 : OwnI w.heap.size (wr.setCell ⟨w.heap.size, 0, none⟩ (.slice (some ⟨g, 0, none⟩) (greatL ts j).length cp)) (.slice (some ⟨g, 0, none⟩) (greatL ts j).length cp) (greatL ts j) := (ho.kept (grownBy_setCell2 _ _ _ _) (.inr (fun e => by have := (ho.blk _ e).1; omega))).base (by omega)
              go_wp2
              exact bodyPost_ret (v := .agg #[(.slice (some ⟨g, 0, none⟩) (greatL ts j).length cp)]) (by simp [results, Try.f196, go_sem, k1]) rfl (.inl ⟨Hc.out, _, rfl, by rw [Hr.out]; exact ho9, hB2.setCell (p := ⟨w.heap.size, 0, none⟩) (Nat.le_refl _) _⟩)
            · have htk2 : tasksOk (greatL ts j) = false := by rw [Htk.out, decide_eq_false hmx]
              have Hc := Lib.hid (show gasC ts j = 3 by unfold gasC; rw [Hgo.out, if_pos rfl, Int.toNat_natCast, Hw.out, htk2]; rfl)
              have Hr := Lib.hid (show gasR ts j = [] by unfold gasR; rw [Hc.out]; rfl)
              clear htk2
              go_wp2_with fail
              refine (demand_n _ _ _ (by simpa using hmx)).mono ?_
              rintro e w5 ⟨rfl, rfl⟩
              go_wp2
              exact ⟨rfl, .inr ⟨Hr.out, by rw [Hc.out], hB2⟩⟩
          · have hmin : ¬ 0 < leastL (greatL ts j) := by rw [hw] at hnw; have := of_decide_eq_true hnw.symm; omega
            have Hc := Lib.hid (show gasC ts j = 4 by unfold gasC; rw [Hgo.out, if_pos rfl, Int.toNat_natCast, hw]; rfl)
            have Hr := Lib.hid (show gasR ts j = [] by unfold gasR; rw [Hc.out]; rfl)
            clear hnw htm hw
            go_wp2_with fail
            refine (min_c _ _ _ hle (by omega) (by omega)).mono ?_
            rintro e w5 ⟨rfl, rfl⟩
            go_wp2_with fail
            refine (demand_n _ _ _ (by simpa using hmin)).mono ?_
            rintro e w5 ⟨rfl, rfl⟩
            go_wp2
            exact ⟨rfl, .inr ⟨Hr.out, by rw [Hc.out], hB2⟩⟩
  · have Hin : inB k 1 8 = false := by rw [inB_false]; omega
    have Hc := Lib.hid (show gasC ts k = 2 by unfold gasC gasOk; rw [Hin]; rfl)
    have Hr := Lib.hid (show gasR ts k = [] by unfold gasR; rw [Hc.out]; rfl)
    clear Hin
    by_cases h1 : k < 1
    · go_enter Try.func196, Try.ntmps196
      go_wp2_with fail
      refine (demand_no _ _).mono ?_
      rintro e w2 ⟨rfl, rfl⟩
      go_wp2
      exact ⟨rfl, .inr ⟨Hr.out, by rw [Hc.out], (Below.refl _ w).alloc (Nat.le_refl _) _⟩⟩
    · have h2 : 8 < k := by omega
      go_enter Try.func196, Try.ntmps196
      go_wp2_with fail
      refine (demand_no _ _).mono ?_
      rintro e w2 ⟨rfl, rfl⟩
      go_wp2
      exact ⟨rfl, .inr ⟨Hr.out, by rw [Hc.out], (Below.refl _ w).alloc (Nat.le_refl _) _⟩⟩

set_option maxRecDepth 100000 in
set_option maxHeartbeats 8000000 in
theorem i_GapsServed (c0 : Value) (ts : List Int) (k : Int) (w : World) (hI : Ints w.heap.size w c0 ts) (_hN : I64s ts) (hm : ts.length ≤ 1048576) (hk : I64 k) :
    Calls Try.prog 101 #[c0, .int .i64 k] w (GivesI w (gasR ts k) fun v => .tuple #[.agg #[v], .int .i64 (gasC ts k)]) := by
  have hmf : ∀ (fn : Fn) (first cap : Array Value) (w : World), (Instr.makeFunc fn first cap).run Try.prog w = .ok (.func fn first cap) w := fun _ _ _ _ => rfl
  obtain ⟨a, cap, rfl⟩ := hI.shape
  go_enter Try.func101, Try.ntmps101
  go_wp2_with fail
  obtain ⟨W0, hW0⟩ : ∃ W0, (((w.alloc (.cells #[.slice a ts.length cap] 24)).alloc (.cells #[.int .i64 k] 2)).alloc (.cells #[.slice none 0 0] 26)) = W0 := ⟨_, rfl⟩
  have hB0 : Below w.heap.size w W0 := by rw [← hW0]; exact ((((Below.refl _ w).alloc (Nat.le_refl _) _).alloc (by simp; try omega) _).alloc (by simp; try omega) _)
  have hs0 : w.heap.size + 3 ≤ W0.heap.size := by rw [← hW0]; simp
  have bT : Boxed W0 (w.heap.size) 24 (.slice a ts.length cap) := by rw [← hW0]; repeat first | (refine boxed_at ?_; (simp; done)) | refine Boxed.alloc ?_ _
  have bK : Boxed W0 (w.heap.size + 1) 2 (.int .i64 k) := by rw [← hW0]; repeat first | (refine boxed_at ?_; (simp; done)) | refine Boxed.alloc ?_ _
  have bQ : Boxed W0 (w.heap.size + 1 + 1) 26 (.slice none 0 0) := by rw [← hW0]; repeat first | (refine boxed_at ?_; (simp; done)) | refine Boxed.alloc ?_ _
  rw [hW0]
  clear hW0
  refine (doorT_c _ _ (gasR ts k) (gasC ts k) W0 (enters_of Try.func196 (by kernel_rfl) rfl) (fun W hW hs => gasWork_c w.heap.size (w.heap.size + 1) _ ts k W (boxed_later bT hW) (boxed_later bK hW) ((hI.later hB0).later hW) hm hk)).mono ?_
  rintro e w1 ⟨v, rfl, ho, hb⟩
  have hB1 := hB0.trans (hb.mono hB0.size)
  replace bQ := boxed_later bQ hb
  clear hb
  have cQ := bQ.cell
  have fQ := bQ.frozen
  obtain ⟨av, cv, rfl⟩ := ho.ints.shape
  have hs1 := hB0.size
  have k1 := (bQ.set (.slice av (gasR ts k).length cv)).cell
  have ho9 : OwnI w.heap.size (w1.setCell ⟨w.heap.size + 1 + 1, 0, none⟩ (.slice av (gasR ts k).length cv)) (.slice av (gasR ts k).length cv) (gasR ts k) := (ho.kept (grownBy_setCell2 _ _ _ _) (.inr (fun e => by have := (ho.blk _ e).1; omega))).base (by omega)
  go_wp2_with fail
  exact bodyPost_ret (v := .tuple #[.agg #[.slice av (gasR ts k).length cv], .int .i64 (gasC ts k)]) (by simp [results, Try.f101, go_sem, k1]) rfl ⟨_, rfl, ho9, hB1.setCell (p := ⟨w.heap.size + 1 + 1, 0, none⟩) (by show w.heap.size ≤ w.heap.size + 1 + 1; omega) _⟩

set_option maxRecDepth 100000 in
set_option maxHeartbeats 8000000 in
theorem s_GapsServed (c0 : Value) (ts : List Int) (k : Int) (w : World) (hI : Ints w.heap.size w c0 ts) (_hN : I64s ts) (hm : ts.length ≤ 1048576) (hk : I64 k) :
    Calls Try.prog 100 #[c0, .int .i64 k] w (GivesI w (gasR ts k) fun v => .tuple #[.agg #[v], .int .i64 (gasC ts k)]) := by
  obtain ⟨i0, hi, hz0, hz1, hz2⟩ := info_parts Try.infoI2
  obtain ⟨a, cap, rfl⟩ := hI.shape
  obtain ⟨hk0, hk1⟩ := hk
  go_enter Try.func100, Try.ntmps100
  go_wp2_with fail
  obtain ⟨W0, hW0⟩ : ∃ W0, (w.alloc (.cells #[.slice none 0 0] 26)) = W0 := ⟨_, rfl⟩
  have hB0 : Below w.heap.size w W0 := by rw [← hW0]; exact ((Below.refl _ w).alloc (Nat.le_refl _) _)
  have hs0 : w.heap.size + 1 ≤ W0.heap.size := by rw [← hW0]; simp
  have bQ : Boxed W0 (w.heap.size) 26 (.slice none 0 0) := by rw [← hW0]; repeat first | (refine boxed_at ?_; (simp; done)) | refine Boxed.alloc ?_ _
  rw [hW0]
  clear hW0
  have cQ := bQ.cell
  have fQ := bQ.frozen
  have k1 := (bQ.set (.slice none 0 0)).cell
  cases hin : inB k 1 8
  · have Hin := Lib.hid hin
    have Hc := Lib.hid (show gasC ts k = 2 by unfold gasC gasOk; rw [hin]; rfl)
    have Hr := Lib.hid (show gasR ts k = [] by unfold gasR; rw [Hc.out]; rfl)
    clear hin
    refine (l01In_d false _ _ _ _ Hin.out).mono ?_
    rintro e w1 ⟨rfl, rfl⟩
    go_wp2_with fail
    exact bodyPost_ret (v := .tuple #[.agg #[.slice none 0 0], .int .i64 2]) (by simp [results, Try.f100, go_sem, k1]) rfl ⟨_, ret_t2 Hc.out.symm, by rw [Hr.out]; exact ownI_nil _ _, hB0.setCell (p := ⟨w.heap.size, 0, none⟩) (Nat.le_refl _) _⟩
  have Hin := Lib.hid hin
  have hkr := inB_true.1 hin
  clear hin
  obtain ⟨n, rfl⟩ : ∃ n : Nat, k = n := ⟨k.toNat, by omega⟩
  refine (l01In_d true _ _ _ _ Hin.out).mono ?_
  rintro e w1 ⟨rfl, rfl⟩
  go_wp2_with fail
  refine (l01Turns_c _ ts n _ (hI.later hB0) (by omega) (by omega) (by omega)).mono ?_
  rintro e w1 ⟨rfl, rfl⟩
  cases hok : turnsOk ts n
  · have Hc := Lib.hid (show gasC ts n = 2 by unfold gasC gasOk; rw [Hin.out, hok]; rfl)
    have Hr := Lib.hid (show gasR ts n = [] by unfold gasR; rw [Hc.out]; rfl)
    clear hok
    go_wp2_with fail
    exact bodyPost_ret (v := .tuple #[.agg #[.slice none 0 0], .int .i64 2]) (by simp [results, Try.f100, go_sem, k1]) rfl ⟨_, ret_t2 Hc.out.symm, by rw [Hr.out]; exact ownI_nil _ _, hB0.setCell (p := ⟨w.heap.size, 0, none⟩) (Nat.le_refl _) _⟩
  have Hgo := Lib.hid (show gasOk ts n = true by unfold gasOk; rw [Hin.out, hok]; rfl)
  clear hok
  go_wp2
  have hs0w : w.heap.size + 1 ≤ W0.heap.size := by have := bQ.lt; omega
  have ho0 := (ownI_empty W0).alloc (.cells #[.slice (some ⟨W0.heap.size, 0, none⟩) 0 0] 26)
  have bO := Boxed.new (W0.alloc (.cells #[] 2)) 26 (.slice (some ⟨W0.heap.size, 0, none⟩) 0 0)
  simp only [World.size_alloc] at bO
  have bQ1 := (bQ.alloc (.cells #[] 2)).alloc (.cells #[.slice (some ⟨W0.heap.size, 0, none⟩) 0 0] 26)
  have hB1 := (hB0.alloc hB0.size (.cells #[] 2)).alloc (by simp; omega) (.cells #[.slice (some ⟨W0.heap.size, 0, none⟩) 0 0] 26)
  clear bQ hB0 cQ fQ k1
  go_loopw [7] (fun i wr => ∃ (j : Nat) (v : Value), j ≤ n ∧ i = .int .i64 j ∧ Boxed wr (W0.heap.size + 1) 26 v ∧ OwnI W0.heap.size wr v (greatL ts j) ∧ (∀ m, m < j → greatW ts (m : Int) ≠ 0) ∧ Boxed wr w.heap.size 26 (.slice none 0 0) ∧ Below w.heap.size w wr) (fun i _ => n - (intOf i).toNat)
  case atStart => exact ⟨0, _, Nat.zero_le _, rfl, bO, ho0, fun m h => by omega, bQ1, hB1⟩
  case round =>
    obtain ⟨j, v, hj, rfl, bOk, hok, hall, bQk, hB⟩ := hrel
    have Hall := Lib.hid hall
    clear bO ho0 bQ1 hB1 hall
    have cO := bOk.cell
    have fO := bOk.frozen
    obtain ⟨av, cv, ev⟩ := hok.ints.shape
    rw [greatL_length] at ev
    subst ev
    by_cases hlt : j < n
    · go_wp2_with fail
      refine (l01Greatest_c _ ts j _ (hI.later hB) hm).mono ?_
      rintro e w3 ⟨rfl, hb⟩
      have ho2 := hok.below hb
      have hB3 := hB.trans (hb.mono hB.size)
      have hbl0 := bOk.lt
      replace bOk := boxed_later bOk hb
      replace bQk := boxed_later bQk hb
      clear hok hb hB cO fO
      have cO := bOk.cell
      have fO := bOk.frozen
      have cQ := bQk.cell
      have fQ := bQk.frozen
      have hgb := greatW_bd ts (j : Int)
      obtain ⟨gw, hgw⟩ : ∃ gw, greatW ts (j : Int) = gw := ⟨_, rfl⟩
      have Hgw := Lib.hid hgw
      rw [hgw] at hgb ⊢
      clear hgw
      by_cases h0 : gw = 0
      · have hnw := noWait_at hlt (by rw [Hgw.out]; exact h0)
        have Hc := Lib.hid (show gasC ts n = 4 by unfold gasC; rw [Hgo.out, if_pos rfl, Int.toNat_natCast, hnw]; rfl)
        have Hr := Lib.hid (show gasR ts n = [] by unfold gasR; rw [Hc.out]; rfl)
        have k1 := (bQk.set (.slice none 0 0)).cell
        clear hnw
        subst h0
        go_wp2
        exact bodyPost_ret (v := .tuple #[.agg #[.slice none 0 0], .int .i64 4]) (by simp [results, Try.f100, go_sem, k1]) rfl ⟨_, ret_t2 Hc.out.symm, by rw [Hr.out]; exact ownI_nil _ _, hB3.setCell (p := ⟨w.heap.size, 0, none⟩) (Nat.le_refl _) _⟩
      · have hrow : w3.ownsRow W0.heap.size 2 1 (.slice av j cv) j ((greatL ts j).map (.int .i64)) := by have h := ho2; unfold OwnI at h; rwa [greatL_length] at h
        have hbk := ho2.blk
        have hne := ownI_ne_box3 ho2 bOk
        have hpB := hB3.size
        have hbo := bOk.lt
        have Hsu := Lib.hid (greatL_succ ts j)
        go_wp2_with (at_builtin; refine wpList_append_own _ rfl _ _ 24 rfl W0.heap.size 2 i0 (.int .i64 0) 1 8 Try.underlying24 hi hz0 hz1 hz2 rfl (by decide) _ _ _ rfl (World.ownsRow.alloc hrow _) ⟨w3.heap.size, 0, none⟩ 1 1 [.int .i64 gw] rfl rfl (Go.cell_one_new _ _ _) (by simp [Value.oneCell']) (by unfold maxLen; omega) (by omega) (by simp; omega) ?_)
        intro v' w4 hown' hgrow _
        have ho4 := ownI_snoc (xs := greatL ts j) (x := gw) (by rw [greatL_length]; exact hown')
        rw [← Hgw.out, ← Hsu.out] at ho4
        obtain ⟨g, c2, rfl, hg1, hg2⟩ := ho4.shape (by rw [greatL_length]; omega)
        rw [greatL_length] at ho4
        rw [greatL_length]
        have b4 := (bOk.alloc (.cells #[.int .i64 gw] 2)).kept hgrow (fun e => hne e.symm)
        have q4 := (bQk.alloc (.cells #[.int .i64 gw] 2)).kept hgrow (fun e => by have := (hbk _ e.symm).1; omega)
        have hB4 : Below w.heap.size w w4 := (hB3.alloc hB3.size _).grown hgrow (by simp; omega) (fun j e => by have := (hbk j e).1; omega)
        clear hown' hgrow hrow cO fO cQ fQ
        have cO := b4.cell
        have fO := b4.frozen
        go_wp2
        go_roundw
        case rel => exact ⟨j + 1, _, by omega, by simp, b4.set _, ho4.kept (grownBy_setCell2 _ _ _ _) (.inr (ownI_ne_box3 ho4 b4)), fun m hm => by by_cases e : m = j; (subst e; rw [Hgw.out]; exact h0); exact Hall.out m (by omega), boxed_setFar q4 (by omega), hB4.setCell (p := ⟨W0.heap.size + 1, 0, none⟩) (by show w.heap.size ≤ W0.heap.size + 1; omega) _⟩
        case measure => simp [intOf]; omega
    · obtain rfl : j = n := by omega
      have hnw := noWait_no Hall.out
      have Hnw := Lib.hid hnw
      clear hnw
      have hszB := hB.size
      go_wp2_with fail
      refine (l01Is_c _ (greatL ts j) _ hok.ints (by rw [greatL_length]; omega)).mono ?_
      rintro e w3 ⟨rfl, hb⟩
      have ho2 := hok.below hb
      have hB3 := hB.trans (hb.mono hszB)
      have hbl0 := bOk.lt
      replace bOk := boxed_later bOk hb
      replace bQk := boxed_later bQk hb
      clear hok hb hB cO fO
      have cO := bOk.cell
      have cQ := bQk.cell
      have fQ := bQk.frozen
      cases htk : tasksOk (greatL ts j)
      · have Hc := Lib.hid (show gasC ts j = 3 by unfold gasC; rw [Hgo.out, if_pos rfl, Int.toNat_natCast, Hnw.out, htk]; rfl)
        have Hr := Lib.hid (show gasR ts j = [] by unfold gasR; rw [Hc.out]; rfl)
        have k1 := (bQk.set (.slice none 0 0)).cell
        clear htk
        go_wp2
        exact bodyPost_ret (v := .tuple #[.agg #[.slice none 0 0], .int .i64 3]) (by simp [results, Try.f100, go_sem, k1]) rfl ⟨_, ret_t2 Hc.out.symm, by rw [Hr.out]; exact ownI_nil _ _, hB3.setCell (p := ⟨w.heap.size, 0, none⟩) (Nat.le_refl _) _⟩
      · have hc0 : gasC ts j = 0 := by unfold gasC; rw [Hgo.out, if_pos rfl, Int.toNat_natCast, Hnw.out, htk]; rfl
        have Hc := Lib.hid hc0
        have Hr := Lib.hid (show gasR ts j = greatL ts j by unfold gasR; rw [if_pos hc0, Int.toNat_natCast])
        have k1 := (bQk.set (.slice av j cv)).cell
        have ho9 : OwnI w.heap.size (w3.setCell ⟨w.heap.size, 0, none⟩ (.slice av j cv)) (.slice av j cv) (greatL ts j) := (ho2.kept (grownBy_setCell2 _ _ _ _) (.inr (fun e => by have := (ho2.blk _ e).1; omega))).base (by omega)
        clear htk hc0
        go_wp2
        exact bodyPost_ret (v := .tuple #[.agg #[(.slice av j cv)], .int .i64 0]) (by simp [results, Try.f100, go_sem, k1]) rfl ⟨_, ret_t2 Hc.out.symm, by rw [Hr.out]; exact ho9, hB3.setCell (p := ⟨w.heap.size, 0, none⟩) (Nat.le_refl _) _⟩

end Go.Proofs.Ytoflgfenlbibpaa
