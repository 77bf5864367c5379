/-
  Who is apart: both; AreApart of both.
  Conditions: lists of at most 1048576 elements.
-/
import Derived.Test.YtckkhgpciglbmaaClD
import Derived.Test.YtckkhgpciglbmaaShift
namespace Go.Proofs.Ytckkhgpciglbmaa
open Go.RowKit Go.Shelf
attribute [local go_sem] Oper.semAt_some

def apC (cs : List (Int × Int)) : Int := if clsOk cs then 0 else 1
def apV (cs : List (Int × Int)) : Bool := clsOk cs && apartB cs
theorem clss_of {cs : List (Int × Int)} (h : clsOk cs = true) : Clss cs := fun _ hk => clsOk_at h hk
theorem clss_bd {cs : List (Int × Int)} (h : Clss cs) {k : Nat} (hk : k < cs.length) : (-1000 ≤ rst cs k ∧ rst cs k ≤ 1000) ∧ (1 ≤ gp cs k ∧ gp cs k ≤ 1000) := by have := h k hk; omega

set_option maxRecDepth 100000 in
set_option maxHeartbeats 8000000 in
theorem l05Apart_c (sv : Value) (cs : List (Int × Int)) (w : World) (hI : Cls w.heap.size w sv cs) (hcl : Clss cs) (hm : cs.length ≤ 8) :
    Calls Try.prog 95 #[sv] w fun e w' => e = .returned (.bool (apartB cs)) ∧ Below w.heap.size w w' := by
  obtain ⟨a, cap, rfl⟩ := hI.shape
  have Hcl := Lib.hid hcl
  clear hcl
  go_enter Try.func95, Try.ntmps95
  go_wp2
  go_loopw [3] (fun i wr => ∃ k : Nat, k ≤ cs.length ∧ i = .int .i64 k ∧ (∀ j, j < k → ∀ m, m < j → meets cs j m = false) ∧ Below w.heap.size w wr) (fun i _ => cs.length - (intOf i).toNat)
  case atStart => exact ⟨0, Nat.zero_le _, rfl, by omega, Below.refl _ _⟩
  case round =>
    obtain ⟨k, hk, rfl, hall, hB⟩ := hrel
    have Hall := Lib.hid hall
    clear hall
    by_cases hlt : k < cs.length
    · have hlt' : (k : Int) < (cs.length : Int) := by omega
      go_wp2
      go_loopw [4] (fun i wr => ∃ m : Nat, m ≤ k ∧ i = .int .i64 m ∧ (∀ j, j < m → meets cs k j = false) ∧ Below w.heap.size w wr) (fun i _ => k - (intOf i).toNat)
      case atStart => exact ⟨0, Nat.zero_le _, rfl, by omega, hB⟩
      case round =>
        obtain ⟨m, hmk, rfl, hin, hB1⟩ := hrel
        have Hin := Lib.hid hin
        clear hin hB
        by_cases hltm : m < k
        · obtain ⟨b, off, rfl, hb, hc⟩ := (hI.below hB1).at_ hlt
          obtain ⟨x0, x1⟩ := hc k hlt
          obtain ⟨y0, y1⟩ := hc m (by omega)
          have hltm' : (m : Int) < (k : Int) := by omega
          have hltm2 : (m : Int) < (cs.length : Int) := by omega
          have hsz := hB1.size
          have p1 : b < wr.heap.size := by omega
          obtain ⟨q1, q2⟩ := clss_bd Hcl.out hlt
          obtain ⟨q3, q4⟩ := clss_bd Hcl.out (k := m) (by omega)
          have q5 : 0 ≤ gp cs m ∧ gp cs m ≤ 1000 := by omega
          have Q := Lib.hid (And.intro q1 (And.intro q3 (And.intro q2 q5)))
          clear hc hI q1 q2 q3 q4 q5
          cases he : meets cs k m
          · have He := Lib.hid he
            clear he
            go_wp2
            go_region_held3 (fun w' => w'.cell? ⟨b, off + k * 2, none⟩ = some (.int .i64 (rst cs k)) ∧ w'.cell? ⟨b, off + k * 2 + 1, none⟩ = some (.int .i64 (gp cs k)) ∧ w'.cell? ⟨b, off + m * 2, none⟩ = some (.int .i64 (rst cs m)) ∧ w'.cell? ⟨b, off + m * 2 + 1, none⟩ = some (.int .i64 (gp cs m)) ∧ Below wr.heap.size wr w')
              (first
                | exact ⟨x0, x1, y0, y1, (Below.refl _ _).drew⟩
                | (go_split_ands
                   refine ⟨?_, ?_, ?_, ?_, ?_⟩
                   · exact (hx.cell (p := ⟨b, off + k * 2, none⟩) (by show b < _; omega)).trans (by assumption)
                   · exact (hx.cell (p := ⟨b, off + k * 2 + 1, none⟩) (by show b < _; omega)).trans (by assumption)
                   · exact (hx.cell (p := ⟨b, off + m * 2, none⟩) (by show b < _; omega)).trans (by assumption)
                   · exact (hx.cell (p := ⟨b, off + m * 2 + 1, none⟩) (by show b < _; omega)).trans (by assumption)
                   · exact Below.trans (by assumption) (hx.mono (by omega))))
              (first | (go_at_call 147; go_split_ands; have hBW2 : Below wr.heap.size wr _ := (by assumption); have pW := hBW2.size; refine (l05Meet_d false _ _ _ _ _ Q.out.1 Q.out.2.1 Q.out.2.2.1 Q.out.2.2.2 He.out).mono ?_; rintro e W1 ⟨rfl, hx⟩))
            go_split_ands
            have hB3 := hB1.trans (Below.mono (by assumption) hsz)
            go_wp2
            go_roundw
            case rel => exact ⟨m + 1, by omega, by simp, fun j hj => by by_cases e : j = m; exact e ▸ He.out; exact Hin.out j (by omega), hB3⟩
            case measure => simp [intOf]; omega
          · have He := Lib.hid he
            clear he
            go_wp2
            go_region_held3 (fun w' => w'.cell? ⟨b, off + k * 2, none⟩ = some (.int .i64 (rst cs k)) ∧ w'.cell? ⟨b, off + k * 2 + 1, none⟩ = some (.int .i64 (gp cs k)) ∧ w'.cell? ⟨b, off + m * 2, none⟩ = some (.int .i64 (rst cs m)) ∧ w'.cell? ⟨b, off + m * 2 + 1, none⟩ = some (.int .i64 (gp cs m)) ∧ Below wr.heap.size wr w')
              (first
                | exact ⟨x0, x1, y0, y1, (Below.refl _ _).drew⟩
                | (go_split_ands
                   refine ⟨?_, ?_, ?_, ?_, ?_⟩
                   · exact (hx.cell (p := ⟨b, off + k * 2, none⟩) (by show b < _; omega)).trans (by assumption)
                   · exact (hx.cell (p := ⟨b, off + k * 2 + 1, none⟩) (by show b < _; omega)).trans (by assumption)
                   · exact (hx.cell (p := ⟨b, off + m * 2, none⟩) (by show b < _; omega)).trans (by assumption)
                   · exact (hx.cell (p := ⟨b, off + m * 2 + 1, none⟩) (by show b < _; omega)).trans (by assumption)
                   · exact Below.trans (by assumption) (hx.mono (by omega))))
              (first | (go_at_call 147; go_split_ands; have hBW2 : Below wr.heap.size wr _ := (by assumption); have pW := hBW2.size; refine (l05Meet_d true _ _ _ _ _ Q.out.1 Q.out.2.1 Q.out.2.2.1 Q.out.2.2.2 He.out).mono ?_; rintro e W1 ⟨rfl, hx⟩))
            go_split_ands
            have hB3 := hB1.trans (Below.mono (by assumption) hsz)
            go_wp2
            go_ret
            exact ⟨ret_bool (apart_no hlt hltm He.out).symm, hB3⟩
        · obtain rfl : m = k := by omega
          go_wp2
          go_roundw
          case rel => exact ⟨m + 1, by omega, by simp, fun j hj => by by_cases e : j = m; exact e ▸ Hin.out; exact Hall.out j (by omega), hB1⟩
          case measure => simp [intOf]; omega
    · obtain rfl : k = cs.length := by omega
      go_wp2
      go_ret
      exact ⟨ret_bool (apart_yes Hall.out).symm, hB⟩

theorem s_AreApart (c0 : Value) (cs : List (Int × Int)) (w : World) (hI : Cls w.heap.size w c0 cs) (_hN : C64 cs) (hm : cs.length ≤ 1048576) (_hcp : CapOk c0 cs.length) :
    Calls Try.prog 50 #[c0] w fun e w' => e = .returned (.tuple #[.bool (apV cs), .int .i64 (apC cs)]) ∧ Below w.heap.size w w' := by
  obtain ⟨a, cap, rfl⟩ := hI.shape
  cases h : clsOk cs
  · have Hv := Lib.hid (show apV cs = false by unfold apV; rw [h]; rfl)
    have Hc := Lib.hid (show apC cs = 1 by unfold apC; rw [h]; rfl)
    have H := Lib.hid h
    clear h
    go_enter Try.func50, Try.ntmps50
    go_wp2_with fail
    refine (l05Are_c _ cs _ hI hm).mono ?_
    rintro e w1 ⟨he, hb⟩
    rw [H.out] at he
    subst he
    go_wp2
    go_ret2
    exact ⟨by rw [Hv.out, Hc.out]; rfl, hb⟩
  · have Hv := Lib.hid (show apV cs = apartB cs by unfold apV; rw [h]; rfl)
    have Hc := Lib.hid (show apC cs = 0 by unfold apC; rw [h]; rfl)
    have H := Lib.hid h
    have hl := clsOk_len h
    clear h
    go_enter Try.func50, Try.ntmps50
    go_wp2_with fail
    refine (l05Are_c _ cs _ hI hm).mono ?_
    rintro e w1 ⟨he, hb⟩
    rw [H.out] at he
    subst he
    go_wp2_with fail
    refine (l05Apart_c _ cs _ (hI.later hb) (clss_of H.out) hl.2).mono ?_
    rintro e w2 ⟨rfl, hb2⟩
    go_wp2
    go_ret2
    exact ⟨by rw [Hv.out, Hc.out]; rfl, hb.trans (hb2.mono hb.size)⟩

/-! ### the program -/
theorem OwnC.capOk {B n : Nat} {W : World} {v : Value} {xs : List Int} (h : OwnC B W v n xs) : CapOk v n := by
  obtain ⟨_, h2⟩ := h
  rcases h2 with ⟨e, h0⟩ | ⟨g, cap, cur, e, _, _, hn, hm, _⟩
  · exact ⟨none, 0, by rw [e, h0], by omega, Nat.zero_le _⟩
  · exact ⟨_, cap, e, hn, hm⟩
theorem rst_take {cs : List (Int × Int)} {k m : Nat} (h : m < k) : rst (cs.take k) m = rst cs m ∧ gp (cs.take k) m = gp cs m := by
  unfold rst gp
  rw [List.getElem?_take_of_lt h]
  exact ⟨rfl, rfl⟩
theorem flat_take : ∀ (cs : List (Int × Int)) (k : Nat), flat (cs.take k) = (flat cs).take (k * 2)
  | [], k => by simp [flat]
  | c :: cs, 0 => by simp [flat]
  | c :: cs, k + 1 => by
    rw [show (k + 1) * 2 = k * 2 + 1 + 1 by omega]
    simp [flat, flat_take cs k]
theorem cls_take {n₀ k : Nat} {W : World} {a : Option Addr} {len cap : Nat} {cs : List (Int × Int)} (h : Cls n₀ W (.slice a len cap) cs) (hk : k ≤ cs.length) : Cls n₀ W (.slice a k cap) (cs.take k) := by
  have hl : (cs.take k).length = k := by simp; omega
  obtain ⟨a', c', e, _, h2⟩ := h
  cases e
  refine ⟨a, cap, by rw [hl], flat_length _, ?_⟩
  rw [hl]
  by_cases h0 : k = 0
  · exact .inl h0
  · rcases h2 with h2 | ⟨b, off, ha, hb, hc⟩
    · omega
    · refine .inr ⟨b, off, ha, hb, fun j hj => ?_⟩
      rw [hc j (by omega), flat_take]
      unfold nth
      rw [List.getElem?_take_of_lt hj]

set_option maxRecDepth 100000 in
set_option maxHeartbeats 8000000 in
theorem indexMeets_c (sv : Value) (ds : List (Int × Int)) (x y : Int) (w : World) (hI : Cls w.heap.size w sv ds) (hm : ds.length ≤ 8) (hcl : ∀ k, k < ds.length → (-1000 ≤ rst ds k ∧ rst ds k ≤ 1000) ∧ (1 ≤ gp ds k ∧ gp ds k ≤ 1000)) (hx : -1000 ≤ x ∧ x ≤ 1000) (hy : 1 ≤ y ∧ y ≤ 1000) :
    Calls Try.prog 175 #[sv, .func (.func 149) #[.agg #[.int .i64 x, .int .i64 y]] #[]] w
      fun e w' => ((e = .returned (.int .i64 (-1)) ∧ ∀ k, k < ds.length → meet2 x y (rst ds k) (gp ds k) = false) ∨ ∃ k : Nat, k < ds.length ∧ e = .returned (.int .i64 k) ∧ meet2 x y (rst ds k) (gp ds k) = true) ∧ Below w.heap.size w w' := by
  obtain ⟨a, cap, rfl⟩ := hI.shape
  have Hcl := Lib.hid hcl
  clear hcl
  go_enter Try.func175, Try.ntmps175
  go_wp2
  go_loopw [8] (fun i wr => ∃ k : Nat, k ≤ ds.length ∧ i = .int .i64 k ∧ (∀ j, j < k → meet2 x y (rst ds j) (gp ds j) = false) ∧ Below w.heap.size w wr) (fun i _ => ds.length - (intOf i).toNat)
  case atStart => exact ⟨0, Nat.zero_le _, rfl, by omega, Below.refl _ _⟩
  case round =>
    obtain ⟨k, hk, rfl, hall, hB⟩ := hrel
    have Hall := Lib.hid hall
    clear hall
    by_cases hlt : k < ds.length
    · obtain ⟨b, off, rfl, hb, hc⟩ := (hI.below hB).at_ hlt
      obtain ⟨x0, x1⟩ := hc k hlt
      obtain ⟨q1, q2⟩ := Hcl.out k hlt
      have q5 : 0 ≤ gp ds k ∧ gp ds k ≤ 1000 := by omega
      clear hc hI
      cases he : meet2 x y (rst ds k) (gp ds k)
      · have He := Lib.hid he
        clear he
        go_wp2_with fail
        refine (meets_d false _ _ _ _ _ hx q1 hy q5 He.out).mono ?_
        rintro e w1 ⟨rfl, hb1⟩
        go_wp2
        go_roundw
        case rel => exact ⟨k + 1, by omega, by simp, fun j hj => by by_cases e : j = k; exact e ▸ He.out; exact Hall.out j (by omega), hB.trans (hb1.mono hB.size)⟩
        case measure => simp [intOf]; omega
      · have He := Lib.hid he
        clear he
        go_wp2_with fail
        refine (meets_d true _ _ _ _ _ hx q1 hy q5 He.out).mono ?_
        rintro e w1 ⟨rfl, hb1⟩
        go_wp2
        go_ret
        exact ⟨.inr ⟨k, hlt, rfl, He.out⟩, hB.trans (hb1.mono hB.size)⟩
    · obtain rfl : k = ds.length := by omega
      go_wp2
      go_ret
      exact ⟨.inl ⟨rfl, Hall.out⟩, hB⟩

theorem containsMeets_c (sv : Value) (ds : List (Int × Int)) (x y : Int) (w : World) (hI : Cls w.heap.size w sv ds) (hm : ds.length ≤ 8) (hcl : ∀ k, k < ds.length → (-1000 ≤ rst ds k ∧ rst ds k ≤ 1000) ∧ (1 ≤ gp ds k ∧ gp ds k ≤ 1000)) (hx : -1000 ≤ x ∧ x ≤ 1000) (hy : 1 ≤ y ∧ y ≤ 1000) :
    Calls Try.prog 148 #[sv, .func (.func 149) #[.agg #[.int .i64 x, .int .i64 y]] #[]] w
      fun e w' => ((e = .returned (.bool false) ∧ ∀ k, k < ds.length → meet2 x y (rst ds k) (gp ds k) = false) ∨ ∃ k : Nat, k < ds.length ∧ e = .returned (.bool true) ∧ meet2 x y (rst ds k) (gp ds k) = true) ∧ Below w.heap.size w w' := by
  obtain ⟨a, cap, rfl⟩ := hI.shape
  go_enter Try.func148, Try.ntmps148
  go_wp2_with fail
  refine (indexMeets_c _ ds x y _ hI hm hcl hx hy).mono ?_
  rintro e w1 ⟨(⟨rfl, hall⟩ | ⟨k, hk, rfl, he⟩), hb⟩
  · have Hall := Lib.hid hall
    clear hall
    go_wp2
    go_ret
    exact ⟨.inl ⟨rfl, Hall.out⟩, hb⟩
  · have He := Lib.hid he
    clear he
    go_wp2
    go_ret
    exact ⟨.inr ⟨k, hk, by simp, He.out⟩, hb⟩

set_option maxRecDepth 100000 in
set_option maxHeartbeats 8000000 in
theorem areApart_c (sv : Value) (cs : List (Int × Int)) (w : World) (hI : Cls w.heap.size w sv cs) (hcl : Clss cs) (hm : cs.length ≤ 8) (hcp : CapOk sv cs.length) :
    Calls Try.prog 96 #[sv] w fun e w' => e = .returned (.bool (apartB cs)) ∧ Below w.heap.size w w' := by
  obtain ⟨a, cap, rfl⟩ := hI.shape
  obtain ⟨_, _, hce, hcap, hcapm⟩ := hcp
  cases hce
  have Hcl := Lib.hid hcl
  have hfw : Try.prog.follows Departure.mixedOrders = true := by kernel_rfl
  unfold maxLen at hcapm
  clear hcl
  go_enter Try.func96, Try.ntmps96
  go_wp2
  go_loopw [7] (fun i wr => ∃ k : Nat, k ≤ cs.length ∧ i = .int .i64 k ∧ (∀ j, j < k → ∀ m, m < j → meets cs j m = false) ∧ Below w.heap.size w wr) (fun i _ => cs.length - (intOf i).toNat)
  case atStart => exact ⟨0, Nat.zero_le _, rfl, by omega, Below.refl _ _⟩
  case round =>
    obtain ⟨k, hk, rfl, hall, hB⟩ := hrel
    have Hall := Lib.hid hall
    clear hall
    by_cases hlt : k < cs.length
    · obtain ⟨b, off, rfl, hb, hc⟩ := (hI.below hB).at_ hlt
      obtain ⟨e1, e2⟩ := hc k hlt
      have hs := hB.size
      obtain ⟨q1, q2⟩ := clss_bd Hcl.out hlt
      have hkc : (k : Int) ≤ (cap : Int) := by omega
      have hS : Box2 (wr.alloc (.cells #[.int .i64 (rst cs k), .int .i64 (gp cs k)] 87)).drew wr.heap.size 87 (.int .i64 (rst cs k)) (.int .i64 (gp cs k)) ∧ Below w.heap.size w (wr.alloc (.cells #[.int .i64 (rst cs k), .int .i64 (gp cs k)] 87)).drew :=
        ⟨Box2.new _ _ _ _, (hB.alloc hs _).drew⟩
      clear hc
      go_wp2_with fail
      refine wp_region_held_drew (S := fun w' => Box2 w' wr.heap.size 87 (.int .i64 (rst cs k)) (.int .i64 (gp cs k)) ∧ Below w.heap.size w w') hfw hS ?_
      intro hS0
      refine wpAnyH_take (i := 0) (v := ?va1q0) rfl (by kernel_rfl) (by kernel_rfl) (by kernel_rfl) (fun _ _ _ h => h) (.inl ⟨by first | kernel_rfl | rfl, ?ya1q0⟩) hS0 ?_
      case ya1q0 =>
        intro w' hS
        (have a0 := hS.1.c0; have a1 := hS.1.c1; clear hS)
        go_simp
        try with_reducible rfl
      refine wpAnyH_take (i := 1) (v := ?va1q1) rfl (by kernel_rfl) (by kernel_rfl) (by kernel_rfl) (fun _ _ _ h => h) (.inl ⟨by first | kernel_rfl | rfl, ?ya1q1⟩) hS0 ?_
      case ya1q1 =>
        intro w' hS
        (have a0 := hS.1.c0; have a1 := hS.1.c1; clear hS)
        go_simp
        try with_reducible rfl
      refine wpAnyH_take (i := 2) (v := ?va1q2) rfl (by kernel_rfl) (by kernel_rfl) (by kernel_rfl) (fun _ _ _ h => h) (.inl ⟨by first | kernel_rfl | rfl, ?ya1q2⟩) hS0 ?_
      case ya1q2 =>
        intro w' hS
        (have a0 := hS.1.c0; have a1 := hS.1.c1; clear hS)
        go_simp
        try with_reducible rfl
      refine wpAnyH_take (i := 3) (v := ?va1q3) rfl (by kernel_rfl) (by kernel_rfl) (by kernel_rfl) (fun _ _ _ h => h) (.inl ⟨by first | kernel_rfl | rfl, ?ya1q3⟩) hS0 ?_
      case ya1q3 =>
        intro w' hS
        (have a0 := hS.1.c0; have a1 := hS.1.c1; clear hS)
        go_simp
        try with_reducible rfl
      refine wpAnyH_take (i := 4) (v := ?va1q4) rfl (by kernel_rfl) (by kernel_rfl) (by kernel_rfl) (fun _ _ _ h => h) (.inl ⟨by first | kernel_rfl | rfl, ?ya1q4⟩) hS0 ?_
      case ya1q4 =>
        intro w' hS
        (have a0 := hS.1.c0; have a1 := hS.1.c1; clear hS)
        go_simp
        try with_reducible rfl
      refine wpAnyH_ready (rs := [5]) (by kernel_rfl) (by simp) ?_
      refine AllReadyH.cons rfl (fun K' hK' => ?_) AllReadyH.nil
      rw [if_pos (by first | kernel_rfl | rfl)]
      go_simp
      have hI2 : Cls w.heap.size (wr.alloc (.cells #[.int .i64 (rst cs k), .int .i64 (gp cs k)] 87)).drew (.slice (some ⟨b, off, none⟩) k cap) (cs.take k) := cls_take (hI.below hS0.2) (by omega)
      have hl2 : (cs.take k).length = k := by simp; omega
      refine (containsMeets_c _ (cs.take k) (rst cs k) (gp cs k) _ (hI2.mono hS0.2.size) (by omega) (fun j hj => ?_) q1 q2).mono ?_
      · have hjk : j < k := by omega
        rw [(rst_take hjk).1, (rst_take hjk).2]
        exact clss_bd Hcl.out (by omega)
      rw [hl2]
      rintro e w1 ⟨(⟨rfl, hno⟩ | ⟨m, hmk, rfl, hme⟩), hb1⟩
      · have Hno := Lib.hid (show ∀ m, m < k → meets cs k m = false from fun m hm => by have := hno m hm; rw [(rst_take hm).1, (rst_take hm).2] at this; exact this)
        clear hno
        refine hK'.out _ _ ⟨hS0.1.later hb1, hS0.2.trans (hb1.mono hS0.2.size)⟩ fun hS1 => ?_
        refine wpAnyH_done (by kernel_rfl) ?_ _
        have hB2 := hS1.2
        clear hI2 hl2 hS hS0 hb1 hS1
        go_wp2
        go_roundw
        case rel => exact ⟨k + 1, by omega, by simp, fun j hj => by by_cases e : j = k; exact e ▸ Hno.out; exact Hall.out j (by omega), hB2⟩
        case measure => simp [intOf]; omega
      · have Hme := Lib.hid (show meets cs k m = true by rw [(rst_take hmk).1, (rst_take hmk).2] at hme; exact hme)
        clear hme
        refine hK'.out _ _ ⟨hS0.1.later hb1, hS0.2.trans (hb1.mono hS0.2.size)⟩ fun hS1 => ?_
        refine wpAnyH_done (by kernel_rfl) ?_ _
        have hB2 := hS1.2
        clear hI2 hl2 hS hS0 hb1 hS1
        go_wp2
        go_ret
        exact ⟨ret_bool (apart_no hlt hmk Hme.out).symm, hB2⟩
    · obtain rfl : k = cs.length := by omega
      go_wp2
      go_ret
      exact ⟨ret_bool (apart_yes Hall.out).symm, hB⟩

theorem i_AreApart (c0 : Value) (cs : List (Int × Int)) (w : World) (hI : Cls w.heap.size w c0 cs) (hN : C64 cs) (hm : cs.length ≤ 1048576) (hcp : CapOk c0 cs.length) :
    Calls Try.prog 51 #[c0] w fun e w' => e = .returned (.tuple #[.bool (apV cs), .int .i64 (apC cs)]) ∧ Below w.heap.size w w' := by
  obtain ⟨a, cap, rfl⟩ := hI.shape
  cases h : clsOk cs
  · have Hv := Lib.hid (show apV cs = false by unfold apV; rw [h]; rfl)
    have Hc := Lib.hid (show apC cs = 1 by unfold apC; rw [h]; rfl)
    have H := Lib.hid h
    clear h
    go_enter Try.func51, Try.ntmps51
    go_wp2_with fail
    refine (i_AreClasses _ cs _ hI hN hm).mono ?_
    rintro e w1 ⟨he, hb⟩
    rw [H.out] at he
    subst he
    go_wp2
    go_ret2
    exact ⟨by rw [Hv.out, Hc.out]; rfl, hb⟩
  · have Hv := Lib.hid (show apV cs = apartB cs by unfold apV; rw [h]; rfl)
    have Hc := Lib.hid (show apC cs = 0 by unfold apC; rw [h]; rfl)
    have H := Lib.hid h
    have hl := clsOk_len h
    clear h
    go_enter Try.func51, Try.ntmps51
    go_wp2_with fail
    refine (i_AreClasses _ cs _ hI hN hm).mono ?_
    rintro e w1 ⟨he, hb⟩
    rw [H.out] at he
    subst he
    go_wp2_with fail
    refine (areApart_c _ cs _ (hI.later hb) (clss_of H.out) hl.2 hcp).mono ?_
    rintro e w2 ⟨rfl, hb2⟩
    go_wp2
    go_ret2
    exact ⟨by rw [Hv.out, Hc.out]; rfl, hb.trans (hb2.mono hb.size)⟩

end Go.Proofs.Ytckkhgpciglbmaa
