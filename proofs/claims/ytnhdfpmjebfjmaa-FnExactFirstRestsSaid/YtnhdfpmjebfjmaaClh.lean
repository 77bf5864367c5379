/-
  The laws' helpers for classes: sizes, copies, comparisons, marks.
  Conditions: lists of at most 1048576 elements where a copy is made.
-/
import Derived.Test.YtnhdfpmjebfjmaaCls
namespace Go.Proofs.Ytnhdfpmjebfjmaa
open Go.RowKit Go.Shelf

set_option maxHeartbeats 400000 in
theorem szClassS_c (a : Option Addr) (n cap : Nat) (left : Int) (w : World) (h0 : 0 ≤ left) (h1 : left ≤ 1048576) (hn : n ≤ 9223372036854775807) :
    Calls Try.prog 24 #[.slice a n cap, .int .i64 left] w fun e w' => e = .returned (.int .i64 (szI n left)) ∧ Below w.heap.size w w' := by
  by_cases h : left - n < 0
  · have hm : szI n left = -1 := if_pos h
    go_enter Try.func24, Try.ntmps24
    go_wp2
    go_ret
    exact ⟨ret_int hm.symm, Below.refl _ _⟩
  · have hm : szI n left = left - n := if_neg h
    have Hm := Lib.hid hm
    clear hm
    go_enter Try.func24, Try.ntmps24
    go_wp2
    go_ret
    exact ⟨ret_int Hm.out.symm, Below.refl _ _⟩

/-! ### copies -/
def at2 (x y : Int) (k : Nat) : Int := if k = 0 then x else y
set_option maxRecDepth 100000 in
set_option maxHeartbeats 2000000 in
theorem toClass_c (x y : Int) (w : World) :
    Calls Try.prog 63 #[.agg #[.int .i64 x, .int .i64 y]] w fun e w' => e = .returned (.agg #[.int .i64 x, .int .i64 y]) ∧ Below w.heap.size w w' := by
  go_enter Try.func63, Try.ntmps63
  go_wp2
  obtain ⟨W, hW⟩ : ∃ W, ((w.alloc (.cells #[.int .i64 x, .int .i64 y] 72)).alloc (.cells #[.int .i64 0, .int .i64 0] 73)).alloc (.cells #[.int .i64 0, .int .i64 0] 73) = W := ⟨_, rfl⟩
  have hB : Below w.heap.size w W := by rw [← hW]; exact (((Below.refl _ w).alloc (Nat.le_refl _) _).alloc (by simp) _).alloc (by simp; omega) _
  have hs : w.heap.size + 3 ≤ W.heap.size := by rw [← hW]; simp
  have bA : Box2 W w.heap.size 72 (.int .i64 x) (.int .i64 y) := by rw [← hW]; exact ((Box2.new _ _ _ _).alloc _).alloc _
  have bR : Box2 W (w.heap.size + 1) 73 (.int .i64 0) (.int .i64 0) := by rw [← hW]; refine Box2.alloc ?_ _; exact box2_at (by simp)
  have bO : Box2 W (w.heap.size + 1 + 1) 73 (.int .i64 0) (.int .i64 0) := by rw [← hW]; exact box2_at (by simp)
  rw [hW]
  clear hW
  go_loopw [4] (fun i wr => ∃ k : Nat, k ≤ 2 ∧ i = .int .i64 k ∧ Box2 wr w.heap.size 72 (.int .i64 x) (.int .i64 y) ∧ Box2 wr (w.heap.size + 1) 73 (.int .i64 0) (.int .i64 0) ∧
      Box2 wr (w.heap.size + 1 + 1) 73 (.int .i64 (if 0 < k then x else 0)) (.int .i64 (if 1 < k then y else 0)) ∧ Below w.heap.size w wr) (fun i _ => 2 - (intOf i).toNat)
  case atStart => exact ⟨0, by omega, rfl, bA, bR, by simpa using bO, hB⟩
  case round =>
    obtain ⟨k, hk, rfl, bA1, bR1, bO1, hB1⟩ := hrel
    clear bA bR bO hB
    have a0 := bA1.c0
    have a1 := bA1.c1
    have fO := bO1.frozen
    have hk3 : k = 0 ∨ k = 1 ∨ k = 2 := by omega
    rcases hk3 with rfl | rfl | rfl
    · simp at bO1
      have o0 := bO1.c0
      have f0 := bO1.frozen 0
      clear fO
      go_wp2
      go_roundw
      case rel => exact ⟨1, by omega, by simp, bA1.other (by omega) _, bR1.other (by omega) _, by simpa using bO1.set0 _, hB1.setCell (p := ⟨w.heap.size + 1 + 1, 0, none⟩) (by simp; omega) _⟩
      case measure => simp [intOf]
    · simp at bO1
      have o0 := bO1.c1
      have f0 := bO1.frozen 1
      clear fO
      go_wp2
      go_roundw
      case rel => exact ⟨2, by omega, by simp, bA1.other (by omega) _, bR1.other (by omega) _, by simpa using bO1.set1 _, hB1.setCell (p := ⟨w.heap.size + 1 + 1, 1, none⟩) (by simp; omega) _⟩
      case measure => simp [intOf]
    · simp at bO1
      have o0 := bO1.c0
      have o1 := bO1.c1
      have r0 := bR1.c0
      have r1 := bR1.c1
      have f0 := bR1.frozen 0
      have f1 := bR1.frozen 1
      clear fO
      go_wp2
      have bR2 := (bR1.set0 (.int .i64 x)).set1 (.int .i64 y)
      have q0 := bR2.c0
      have q1 := bR2.c1
      refine bodyPost_ret (v := .agg #[.int .i64 x, .int .i64 y]) (by simp [results, Try.results63, go_sem, q0, q1]) rfl ⟨rfl, ?_⟩
      exact (hB1.setCell (p := ⟨w.heap.size + 1, 0, none⟩) (by simp) _).setCell (p := ⟨w.heap.size + 1, 1, none⟩) (by simp) _

theorem Try.infoC : (Try.prog.info? 73).map (fun i => (i.zero, i.size, i.bytes)) = some (some (.agg #[.int .i64 0, .int .i64 0]), 2, 16) := by kernel_rfl
theorem madeC (n : Nat) : (madeCells #[Value.int .i64 0, Value.int .i64 0] n).toList = (List.replicate n (0 : Int)).map (.int .i64) := by
  apply List.ext_getElem?
  intro j
  by_cases hj : j < n
  · have : j % 2 = 0 ∨ j % 2 = 1 := by omega
    rcases this with h | h <;> simp [madeCells, hj, h]
  · simp [madeCells, hj]
theorem fillTo_two (xs : List Int) {k : Nat} (h : k + 2 ≤ xs.length) : fillTo xs (k + 2) = ((fillTo xs k).set k (nth xs k)).set (k + 1) (nth xs (k + 1)) := by
  rw [fillTo_succ xs (k := k + 1) (by omega), fillTo_succ xs (k := k) (by omega)]

theorem info_parts2 {P : Program} {t : TypeId} {z : Value} {a b : Nat} (h : (P.info? t).map (fun i => (i.zero, i.size, i.bytes)) = some (some z, a, b)) : ∃ i, P.info? t = some i ∧ i.zero = some z ∧ i.size = a ∧ i.bytes = b := by
  cases e : P.info? t with
  | none => simp [e] at h
  | some i => simp [e] at h; exact ⟨i, rfl, h.1, h.2.1, h.2.2⟩

set_option maxRecDepth 100000 in
set_option maxHeartbeats 2000000 in
theorem toClassS_c (sv : Value) (cs : List (Int × Int)) (w : World) (hI : Cls w.heap.size w sv cs) (hl : cs.length ≤ 1048576) :
    Calls Try.prog 26 #[sv] w (GivesC w cs id) := by
  obtain ⟨i0, hi, hz0, hz1, hz2⟩ := info_parts2 Try.infoC
  obtain ⟨a, cap, rfl⟩ := hI.shape
  go_enter Try.func26, Try.ntmps26
  go_wp2_with (at_make; refine wpList_make_full _ rfl (.tmp 6) (.tmp 6) 26 rfl w.heap.size 73 i0 (.agg #[.int .i64 0, .int .i64 0]) 2 Try.underlying26 hi hz0 hz1 .i64 .i64 _ _ cs.length rfl rfl rfl rfl ?c1 ?c2 ?c3 ?_)
  case c1 => rw [hz2]; omega
  case c2 => unfold maxLen; omega
  case c3 => exact Nat.le_refl _
  intro w1 hown hgrow
  have hfl := flat_length cs
  have ho1 : OwnC w.heap.size w1 (.slice (some ⟨w.heap.size, 0, none⟩) cs.length cs.length) cs.length (fillTo (flat cs) 0) := by
    unfold OwnC
    rw [fillTo_zero, hfl, ← madeC]
    exact hown
  have hB1 : Below w.heap.size w w1 := (Below.refl _ _).grown hgrow (Nat.le_refl _) (by simp)
  clear hown hgrow
  have Hfl := Lib.hid hfl
  clear hfl
  go_wp2
  go_loopw [4] (fun i wr => ∃ k : Nat, k ≤ cs.length ∧ i = .int .i64 k ∧ OwnC w.heap.size wr (.slice (some ⟨w.heap.size, 0, none⟩) cs.length cs.length) cs.length (fillTo (flat cs) (k * 2)) ∧ Below w.heap.size w wr)
    (fun i _ => cs.length - (intOf i).toNat)
  case atStart => exact ⟨0, Nat.zero_le _, rfl, ho1, hB1⟩
  case round =>
    obtain ⟨k, hk, rfl, ho, hB⟩ := hrel
    by_cases hlt : k < cs.length
    · obtain ⟨b, off, rfl, hb, hc⟩ := (hI.below hB).at_ hlt
      obtain ⟨hcx, hcy⟩ := hc k hlt
      clear hc
      go_wp2_with fail
      refine (toClass_c _ _ _).mono ?_
      rintro e W1 ⟨rfl, hb1⟩
      have ho2 := ho.below hb1
      have hB2 := hB.trans (hb1.mono hB.size)
      have f0 := ho2.frozen (k * 2)
      have f1 := ho2.frozen (k * 2 + 1)
      have e0 := ho2.cellAt (j := k * 2) (by omega)
      have e1 := ho2.cellAt (j := k * 2 + 1) (by omega)
      go_wp2
      go_roundw
      case rel =>
        refine ⟨k + 1, by omega, by simp, ?_, (hB2.setCell (p := ⟨w.heap.size, k * 2, none⟩) (Nat.le_refl _) _).setCell (p := ⟨w.heap.size, k * 2 + 1, none⟩) (Nat.le_refl _) _⟩
        rw [show (k + 1) * 2 = k * 2 + 2 by omega, fillTo_two _ (by rw [Hfl.out]; omega), nth_flat0, nth_flat1]
        exact ((ho2.stored (k * 2) _).1.stored (k * 2 + 1) _).1
      case measure => simp [intOf]; omega
    · obtain rfl : k = cs.length := by omega
      go_wp2
      go_ret
      exact ⟨_, rfl, by rw [← Hfl.out, fillTo_all] at ho; exact ho, hB⟩

/-! ### comparisons -/
set_option maxRecDepth 100000 in
set_option maxHeartbeats 2000000 in
theorem eqClass_d (d : Bool) (x y x' y' : Int) (w : World) (hd : decide (x = x' ∧ y = y') = d) :
    Calls Try.prog 57 #[.agg #[.int .i64 x, .int .i64 y], .agg #[.int .i64 x', .int .i64 y']] w fun e w' => e = .returned (.bool d) ∧ Below w.heap.size w w' := by
  have Hd := Lib.hid hd
  clear hd
  go_enter Try.func57, Try.ntmps57
  go_wp2
  obtain ⟨W, hW⟩ : ∃ W, (w.alloc (.cells #[.int .i64 x, .int .i64 y] 73)).alloc (.cells #[.int .i64 x', .int .i64 y'] 73) = W := ⟨_, rfl⟩
  have hB : Below w.heap.size w W := by rw [← hW]; exact ((Below.refl _ w).alloc (Nat.le_refl _) _).alloc (by simp) _
  have bA : Box2 W w.heap.size 73 (.int .i64 x) (.int .i64 y) := by rw [← hW]; exact (Box2.new _ _ _ _).alloc _
  have bC : Box2 W (w.heap.size + 1) 73 (.int .i64 x') (.int .i64 y') := by rw [← hW]; exact box2_at (by simp)
  have a0 := bA.c0
  have a1 := bA.c1
  have c0 := bC.c0
  have c1 := bC.c1
  rw [hW]
  clear hW bA bC
  go_loopw [5] (fun i wr => ∃ k m : Nat, k ≤ 2 ∧ i = .int .i64 k ∧ (0 < k → x = x') ∧ (1 < k → y = y') ∧ wr = W.drewN m) (fun i _ => 2 - (intOf i).toNat)
  case atStart => exact ⟨0, 0, by omega, rfl, by simp, by simp, rfl⟩
  case round =>
    obtain ⟨k, m, hk, rfl, h0, h1, rfl⟩ := hrel
    have H0 := Lib.hid h0
    have H1 := Lib.hid h1
    clear h0 h1
    have hk3 : k = 0 ∨ k = 1 ∨ k = 2 := by omega
    rcases hk3 with rfl | rfl | rfl
    · by_cases he : x = x'
      · subst he
        go_wp2
        go_quiet (fail)
        go_wp2
        go_roundw
        case rel => exact ⟨1, _, by omega, by simp, fun _ => by first | rfl | trivial, by omega, rfl⟩
        case measure => simp [intOf]
      · have hq : (x != x') = true := by simpa using he
        have hd := Hd.out
        rw [decide_eq_false (fun h => he h.1)] at hd
        subst hd
        clear he
        go_wp2
        go_quiet (fail)
        go_wp2
        go_ret
        exact ⟨rfl, below_drewN (below_drewN hB _) _⟩
    · have hx := H0.out (by omega)
      subst hx
      by_cases he : y = y'
      · subst he
        go_wp2
        go_quiet (fail)
        go_wp2
        go_roundw
        case rel => exact ⟨2, _, by omega, by simp, fun _ => by first | rfl | trivial, fun _ => by first | rfl | trivial, rfl⟩
        case measure => simp [intOf]
      · have hq : (y != y') = true := by simpa using he
        have hd := Hd.out
        rw [decide_eq_false (fun h => he h.2)] at hd
        subst hd
        clear he
        go_wp2
        go_quiet (fail)
        go_wp2
        go_ret
        exact ⟨rfl, below_drewN (below_drewN hB _) _⟩
    · have hx := H0.out (by omega)
      have hy := H1.out (by omega)
      subst hx
      subst hy
      have hd := Hd.out
      rw [decide_eq_true ⟨rfl, rfl⟩] at hd
      subst hd
      go_wp2
      go_ret
      exact ⟨rfl, below_drewN hB _⟩

set_option maxRecDepth 100000 in
set_option maxHeartbeats 4000000 in
theorem eqClassS_c (sv tv : Value) (xs ys : List (Int × Int)) (w : World) (hX : Cls w.heap.size w sv xs) (hY : Cls w.heap.size w tv ys) (hl : xs.length * 16 ≤ 140737488351232) :
    Calls Try.prog 17 #[sv, tv] w fun e w' => e = .returned (.bool (decide (xs = ys))) ∧ Below w.heap.size w w' := by
  obtain ⟨a, cap, rfl⟩ := hX.shape
  obtain ⟨a2, cap2, rfl⟩ := hY.shape
  by_cases hlen : xs.length = ys.length
  · have hq : ((xs.length : Int) != (ys.length : Int)) = false := by rw [hlen]; simp
    have Hl := Lib.hid hlen
    clear hlen
    go_enter Try.func17, Try.ntmps17
    go_wp2
    go_loopw [5] (fun i wr => ∃ k : Nat, k ≤ xs.length ∧ i = .int .i64 k ∧ (∀ j, j < k → rst xs j = rst ys j ∧ gp xs j = gp ys j) ∧ Below w.heap.size w wr)
      (fun i _ => xs.length - (intOf i).toNat)
    case atStart => exact ⟨0, Nat.zero_le _, rfl, by simp, Below.refl _ _⟩
    case round =>
      obtain ⟨k, hk, rfl, hall, hB⟩ := hrel
      have Hall := Lib.hid hall
      clear hall
      by_cases hlt : k < xs.length
      · obtain ⟨b, off, rfl, hb, hc⟩ := (hX.below hB).at_ hlt
        have hlt2 : k < ys.length := by have := Hl.out; omega
        obtain ⟨b2, off2, rfl, hb2, hc2⟩ := (hY.below hB).at_ hlt2
        obtain ⟨x0, x1⟩ := hc k hlt
        obtain ⟨y0, y1⟩ := hc2 k hlt2
        have hi1 : (k : Int) < (xs.length : Int) := by omega
        have hi2 : (k : Int) < (ys.length : Int) := by omega
        have hsz := hB.size
        have p1 : b < wr.heap.size := by omega
        have p2 : b2 < wr.heap.size := by omega
        clear hc hc2 hX hY
        cases he : decide (rst xs k = rst ys k ∧ gp xs k = gp ys k)
        · have He := Lib.hid he
          clear he
          go_wp2
          go_region_held3 (fun w' => w'.cell? ⟨b, off + k * 2, none⟩ = some (.int .i64 (rst xs k)) ∧ w'.cell? ⟨b, off + k * 2 + 1, none⟩ = some (.int .i64 (gp xs k)) ∧ w'.cell? ⟨b2, off2 + k * 2, none⟩ = some (.int .i64 (rst ys k)) ∧ w'.cell? ⟨b2, off2 + k * 2 + 1, none⟩ = some (.int .i64 (gp ys k)) ∧ Below wr.heap.size wr w')
            (first
              | exact ⟨x0, x1, y0, y1, (Below.refl _ _).drew⟩
              | (go_split_ands
                 refine ⟨?_, ?_, ?_, ?_, ?_⟩
                 · exact (hx.cell (p := ⟨b, off + k * 2, none⟩) (by show b < _; omega)).trans (by assumption)
                 · exact (hx.cell (p := ⟨b, off + k * 2 + 1, none⟩) (by show b < _; omega)).trans (by assumption)
                 · exact (hx.cell (p := ⟨b2, off2 + k * 2, none⟩) (by show b2 < _; omega)).trans (by assumption)
                 · exact (hx.cell (p := ⟨b2, off2 + k * 2 + 1, none⟩) (by show b2 < _; omega)).trans (by assumption)
                 · exact Below.trans (by assumption) (hx.mono (by omega))))
            (first | (go_at_call 57; go_split_ands; have hBW2 : Below wr.heap.size wr _ := (by assumption); have pW := hBW2.size; refine (eqClass_d false _ _ _ _ _ He.out).mono ?_; rintro e W1 ⟨rfl, hx⟩))
          go_split_ands
          have hB3 := hB.trans (Below.mono (by assumption) hsz)
          go_wp2
          go_ret
          exact ⟨ret_bool (decide_eq_false (fun e => by have h := of_decide_eq_false He.out; rw [e] at h; exact h ⟨rfl, rfl⟩)).symm, hB3⟩
        · have He := Lib.hid he
          clear he
          go_wp2
          go_region_held3 (fun w' => w'.cell? ⟨b, off + k * 2, none⟩ = some (.int .i64 (rst xs k)) ∧ w'.cell? ⟨b, off + k * 2 + 1, none⟩ = some (.int .i64 (gp xs k)) ∧ w'.cell? ⟨b2, off2 + k * 2, none⟩ = some (.int .i64 (rst ys k)) ∧ w'.cell? ⟨b2, off2 + k * 2 + 1, none⟩ = some (.int .i64 (gp ys k)) ∧ Below wr.heap.size wr w')
            (first
              | exact ⟨x0, x1, y0, y1, (Below.refl _ _).drew⟩
              | (go_split_ands
                 refine ⟨?_, ?_, ?_, ?_, ?_⟩
                 · exact (hx.cell (p := ⟨b, off + k * 2, none⟩) (by show b < _; omega)).trans (by assumption)
                 · exact (hx.cell (p := ⟨b, off + k * 2 + 1, none⟩) (by show b < _; omega)).trans (by assumption)
                 · exact (hx.cell (p := ⟨b2, off2 + k * 2, none⟩) (by show b2 < _; omega)).trans (by assumption)
                 · exact (hx.cell (p := ⟨b2, off2 + k * 2 + 1, none⟩) (by show b2 < _; omega)).trans (by assumption)
                 · exact Below.trans (by assumption) (hx.mono (by omega))))
            (first | (go_at_call 57; go_split_ands; have hBW2 : Below wr.heap.size wr _ := (by assumption); have pW := hBW2.size; refine (eqClass_d true _ _ _ _ _ He.out).mono ?_; rintro e W1 ⟨rfl, hx⟩))
          go_split_ands
          have hB3 := hB.trans (Below.mono (by assumption) hsz)
          go_wp2
          go_roundw
          case rel => exact ⟨k + 1, by omega, by simp, fun j hj => by by_cases e : j = k; exact e ▸ of_decide_eq_true He.out; exact Hall.out j (by omega), hB3⟩
          case measure => simp [intOf]; omega
      · obtain rfl : k = xs.length := by omega
        go_wp2
        go_ret
        exact ⟨ret_bool (decide_eq_true (cls_ext Hl.out Hall.out)).symm, hB⟩
  · have hq : ((xs.length : Int) != (ys.length : Int)) = true := by rw [bne_iff_ne]; omega
    go_enter Try.func17, Try.ntmps17
    go_wp2
    go_ret
    exact ⟨ret_bool (decide_eq_false (fun e => hlen (by rw [e]))).symm, Below.refl _ _⟩
theorem eqClassS_d (d : Bool) (sv tv : Value) (xs ys : List (Int × Int)) (w : World) (hX : Cls w.heap.size w sv xs) (hY : Cls w.heap.size w tv ys) (hl : xs.length * 16 ≤ 140737488351232) (hd : decide (xs = ys) = d) :
    Calls Try.prog 17 #[sv, tv] w fun e w' => e = .returned (.bool d) ∧ Below w.heap.size w w' := by
  subst hd; exact eqClassS_c sv tv xs ys w hX hY hl

/-! ### marks -/
def MarksC (B : Nat) (w : World) (v : Value) (n : Nat) (k : Int) (e : Ending) (w' : World) : Prop :=
  e = .returned (.int .i64 (k + (n : Int) * 2)) ∧ OwnC B w' v n (ups k (n * 2)) ∧ w.grownBy w' v.ownBlock

set_option maxRecDepth 100000 in
set_option maxHeartbeats 4000000 in
theorem markClassS_c (B : Nat) (v : Value) (n : Nat) {xs : List Int} (k : Int) (w : World) (ho : OwnC B w v n xs) (hl : n * 16 ≤ 140737488351232) (hk0 : 0 ≤ k) (hk1 : k ≤ 1099511627776) :
    Calls Try.prog 20 #[v, .int .i64 k] w (MarksC B w v n k) := by
  have hlen := ho.len
  by_cases hz : n = 0
  · subst hz
    obtain ⟨a, c, rfl⟩ := ho.prs.shape
    have hx : xs = [] := List.length_eq_zero_iff.1 (by omega)
    subst hx
    have hfin : MarksC B w (.slice a 0 c) 0 k (.returned (.int .i64 k)) w :=
      ⟨ret_int (by omega), ho, ⟨rfl, rfl, rfl, Nat.le_refl _, fun _ _ _ => rfl⟩⟩
    have Hf := Lib.hid hfin
    clear hfin ho
    go_enter Try.func20, Try.ntmps20
    go_wp2
    go_loopw [5, 1] (fun i q wr => i = .int .i64 0 ∧ q = .int .i64 k ∧ wr = w) (fun _ _ _ => 0)
    case atStart => exact ⟨rfl, rfl, rfl⟩
    case round =>
      obtain ⟨rfl, rfl, rfl⟩ := hrel
      go_wp2
      go_ret
      exact Hf.out
  · obtain ⟨g, cap, rfl, hBg, hgl⟩ := ho.shape (by omega)
    have Hlen := Lib.hid hlen
    clear hlen
    go_enter Try.func20, Try.ntmps20
    go_wp2
    go_loopw [5, 1] (fun i q wr => ∃ j : Nat, j ≤ n ∧ i = .int .i64 j ∧ q = .int .i64 (k + (j : Int) * 2) ∧ OwnC B wr (.slice (some ⟨g, 0, none⟩) n cap) n (upsTo k xs (j * 2)) ∧ w.grownBy wr (some g))
      (fun i _ _ => n - (intOf i).toNat)
    case atStart => exact ⟨0, Nat.zero_le _, rfl, by simp, by rw [Nat.zero_mul, upsTo_zero]; exact ho, ⟨rfl, rfl, rfl, Nat.le_refl _, fun _ _ _ => rfl⟩⟩
    case round =>
      obtain ⟨j, hj, rfl, rfl, hoj, hg⟩ := hrel
      by_cases hlt : j < n
      · go_wp2
        go_loopw [6, 1] (fun i q wr => ∃ m : Nat, m ≤ 2 ∧ i = .int .i64 m ∧ q = .int .i64 (k + (j : Int) * 2 + m) ∧ OwnC B wr (.slice (some ⟨g, 0, none⟩) n cap) n (upsTo k xs (j * 2 + m)) ∧ w.grownBy wr (some g))
          (fun i _ _ => 2 - (intOf i).toNat)
        case atStart => exact ⟨0, by omega, rfl, by simp, hoj, hg⟩
        case round =>
          obtain ⟨m, hm, rfl, rfl, hom, hgm⟩ := hrel
          clear hoj hg
          by_cases hm2 : m < 2
          · have hcy := hom.cellAt (j := j * 2 + m) (by omega)
            have hfy := hom.frozen (j * 2 + m)
            have hm3 : (m : Int) < 2 := by omega
            go_wp2
            go_roundw
            case rel =>
              obtain ⟨r1, r2⟩ := hom.stored (j * 2 + m) (k + (j : Int) * 2 + m)
              refine ⟨m + 1, by omega, by simp, by go_num, ?_, grownBy_tr hgm r2⟩
              rw [← Nat.add_assoc, upsTo_succ _ _ (by rw [Hlen.out]; omega)]
              have : (k + ((j * 2 + m : Nat) : Int)) = k + (j : Int) * 2 + m := by omega
              rw [this]; exact r1
            case measure => simp [intOf]; omega
          · obtain rfl : m = 2 := by omega
            go_wp2
            go_roundw
            case rel => exact ⟨j + 1, by omega, by simp, by go_num, by rw [show (j + 1) * 2 = j * 2 + 2 by omega]; exact hom, hgm⟩
            case measure => simp [intOf]; omega
      · obtain rfl : j = n := by omega
        go_wp2
        go_ret
        exact ⟨rfl, by rw [← Hlen.out, upsTo_all, Hlen.out] at hoj; exact hoj, hg⟩

set_option maxRecDepth 100000 in
set_option maxHeartbeats 4000000 in
theorem heldClassS_c (v : Value) (n : Nat) (k : Int) (w : World) (hI : Prs w.heap.size w v n (ups k (n * 2))) (hl : n * 16 ≤ 140737488351232) (hk0 : 0 ≤ k) (hk1 : k ≤ 1099511627776) :
    Calls Try.prog 21 #[v, .int .i64 k] w fun e w' => e = .returned (.int .i64 (k + (n : Int) * 2)) ∧ Below w.heap.size w w' := by
  obtain ⟨a, cap, rfl⟩ := hI.shape
  go_enter Try.func21, Try.ntmps21
  go_wp2
  go_loopw [5, 1] (fun i q wr => ∃ j : Nat, j ≤ n ∧ i = .int .i64 j ∧ q = .int .i64 (k + (j : Int) * 2) ∧ Below w.heap.size w wr) (fun i _ _ => n - (intOf i).toNat)
  case atStart => exact ⟨0, Nat.zero_le _, rfl, by simp, Below.refl _ _⟩
  case round =>
    obtain ⟨j, hj, rfl, rfl, hB⟩ := hrel
    by_cases hlt : j < n
    · obtain ⟨b, off, rfl, hb, hc⟩ := Prs.at_ (hI.below hB) (k := j) hlt
      go_wp2
      go_loopw [6, 1] (fun i q wr2 => ∃ m : Nat, m ≤ 2 ∧ i = .int .i64 m ∧ q = .int .i64 (k + (j : Int) * 2 + m) ∧ Below wr.heap.size wr wr2) (fun i _ _ => 2 - (intOf i).toNat)
      case atStart => exact ⟨0, by omega, rfl, by simp, Below.refl _ _⟩
      case round =>
        obtain ⟨m, hm, rfl, rfl, hB2⟩ := hrel
        by_cases hm2 : m < 2
        · have hcx := (hB2.cell (p := ⟨b, off + (j * 2 + m), none⟩) (by show b < _; have := hB.size; omega)).trans (hc (j * 2 + m) (by omega))
          rw [nth_ups k (by omega)] at hcx
          rw [show (k + ((j * 2 + m : Nat) : Int)) = k + (j : Int) * 2 + m by omega, ← Nat.add_assoc off] at hcx
          have hm3 : (m : Int) < 2 := by omega
          clear hc
          go_wp2
          go_roundw
          case rel => exact ⟨m + 1, by omega, by simp, by go_num, hB2⟩
          case measure => simp [intOf]; omega
        · obtain rfl : m = 2 := by omega
          clear hc
          go_wp2
          go_roundw
          case rel => exact ⟨j + 1, by omega, by simp, by go_num, hB.trans (hB2.mono hB.size)⟩
          case measure => simp [intOf]; omega
    · obtain rfl : j = n := by omega
      go_wp2
      go_ret
      exact ⟨rfl, hB⟩

end Go.Proofs.Ytnhdfpmjebfjmaa
