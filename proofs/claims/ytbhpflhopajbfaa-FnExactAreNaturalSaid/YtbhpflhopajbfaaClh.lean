/-
  The laws' helpers for classes: sizes, copies, comparisons, marks.
  Conditions: lists of at most 1048576 elements where a copy is made.
-/
import Derived.Test.YtbhpflhopajbfaaCls
namespace Go.Proofs.Ytbhpflhopajbfaa
open Go.RowKit Go.Shelf

set_option maxHeartbeats 400000 in
theorem szClassS_c (a : Option Addr) (n cap : Nat) (left : Int) (w : World) (h0 : 0 ≤ left) (h1 : left ≤ 1048576) (hn : n ≤ 9223372036854775807) :
    Calls Try.prog 39 #[.slice a n cap, .int .i64 left] w fun e w' => e = .returned (.int .i64 (szI n left)) ∧ Below w.heap.size w w' := by
  by_cases h : left - n < 0
  · have hm : szI n left = -1 := if_pos h
    go_enter Try.func39, Try.ntmps39
    go_wp2
    go_ret
    exact ⟨ret_int hm.symm, Below.refl _ _⟩
  · have hm : szI n left = left - n := if_neg h
    have Hm := Lib.hid hm
    clear hm
    go_enter Try.func39, Try.ntmps39
    go_wp2
    go_ret
    exact ⟨ret_int Hm.out.symm, Below.refl _ _⟩

/-! ### copies -/
def at2 (x y : Int) (k : Nat) : Int := if k = 0 then x else y
set_option maxRecDepth 100000 in
set_option maxHeartbeats 2000000 in
theorem toClass_c (x y : Int) (w : World) :
    Calls Try.prog 83 #[.agg #[.int .i64 x, .int .i64 y]] w fun e w' => e = .returned (.agg #[.int .i64 x, .int .i64 y]) ∧ Below w.heap.size w w' := by
  go_enter Try.func83, Try.ntmps83
  go_wp2
  obtain ⟨W, hW⟩ : ∃ W, ((w.alloc (.cells #[.int .i64 x, .int .i64 y] 105)).alloc (.cells #[.int .i64 0, .int .i64 0] 106)).alloc (.cells #[.int .i64 0, .int .i64 0] 106) = W := ⟨_, rfl⟩
  have hB : Below w.heap.size w W := by rw [← hW]; exact (((Below.refl _ w).alloc (Nat.le_refl _) _).alloc (by simp) _).alloc (by simp; omega) _
  have hs : w.heap.size + 3 ≤ W.heap.size := by rw [← hW]; simp
  have bA : Box2 W w.heap.size 105 (.int .i64 x) (.int .i64 y) := by rw [← hW]; exact ((Box2.new _ _ _ _).alloc _).alloc _
  have bR : Box2 W (w.heap.size + 1) 106 (.int .i64 0) (.int .i64 0) := by rw [← hW]; refine Box2.alloc ?_ _; exact box2_at (by simp)
  have bO : Box2 W (w.heap.size + 1 + 1) 106 (.int .i64 0) (.int .i64 0) := by rw [← hW]; exact box2_at (by simp)
  rw [hW]
  clear hW
  go_loopw [4] (fun i wr => ∃ k : Nat, k ≤ 2 ∧ i = .int .i64 k ∧ Box2 wr w.heap.size 105 (.int .i64 x) (.int .i64 y) ∧ Box2 wr (w.heap.size + 1) 106 (.int .i64 0) (.int .i64 0) ∧
      Box2 wr (w.heap.size + 1 + 1) 106 (.int .i64 (if 0 < k then x else 0)) (.int .i64 (if 1 < k then y else 0)) ∧ Below w.heap.size w wr) (fun i _ => 2 - (intOf i).toNat)
  case atStart => exact ⟨0, by omega, rfl, bA, bR, by simpa using bO, hB⟩
  case round =>
    obtain ⟨k, hk, rfl, bA1, bR1, bO1, hB1⟩ := hrel
    clear bA bR bO hB
    have a0 := bA1.c0
    have a1 := bA1.c1
    have fO := bO1.frozen
    have hk3 : k = 0 ∨ k = 1 ∨ k = 2 := by omega
    rcases hk3 with rfl | rfl | rfl
    · simp at bO1
      have o0 := bO1.c0
      have f0 := bO1.frozen 0
      clear fO
      go_wp2
      go_roundw
      case rel => exact ⟨1, by omega, by simp, bA1.other (by omega) _, bR1.other (by omega) _, by simpa using bO1.set0 _, hB1.setCell (p := ⟨w.heap.size + 1 + 1, 0, none⟩) (by simp; omega) _⟩
      case measure => simp [intOf]
    · simp at bO1
      have o0 := bO1.c1
      have f0 := bO1.frozen 1
      clear fO
      go_wp2
      go_roundw
      case rel => exact ⟨2, by omega, by simp, bA1.other (by omega) _, bR1.other (by omega) _, by simpa using bO1.set1 _, hB1.setCell (p := ⟨w.heap.size + 1 + 1, 1, none⟩) (by simp; omega) _⟩
      case measure => simp [intOf]
    · simp at bO1
      have o0 := bO1.c0
      have o1 := bO1.c1
      have r0 := bR1.c0
      have r1 := bR1.c1
      have f0 := bR1.frozen 0
      have f1 := bR1.frozen 1
      clear fO
      go_wp2
      have bR2 := (bR1.set0 (.int .i64 x)).set1 (.int .i64 y)
      have q0 := bR2.c0
      have q1 := bR2.c1
      refine bodyPost_ret (v := .agg #[.int .i64 x, .int .i64 y]) (by simp [results, Try.results83, go_sem, q0, q1]) rfl ⟨rfl, ?_⟩
      exact (hB1.setCell (p := ⟨w.heap.size + 1, 0, none⟩) (by simp) _).setCell (p := ⟨w.heap.size + 1, 1, none⟩) (by simp) _

theorem Try.infoC : (Try.prog.info? 106).map (fun i => (i.zero, i.size, i.bytes)) = some (some (.agg #[.int .i64 0, .int .i64 0]), 2, 16) := by kernel_rfl
theorem madeC (n : Nat) : (madeCells #[Value.int .i64 0, Value.int .i64 0] n).toList = (List.replicate n (0 : Int)).map (.int .i64) := by
  apply List.ext_getElem?
  intro j
  by_cases hj : j < n
  · have : j % 2 = 0 ∨ j % 2 = 1 := by omega
    rcases this with h | h <;> simp [madeCells, hj, h]
  · simp [madeCells, hj]
theorem fillTo_two (xs : List Int) {k : Nat} (h : k + 2 ≤ xs.length) : fillTo xs (k + 2) = ((fillTo xs k).set k (nth xs k)).set (k + 1) (nth xs (k + 1)) := by
  rw [fillTo_succ xs (k := k + 1) (by omega), fillTo_succ xs (k := k) (by omega)]

theorem info_parts2 {P : Program} {t : TypeId} {z : Value} {a b : Nat} (h : (P.info? t).map (fun i => (i.zero, i.size, i.bytes)) = some (some z, a, b)) : ∃ i, P.info? t = some i ∧ i.zero = some z ∧ i.size = a ∧ i.bytes = b := by
  cases e : P.info? t with
  | none => simp [e] at h
  | some i => simp [e] at h; exact ⟨i, rfl, h.1, h.2.1, h.2.2⟩

set_option maxRecDepth 100000 in
set_option maxHeartbeats 2000000 in
theorem toClassS_c (sv : Value) (cs : List (Int × Int)) (w : World) (hI : Cls w.heap.size w sv cs) (hl : cs.length ≤ 1048576) :
    Calls Try.prog 41 #[sv] w (GivesC w cs id) := by
  obtain ⟨i0, hi, hz0, hz1, hz2⟩ := info_parts2 Try.infoC
  obtain ⟨a, cap, rfl⟩ := hI.shape
  go_enter Try.func41, Try.ntmps41
  go_wp2_with (at_make; refine wpList_make_full _ rfl (.tmp 6) (.tmp 6) 54 rfl w.heap.size 106 i0 (.agg #[.int .i64 0, .int .i64 0]) 2 Try.underlying54 hi hz0 hz1 .i64 .i64 _ _ cs.length rfl rfl rfl rfl ?c1 ?c2 ?c3 ?_)
  case c1 => rw [hz2]; omega
  case c2 => unfold maxLen; omega
  case c3 => exact Nat.le_refl _
  intro w1 hown hgrow
  have hfl := flat_length cs
  have ho1 : OwnC w.heap.size w1 (.slice (some ⟨w.heap.size, 0, none⟩) cs.length cs.length) cs.length (fillTo (flat cs) 0) := by
    unfold OwnC
    rw [fillTo_zero, hfl, ← madeC]
    exact hown
  have hB1 : Below w.heap.size w w1 := (Below.refl _ _).grown hgrow (Nat.le_refl _) (by simp)
  clear hown hgrow
  have Hfl := Lib.hid hfl
  clear hfl
  go_wp2
  go_loopw [4] (fun i wr => ∃ k : Nat, k ≤ cs.length ∧ i = .int .i64 k ∧ OwnC w.heap.size wr (.slice (some ⟨w.heap.size, 0, none⟩) cs.length cs.length) cs.length (fillTo (flat cs) (k * 2)) ∧ Below w.heap.size w wr)
    (fun i _ => cs.length - (intOf i).toNat)
  case atStart => exact ⟨0, Nat.zero_le _, rfl, ho1, hB1⟩
  case round =>
    obtain ⟨k, hk, rfl, ho, hB⟩ := hrel
    by_cases hlt : k < cs.length
    · obtain ⟨b, off, rfl, hb, hc⟩ := (hI.below hB).at_ hlt
      obtain ⟨hcx, hcy⟩ := hc k hlt
      clear hc
      go_wp2_with fail
      refine (toClass_c _ _ _).mono ?_
      rintro e W1 ⟨rfl, hb1⟩
      have ho2 := ho.below hb1
      have hB2 := hB.trans (hb1.mono hB.size)
      have f0 := ho2.frozen (k * 2)
      have f1 := ho2.frozen (k * 2 + 1)
      have e0 := ho2.cellAt (j := k * 2) (by omega)
      have e1 := ho2.cellAt (j := k * 2 + 1) (by omega)
      go_wp2
      go_roundw
      case rel =>
        refine ⟨k + 1, by omega, by simp, ?_, (hB2.setCell (p := ⟨w.heap.size, k * 2, none⟩) (Nat.le_refl _) _).setCell (p := ⟨w.heap.size, k * 2 + 1, none⟩) (Nat.le_refl _) _⟩
        rw [show (k + 1) * 2 = k * 2 + 2 by omega, fillTo_two _ (by rw [Hfl.out]; omega), nth_flat0, nth_flat1]
        exact ((ho2.stored (k * 2) _).1.stored (k * 2 + 1) _).1
      case measure => simp [intOf]; omega
    · obtain rfl : k = cs.length := by omega
      go_wp2
      go_ret
      exact ⟨_, rfl, by rw [← Hfl.out, fillTo_all] at ho; exact ho, hB⟩

/-! ### comparisons -/
set_option maxRecDepth 100000 in
set_option maxHeartbeats 2000000 in
theorem eqClass_d (d : Bool) (x y x' y' : Int) (w : World) (hd : decide (x = x' ∧ y = y') = d) :
    Calls Try.prog 86 #[.agg #[.int .i64 x, .int .i64 y], .agg #[.int .i64 x', .int .i64 y']] w fun e w' => e = .returned (.bool d) ∧ Below w.heap.size w w' := by
  have Hd := Lib.hid hd
  clear hd
  go_enter Try.func86, Try.ntmps86
  go_wp2
  obtain ⟨W, hW⟩ : ∃ W, (w.alloc (.cells #[.int .i64 x, .int .i64 y] 106)).alloc (.cells #[.int .i64 x', .int .i64 y'] 106) = W := ⟨_, rfl⟩
  have hB : Below w.heap.size w W := by rw [← hW]; exact ((Below.refl _ w).alloc (Nat.le_refl _) _).alloc (by simp) _
  have bA : Box2 W w.heap.size 106 (.int .i64 x) (.int .i64 y) := by rw [← hW]; exact (Box2.new _ _ _ _).alloc _
  have bC : Box2 W (w.heap.size + 1) 106 (.int .i64 x') (.int .i64 y') := by rw [← hW]; exact box2_at (by simp)
  have a0 := bA.c0
  have a1 := bA.c1
  have c0 := bC.c0
  have c1 := bC.c1
  rw [hW]
  clear hW bA bC
  go_loopw [5] (fun i wr => ∃ k m : Nat, k ≤ 2 ∧ i = .int .i64 k ∧ (0 < k → x = x') ∧ (1 < k → y = y') ∧ wr = W.drewN m) (fun i _ => 2 - (intOf i).toNat)
  case atStart => exact ⟨0, 0, by omega, rfl, by simp, by simp, rfl⟩
  case round =>
    obtain ⟨k, m, hk, rfl, h0, h1, rfl⟩ := hrel
    have H0 := Lib.hid h0
    have H1 := Lib.hid h1
    clear h0 h1
    have hk3 : k = 0 ∨ k = 1 ∨ k = 2 := by omega
    rcases hk3 with rfl | rfl | rfl
    · by_cases he : x = x'
      · subst he
        go_wp2
        go_quiet (fail)
        go_wp2
        go_roundw
        case rel => exact ⟨1, _, by omega, by simp, fun _ => by first | rfl | trivial, by omega, rfl⟩
        case measure => simp [intOf]
      · have hq : (x != x') = true := by simpa using he
        have hd := Hd.out
        rw [decide_eq_false (fun h => he h.1)] at hd
        subst hd
        clear he
        go_wp2
        go_quiet (fail)
        go_wp2
        go_ret
        exact ⟨rfl, below_drewN (below_drewN hB _) _⟩
    · have hx := H0.out (by omega)
      subst hx
      by_cases he : y = y'
      · subst he
        go_wp2
        go_quiet (fail)
        go_wp2
        go_roundw
        case rel => exact ⟨2, _, by omega, by simp, fun _ => by first | rfl | trivial, fun _ => by first | rfl | trivial, rfl⟩
        case measure => simp [intOf]
      · have hq : (y != y') = true := by simpa using he
        have hd := Hd.out
        rw [decide_eq_false (fun h => he h.2)] at hd
        subst hd
        clear he
        go_wp2
        go_quiet (fail)
        go_wp2
        go_ret
        exact ⟨rfl, below_drewN (below_drewN hB _) _⟩
    · have hx := H0.out (by omega)
      have hy := H1.out (by omega)
      subst hx
      subst hy
      have hd := Hd.out
      rw [decide_eq_true ⟨rfl, rfl⟩] at hd
      subst hd
      go_wp2
      go_ret
      exact ⟨rfl, below_drewN hB _⟩

set_option maxRecDepth 100000 in
set_option maxHeartbeats 4000000 in
theorem eqClassS_c (sv tv : Value) (xs ys : List (Int × Int)) (w : World) (hX : Cls w.heap.size w sv xs) (hY : Cls w.heap.size w tv ys) (hl : xs.length * 16 ≤ 140737488351232) :
    Calls Try.prog 43 #[sv, tv] w fun e w' => e = .returned (.bool (decide (xs = ys))) ∧ Below w.heap.size w w' := by
  obtain ⟨a, cap, rfl⟩ := hX.shape
  obtain ⟨a2, cap2, rfl⟩ := hY.shape
  by_cases hlen : xs.length = ys.length
  · have hq : ((xs.length : Int) != (ys.length : Int)) = false := by rw [hlen]; simp
    have Hl := Lib.hid hlen
    clear hlen
    go_enter Try.func43, Try.ntmps43
    go_wp2
    go_loopw [5] (fun i wr => ∃ k : Nat, k ≤ xs.length ∧ i = .int .i64 k ∧ (∀ j, j < k → rst xs j = rst ys j ∧ gp xs j = gp ys j) ∧ Below w.heap.size w wr)
      (fun i _ => xs.length - (intOf i).toNat)
    case atStart => exact ⟨0, Nat.zero_le _, rfl, by simp, Below.refl _ _⟩
    case round =>
      obtain ⟨k, hk, rfl, hall, hB⟩ := hrel
      have Hall := Lib.hid hall
      clear hall
      by_cases hlt : k < xs.length
      · obtain ⟨b, off, rfl, hb, hc⟩ := (hX.below hB).at_ hlt
        have hlt2 : k < ys.length := by have := Hl.out; omega
        obtain ⟨b2, off2, rfl, hb2, hc2⟩ := (hY.below hB).at_ hlt2
        obtain ⟨x0, x1⟩ := hc k hlt
        obtain ⟨y0, y1⟩ := hc2 k hlt2
        have hi1 : (k : Int) < (xs.length : Int) := by omega
        have hi2 : (k : Int) < (ys.length : Int) := by omega
        have hsz := hB.size
        have p1 : b < wr.heap.size := by omega
        have p2 : b2 < wr.heap.size := by omega
        clear hc hc2 hX hY
        cases he : decide (rst xs k = rst ys k ∧ gp xs k = gp ys k)
        · have He := Lib.hid he
          clear he
          go_wp2
          go_region_held3 (fun w' => w'.cell? ⟨b, off + k * 2, none⟩ = some (.int .i64 (rst xs k)) ∧ w'.cell? ⟨b, off + k * 2 + 1, none⟩ = some (.int .i64 (gp xs k)) ∧ w'.cell? ⟨b2, off2 + k * 2, none⟩ = some (.int .i64 (rst ys k)) ∧ w'.cell? ⟨b2, off2 + k * 2 + 1, none⟩ = some (.int .i64 (gp ys k)) ∧ Below wr.heap.size wr w')
            (first
              | exact ⟨x0, x1, y0, y1, (Below.refl _ _).drew⟩
              | (go_split_ands
                 refine ⟨?_, ?_, ?_, ?_, ?_⟩
                 · exact (hx.cell (p := ⟨b, off + k * 2, none⟩) (by show b < _; omega)).trans (by assumption)
                 · exact (hx.cell (p := ⟨b, off + k * 2 + 1, none⟩) (by show b < _; omega)).trans (by assumption)
                 · exact (hx.cell (p := ⟨b2, off2 + k * 2, none⟩) (by show b2 < _; omega)).trans (by assumption)
                 · exact (hx.cell (p := ⟨b2, off2 + k * 2 + 1, none⟩) (by show b2 < _; omega)).trans (by assumption)
                 · exact Below.trans (by assumption) (hx.mono (by omega))))
            (first | (go_at_call 86; go_split_ands; have hBW2 : Below wr.heap.size wr _ := (by assumption); have pW := hBW2.size; refine (eqClass_d false _ _ _ _ _ He.out).mono ?_; rintro e W1 ⟨rfl, hx⟩))
          go_split_ands
          have hB3 := hB.trans (Below.mono (by assumption) hsz)
          go_wp2
          go_ret
          exact ⟨ret_bool (decide_eq_false (fun e => by have h := of_decide_eq_false He.out; rw [e] at h; exact h ⟨rfl, rfl⟩)).symm, hB3⟩
        · have He := Lib.hid he
          clear he
          go_wp2
          go_region_held3 (fun w' => w'.cell? ⟨b, off + k * 2, none⟩ = some (.int .i64 (rst xs k)) ∧ w'.cell? ⟨b, off + k * 2 + 1, none⟩ = some (.int .i64 (gp xs k)) ∧ w'.cell? ⟨b2, off2 + k * 2, none⟩ = some (.int .i64 (rst ys k)) ∧ w'.cell? ⟨b2, off2 + k * 2 + 1, none⟩ = some (.int .i64 (gp ys k)) ∧ Below wr.heap.size wr w')
            (first
              | exact ⟨x0, x1, y0, y1, (Below.refl _ _).drew⟩
              | (go_split_ands
                 refine ⟨?_, ?_, ?_, ?_, ?_⟩
                 · exact (hx.cell (p := ⟨b, off + k * 2, none⟩) (by show b < _; omega)).trans (by assumption)
                 · exact (hx.cell (p := ⟨b, off + k * 2 + 1, none⟩) (by show b < _; omega)).trans (by assumption)
                 · exact (hx.cell (p := ⟨b2, off2 + k * 2, none⟩) (by show b2 < _; omega)).trans (by assumption)
                 · exact (hx.cell (p := ⟨b2, off2 + k * 2 + 1, none⟩) (by show b2 < _; omega)).trans (by assumption)
                 · exact Below.trans (by assumption) (hx.mono (by omega))))
            (first | (go_at_call 86; go_split_ands; have hBW2 : Below wr.heap.size wr _ := (by assumption); have pW := hBW2.size; refine (eqClass_d true _ _ _ _ _ He.out).mono ?_; rintro e W1 ⟨rfl, hx⟩))
          go_split_ands
          have hB3 := hB.trans (Below.mono (by assumption) hsz)
          go_wp2
          go_roundw
          case rel => exact ⟨k + 1, by omega, by simp, fun j hj => by by_cases e : j = k; exact e ▸ of_decide_eq_true He.out; exact Hall.out j (by omega), hB3⟩
          case measure => simp [intOf]; omega
      · obtain rfl : k = xs.length := by omega
        go_wp2
        go_ret
        exact ⟨ret_bool (decide_eq_true (cls_ext Hl.out Hall.out)).symm, hB⟩
  · have hq : ((xs.length : Int) != (ys.length : Int)) = true := by rw [bne_iff_ne]; omega
    go_enter Try.func43, Try.ntmps43
    go_wp2
    go_ret
    exact ⟨ret_bool (decide_eq_false (fun e => hlen (by rw [e]))).symm, Below.refl _ _⟩
theorem eqClassS_d (d : Bool) (sv tv : Value) (xs ys : List (Int × Int)) (w : World) (hX : Cls w.heap.size w sv xs) (hY : Cls w.heap.size w tv ys) (hl : xs.length * 16 ≤ 140737488351232) (hd : decide (xs = ys) = d) :
    Calls Try.prog 43 #[sv, tv] w fun e w' => e = .returned (.bool d) ∧ Below w.heap.size w w' := by
  subst hd; exact eqClassS_c sv tv xs ys w hX hY hl

/-! ### marks -/
def MarksC (B : Nat) (w : World) (v : Value) (n : Nat) (k : Int) (e : Ending) (w' : World) : Prop :=
  e = .returned (.int .i64 (k + (n : Int) * 2)) ∧ OwnC B w' v n (ups k (n * 2)) ∧ w.grownBy w' v.ownBlock

end Go.Proofs.Ytbhpflhopajbfaa
