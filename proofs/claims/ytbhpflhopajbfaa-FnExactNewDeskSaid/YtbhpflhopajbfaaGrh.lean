/-
  The contracts of the laws' own helpers for gardens: sizes, copies, comparisons, marks.
  Conditions: lists of at most 1048576 elements where a copy is made, less than 2^60 elsewhere.
-/
import Derived.Test.YtbhpflhopajbfaaHelp
namespace Go.Proofs.Ytbhpflhopajbfaa
open Go.RowKit Go.Shelf

set_option maxHeartbeats 400000 in
theorem szGarden_c (a : Option Addr) (n cap : Nat) (left : Int) (w : World) (h0 : 0 ≤ left) (h1 : left ≤ 1048576) (hn : n ≤ 9223372036854775807) :
    Calls Try.prog 116 #[.agg #[.slice a n cap], .int .i64 left] w fun e w' => e = .returned (.int .i64 (szI n left)) ∧ Below w.heap.size w w' := by
  have hs : -1 ≤ szI n left ∧ szI n left ≤ left := by unfold szI; split <;> omega
  by_cases h : szI n left < 0
  · have hm : szI n left = -1 := by unfold szI at h ⊢; split <;> omega
    have Hm := Lib.hid hm
    clear hm
    go_enter Try.func116, Try.ntmps116
    go_wp2_with (go_at_call 64; refine (szInt64S_c _ _ _ _ _ (by omega) (by omega) hn).mono ?_; rintro e w' ⟨rfl, rfl⟩)
    go_ret
    exact ⟨ret_int Hm.out.symm, (Below.refl _ _).alloc (Nat.le_refl _) _⟩
  · go_enter Try.func116, Try.ntmps116
    go_wp2_with (go_at_call 64; refine (szInt64S_c _ _ _ _ _ (by omega) (by omega) hn).mono ?_; rintro e w' ⟨rfl, rfl⟩)
    go_ret
    exact ⟨rfl, (Below.refl _ _).alloc (Nat.le_refl _) _⟩

theorem toGarden_c (sv : Value) (zs : List Int) (w : World) (hI : Ints w.heap.size w sv zs) (hl : zs.length ≤ 1048576) :
    Calls Try.prog 120 #[.agg #[sv]] w (GivesI w zs fun v => .agg #[v]) := by
  obtain ⟨a, cap, rfl⟩ := hI.shape
  have hB0 : Below w.heap.size w (((w.alloc (.cells #[.slice a zs.length cap] 81)).alloc (.cells #[.slice none 0 0] 74)).alloc (.cells #[.slice none 0 0] 74)) :=
    (((Below.refl _ w).alloc (Nat.le_refl _) _).alloc (by simp) _).alloc (by simp; omega) _
  have hI3 := hI.later hB0
  go_enter Try.func120, Try.ntmps120
  go_wp2_with fail
  refine (toInt64S_c _ zs _ hI3 hl).mono ?_
  rintro e w1 ⟨v, rfl, ho, hb⟩
  simp only [World.size_alloc] at hb ho
  obtain ⟨a1, c1, rfl⟩ := ho.ints.shape
  have k1 : w1.cell? ⟨w.heap.size + 1, 0, none⟩ = some (.slice none 0 0) := (hb.cell (p := ⟨w.heap.size + 1, 0, none⟩) (by simp)).trans (by simp [go_sem])
  have k2 : w1.cell? ⟨w.heap.size + 1 + 1, 0, none⟩ = some (.slice none 0 0) := (hb.cell (p := ⟨w.heap.size + 1 + 1, 0, none⟩) (by simp)).trans (by simp [go_sem])
  have f1 : w1.frozen? ⟨w.heap.size + 1, 0, none⟩ = false := (hb.frozen (p := ⟨w.heap.size + 1, 0, none⟩) (by simp)).trans (by simp [go_sem])
  have f2 : w1.frozen? ⟨w.heap.size + 1 + 1, 0, none⟩ = false := (hb.frozen (p := ⟨w.heap.size + 1 + 1, 0, none⟩) (by simp)).trans (by simp [go_sem])
  go_wp2
  have hB1 : Below w.heap.size w w1 := hB0.trans (hb.mono (by omega))
  have hs1 : (w.heap.size + 1 + 1 + 1) ≤ w1.heap.size := by have := hb.size; simpa using this
  refine bodyPost_ret (v := .agg #[.slice a1 zs.length c1]) (by simp [results, Try.results120, go_sem, k1]) rfl ⟨_, rfl, ?_, ?_⟩
  · exact ((ho.kept (grownBy_setCell' _ _ _) (.inr fun e => by have := (ho.blk _ e).1; omega)).kept (grownBy_setCell' _ _ _) (.inr fun e => by have := (ho.blk _ e).1; omega)).base (by omega)
  · exact (hB1.setCell (p := ⟨w.heap.size + 1 + 1, 0, none⟩) (by simp; omega) _).setCell (p := ⟨w.heap.size + 1, 0, none⟩) (by simp) _

set_option maxRecDepth 100000 in
set_option maxHeartbeats 1000000 in
theorem eqGarden_d (d : Bool) (sv tv : Value) (xs ys : List Int) (w : World) (hX : Ints w.heap.size w sv xs) (hY : Ints w.heap.size w tv ys) (hl : xs.length * 8 ≤ 140737488351232) (hd : decide (xs = ys) = d) :
    Calls Try.prog 113 #[.agg #[sv], .agg #[tv]] w fun e w' => e = .returned (.bool d) ∧ Below w.heap.size w w' := by
  obtain ⟨a, cap, rfl⟩ := hX.shape
  obtain ⟨a2, cap2, rfl⟩ := hY.shape
  have hB0 : Below w.heap.size w ((w.alloc (.cells #[.slice a xs.length cap] 74)).alloc (.cells #[.slice a2 ys.length cap2] 74)) :=
    ((Below.refl _ w).alloc (Nat.le_refl _) _).alloc (by simp) _
  have hX3 := hX.later hB0
  have hY3 := hY.later hB0
  have Hd := Lib.hid hd
  clear hd
  cases d
  · go_enter Try.func113, Try.ntmps113
    go_wp2_with fail
    refine (eqInt64S_d false _ _ xs ys _ hX3 hY3 hl Hd.out).mono ?_
    rintro e w1 ⟨rfl, hb⟩
    go_wp2
    go_ret
    exact ⟨rfl, hB0.trans (hb.mono (by simp; omega))⟩
  · go_enter Try.func113, Try.ntmps113
    go_wp2_with fail
    refine (eqInt64S_d true _ _ xs ys _ hX3 hY3 hl Hd.out).mono ?_
    rintro e w1 ⟨rfl, hb⟩
    go_wp2
    go_ret
    exact ⟨rfl, hB0.trans (hb.mono (by simp; omega))⟩

set_option maxRecDepth 100000 in
set_option maxHeartbeats 1000000 in
theorem markGarden_c (B : Nat) (v : Value) (zs : List Int) (k : Int) (w : World) (ho : OwnI B w v zs) (hl : zs.length * 8 ≤ 140737488351232) (hk0 : 0 ≤ k) (hk1 : k ≤ 1099511627776) :
    Calls Try.prog 114 #[.agg #[v], .int .i64 k] w (Marks B w v zs.length k) := by
  obtain ⟨a, c, rfl⟩ := ho.ints.shape
  have ho1 : OwnI B (w.alloc (.cells #[.slice a zs.length c] 74)) (.slice a zs.length c) zs := ho.kept (World.grownBy_alloc w _ none) (by
    rcases e : (Value.slice a zs.length c).ownBlock with _ | k
    · exact .inl rfl
    · exact .inr (by simp))
  go_enter Try.func114, Try.ntmps114
  go_wp2_with fail
  refine (markInt64S_c B _ zs k _ ho1 hl hk0 hk1).mono ?_
  rintro e w1 ⟨rfl, ho2, hg⟩
  go_wp2
  go_ret
  exact ⟨rfl, ho2, grownBy_tr (World.grownBy_alloc w _ _) hg⟩

set_option maxRecDepth 100000 in
set_option maxHeartbeats 1000000 in
theorem heldGarden_c (v : Value) (n : Nat) (k : Int) (w : World) (hI : Ints w.heap.size w v (ups k n)) (hl : n * 8 ≤ 140737488351232) (hk0 : 0 ≤ k) (hk1 : k ≤ 1099511627776) :
    Calls Try.prog 115 #[.agg #[v], .int .i64 k] w fun e w' => e = .returned (.int .i64 (k + n)) ∧ Below w.heap.size w w' := by
  obtain ⟨a, cap, rfl⟩ := hI.shape
  rw [ups_length] at hI ⊢
  have hB0 : Below w.heap.size w (w.alloc (.cells #[.slice a n cap] 74)) := (Below.refl _ w).alloc (Nat.le_refl _) _
  have hI3 := hI.later hB0
  go_enter Try.func115, Try.ntmps115
  go_wp2_with fail
  refine (heldInt64S_c _ n k _ hI3 hl hk0 hk1).mono ?_
  rintro e w1 ⟨rfl, rfl⟩
  go_wp2
  go_ret
  exact ⟨rfl, hB0⟩

end Go.Proofs.Ytbhpflhopajbfaa
