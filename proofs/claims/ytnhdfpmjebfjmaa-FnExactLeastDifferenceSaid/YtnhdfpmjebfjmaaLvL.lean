/-
  Level turns of the program, fourth part: GreedyTurns, DeadlineTurns, LeastDifference.
  Conditions: lists of at most 1048576 elements.
-/
import Derived.Test.YtnhdfpmjebfjmaaLvK
namespace Go.Proofs.Ytnhdfpmjebfjmaa
open Go.RowKit Go.Shelf
attribute [local go_sem] Oper.semAt_some

def rnkG (u s h sl : Int) : Int := u * h - (sl + 1) * s
def mayGr (_ _ _ _ : Int) : Bool := true
theorem ruleG : RuleOk 99 0 rnkG mayGr := ⟨fun u s h sl w hB => rankByGreed_c u s h sl 0 w hB, enters_of Try.func99 (by kernel_rfl) rfl⟩
theorem pickG_eq (ds : List Int) (N : Int) : pickR rnkG mayGr ds N = pickG ds N := rfl
def rnkD (b u s h _sl : Int) : Int := min ((b + u * h) / s) (u - 1)
def mayDl (b u s h sl : Int) : Bool := decide (sl ≤ min ((b + u * h) / s) (u - 1)) && decide (u * (h + 1) - (sl + 1) * s ≤ b)
theorem ruleD {b : Int} (h0 : 0 ≤ b) (h1 : b ≤ 3600) : RuleOk 100 b (rnkD b) (mayDl b) := ⟨fun u s h sl w hB => rankByDeadlines_c u s h sl b w hB ⟨h0, h1⟩, enters_of Try.func100 (by kernel_rfl) rfl⟩
theorem pickD_eq (ds : List Int) (N b : Int) : pickR (rnkD b) (mayDl b) ds N = pickD ds N b := rfl

set_option maxRecDepth 100000 in
set_option maxHeartbeats 8000000 in
theorem i_GreedyTurns (c0 : Value) (ds : List Int) (w : World) (hI : Ints w.heap.size w c0 ds) (_hN : I64s ds) (hm : ds.length ≤ 1048576) :
    Calls Try.prog 30 #[c0] w (GivesI w (grR ds) fun v => .tuple #[v, .int .i64 (grC ds)]) := by
  obtain ⟨a, cap, rfl⟩ := hI.shape
  cases hok : dsOk ds
  · have Hr := Lib.hid (show grR ds = [] by unfold grR; rw [hok]; rfl)
    have Hc := Lib.hid (show grC ds = 2 by unfold grC; rw [hok]; rfl)
    have Hok := Lib.hid hok
    clear hok
    go_enter Try.func30, Try.ntmps30
    go_wp2_with fail
    refine (areShares_c _ ds _ hI hm).mono ?_
    rintro e w1 ⟨he, hb⟩
    rw [Hok.out] at he
    subst he
    go_wp2
    go_ret2
    exact ⟨_, ret_v2 Hc.out.symm, by rw [Hr.out]; exact ownI_nil _ _, hb⟩
  · obtain ⟨N, hD⟩ := dso hok
    have Hr := Lib.hid (show grR ds = runL (pickR rnkG mayGr ds N) ds.length N by unfold grR; rw [hok, hD.sumR hok, Int.toNat_natCast]; rfl)
    have Hc := Lib.hid (show grC ds = 0 by unfold grC; rw [hok]; rfl)
    have Hok := Lib.hid hok
    have HD := Lib.hid hD
    clear hok hD
    go_enter Try.func30, Try.ntmps30
    go_wp2_with fail
    refine (areShares_c _ ds _ hI hm).mono ?_
    rintro e w1 ⟨he, hb⟩
    rw [Hok.out] at he
    subst he
    go_wp2_with fail
    refine (slotRules_c _).mono ?_
    rintro e w2 ⟨rfl, hw2⟩
    have hb2 : Below w1.heap.size w1 w2 := by rw [hw2]; exact (Below.refl _ _).alloc (Nat.le_refl _) _
    have bx : w2.heap[w1.heap.size]? = some (.cells #[.func (.func 99) #[] #[], .func (.func 100) #[] #[]] 83) := by rw [hw2]; exact World.alloc_heap_new _ _
    have k0 : w2.cell? ⟨w1.heap.size, 0, none⟩ = some (.func (.func 99) #[] #[]) := by simp [World.cell?, bx]
    have hB2 := hb.trans (hb2.mono hb.size)
    clear hw2 hb hb2 bx
    go_wp2_with fail
    refine (turnsByRule_c _ rnkG mayGr _ ds N 0 _ (hI.later hB2) HD.out ruleG).mono ?_
    rintro e w3 ⟨v, rfl, ho, hb3⟩
    have hB3 := hB2.trans (hb3.mono hB2.size)
    have ho2 := ho.base hB2.size
    clear ho hb3 k0
    go_wp2
    go_ret2
    exact ⟨_, ret_v2 Hc.out.symm, by rw [Hr.out]; exact ho2, hB3⟩

theorem dlB_eq (ds : List Int) (N : Nat) (b : Int) : runB (pickR (rnkD b) (mayDl b) ds N) ds.length N = dlB ds N b := rfl
theorem dlT_eq (ds : List Int) (N : Nat) (b : Int) : runL (pickR (rnkD b) (mayDl b) ds N) ds.length N = dlT ds N b := rfl

/-- turns by deadlines, at a call of slotRules and turnsByRule -/
theorem byRule_c (c0 : Value) (ds : List Int) (N : Nat) (b : Int) (w : World) (hI : Ints w.heap.size w c0 ds) (hD : Dso ds N) (h0 : 0 ≤ b) (h1 : b ≤ 3600) :
    Calls Try.prog 68 #[c0, .func (.func 100) #[] #[], .int .i64 b] w (GivesI w (dlT ds N b) fun v => .tuple #[v, .bool (dlB ds N b)]) :=
  turnsByRule_c _ (rnkD b) (mayDl b) c0 ds N b w hI hD (ruleD h0 h1)

set_option maxRecDepth 100000 in
set_option maxHeartbeats 8000000 in
theorem i_DeadlineTurns (c0 : Value) (ds : List Int) (b : Int) (w : World) (hI : Ints w.heap.size w c0 ds) (_hN : I64s ds) (hm : ds.length ≤ 1048576) (_hb : I64 b) :
    Calls Try.prog 35 #[c0, .int .i64 b] w (GivesI w (ddR ds b) fun v => .tuple #[v, .int .i64 (ddC ds b)]) := by
  obtain ⟨a, cap, rfl⟩ := hI.shape
  cases hok : dsOk ds
  · obtain ⟨r1, r2⟩ := dd_bad (b := b) (.inl hok)
    have R1 := Lib.hid r1
    have R2 := Lib.hid r2
    have Hok := Lib.hid hok
    clear hok r1 r2
    go_enter Try.func35, Try.ntmps35
    go_wp2_with fail
    refine (areShares_c _ ds _ hI hm).mono ?_
    rintro e w1 ⟨he, hb⟩
    rw [Hok.out] at he
    subst he
    go_wp2
    go_ret2
    exact ⟨_, ret_v2 R2.out.symm, by rw [R1.out]; exact ownI_nil _ _, hb⟩
  · obtain ⟨N, hD⟩ := dso hok
    have HD := Lib.hid hD
    have Hok := Lib.hid hok
    by_cases hb0 : b < 0
    · obtain ⟨r1, r2⟩ := dd_bad (ds := ds) (b := b) (.inr (inB_false.2 (by omega)))
      have R1 := Lib.hid r1
      have R2 := Lib.hid r2
      clear hok r1 r2 hD
      go_enter Try.func35, Try.ntmps35
      go_wp2_with fail
      refine (areShares_c _ ds _ hI hm).mono ?_
      rintro e w1 ⟨he, hb⟩
      rw [Hok.out] at he
      subst he
      go_wp2
      go_ret2
      exact ⟨_, ret_v2 R2.out.symm, by rw [R1.out]; exact ownI_nil _ _, hb⟩
    · by_cases hb1 : 60 < b
      · obtain ⟨r1, r2⟩ := dd_bad (ds := ds) (b := b) (.inr (inB_false.2 (by omega)))
        have R1 := Lib.hid r1
        have R2 := Lib.hid r2
        clear hok r1 r2 hD
        go_enter Try.func35, Try.ntmps35
        go_wp2_with fail
        refine (areShares_c _ ds _ hI hm).mono ?_
        rintro e w1 ⟨he, hb⟩
        rw [Hok.out] at he
        subst he
        go_wp2
        go_ret2
        exact ⟨_, ret_v2 R2.out.symm, by rw [R1.out]; exact ownI_nil _ _, hb⟩
      · obtain ⟨r1, r2⟩ := dd_ok hok (inB_true.2 (show 0 ≤ b ∧ b ≤ 60 by omega)) hD
        have R1 := Lib.hid r1
        obtain ⟨f, hf⟩ : ∃ f, dlB ds N b = f := ⟨_, rfl⟩
        rw [hf] at r2
        have R2 := Lib.hid r2
        have Hf := Lib.hid hf
        clear hok r1 r2 hD hf
        go_enter Try.func35, Try.ntmps35
        go_wp2_with fail
        refine (areShares_c _ ds _ hI hm).mono ?_
        rintro e w1 ⟨he, hb⟩
        rw [Hok.out] at he
        subst he
        go_wp2_with fail
        refine (slotRules_c _).mono ?_
        rintro e w2 ⟨rfl, hw2⟩
        have hb2 : Below w1.heap.size w1 w2 := by rw [hw2]; exact (Below.refl _ _).alloc (Nat.le_refl _) _
        have bx : w2.heap[w1.heap.size]? = some (.cells #[.func (.func 99) #[] #[], .func (.func 100) #[] #[]] 83) := by rw [hw2]; exact World.alloc_heap_new _ _
        have k0 : w2.cell? ⟨w1.heap.size, 1, none⟩ = some (.func (.func 100) #[] #[]) := by simp [World.cell?, bx]
        have hB2 := hb.trans (hb2.mono hb.size)
        clear hw2 hb hb2 bx
        go_wp2_with fail
        refine (byRule_c _ ds N b _ (hI.later hB2) HD.out (by omega) (by omega)).mono ?_
        rintro e w3 ⟨v, he, ho, hb3⟩
        rw [Hf.out] at he
        subst he
        have hB3 := hB2.trans (hb3.mono hB2.size)
        have ho2 := ho.base hB2.size
        clear ho hb3 k0
        cases f
        · go_wp2
          go_ret2
          exact ⟨_, ret_v2 R2.out.symm, by rw [R1.out, dlT_none Hf.out]; exact ownI_nil _ _, hB3⟩
        · go_wp2
          go_ret2
          exact ⟨_, ret_v2 R2.out.symm, by rw [R1.out]; exact ho2, hB3⟩

set_option maxRecDepth 100000 in
set_option maxHeartbeats 8000000 in
theorem i_LeastDifference (c0 : Value) (ds : List Int) (w : World) (hI : Ints w.heap.size w c0 ds) (_hN : I64s ds) (hm : ds.length ≤ 1048576) :
    Calls Try.prog 37 #[c0] w (GivesI w (ldR ds) fun v => .tuple #[v, .int .i64 (ldB ds), .int .i64 (ldC ds)]) := by
  obtain ⟨a, cap, rfl⟩ := hI.shape
  cases hok : dsOk ds
  · have R1 := Lib.hid (show ldR ds = [] by unfold ldR; rw [hok]; rfl)
    have R2 := Lib.hid (show ldB ds = 0 by unfold ldB; rw [hok]; rfl)
    have R3 := Lib.hid (show ldC ds = 2 by unfold ldC; rw [hok]; rfl)
    have Hok := Lib.hid hok
    clear hok
    go_enter Try.func37, Try.ntmps37
    go_wp2_with fail
    refine (areShares_c _ ds _ hI hm).mono ?_
    rintro e w1 ⟨he, hb⟩
    rw [Hok.out] at he
    subst he
    go_wp2
    go_ret3
    exact ⟨_, ret_v3 R2.out.symm R3.out.symm, by rw [R1.out]; exact ownI_nil _ _, hb⟩
  · obtain ⟨N, hD⟩ := dso hok
    have HD := Lib.hid hD
    have Hok := Lib.hid hok
    clear hok hD
    go_enter Try.func37, Try.ntmps37
    go_wp2_with fail
    refine (areShares_c _ ds _ hI hm).mono ?_
    rintro e w1 ⟨he, hb⟩
    rw [Hok.out] at he
    subst he
    go_wp2
    go_loopw [5] (fun i wr => ∃ k : Nat, (k ≤ 3600 ∧ i = .int .i64 k ∧ ∀ j : Nat, j < k → dlB ds N (j : Int) = false) ∧ Below w.heap.size w wr) (fun i _ => 3601 - (intOf i).toNat)
    case atStart => exact ⟨0, ⟨by omega, rfl, fun j hj => by omega⟩, hb⟩
    case round =>
      obtain ⟨k, ⟨hk, rfl, hall⟩, hB⟩ := hrel
      have Hall := Lib.hid hall
      clear hall hb
      have hsw := hB.size
      obtain ⟨f, hf⟩ : ∃ f, dlB ds N (k : Int) = f := ⟨_, rfl⟩
      have Hf := Lib.hid hf
      clear hf
      go_wp2_with fail
      refine (slotRules_c _).mono ?_
      rintro e w2 ⟨rfl, hw2⟩
      have hb2 : Below wr.heap.size wr w2 := by rw [hw2]; exact (Below.refl _ _).alloc (Nat.le_refl _) _
      have bx : w2.heap[wr.heap.size]? = some (.cells #[.func (.func 99) #[] #[], .func (.func 100) #[] #[]] 83) := by rw [hw2]; exact World.alloc_heap_new _ _
      have k0 : w2.cell? ⟨wr.heap.size, 1, none⟩ = some (.func (.func 100) #[] #[]) := by simp [World.cell?, bx]
      have hB2 := hB.trans (hb2.mono hsw)
      clear hw2 hb2 bx hB
      go_wp2_with fail
      refine (byRule_c _ ds N k _ (hI.later hB2) HD.out (by omega) (by omega)).mono ?_
      rintro e w3 ⟨v, he, ho, hb3⟩
      rw [Hf.out] at he
      subst he
      have hB3 := hB2.trans (hb3.mono hB2.size)
      have ho2 := ho.base hB2.size
      clear ho hb3 k0
      cases f
      · have hk2 : k < 3600 := by
          by_cases e : k = 3600
          · have := Hf.out; rw [e, dlB_great HD.out] at this; cases this
          · omega
        go_wp2
        go_roundw
        case rel => exact ⟨k + 1, ⟨by omega, by simp, fun j hj => by by_cases e : j = k; (subst e; exact Hf.out); exact Hall.out j (by omega)⟩, hB3⟩
        case measure => simp [intOf]; omega
      · have hls := lsB_eq hk Hf.out Hall.out
        obtain ⟨r1, r2, r3⟩ := ld_ok Hok.out HD.out hls
        have R1 := Lib.hid r1
        have R2 := Lib.hid r2
        have R3 := Lib.hid r3
        clear hls r1 r2 r3
        go_wp2
        go_ret3
        exact ⟨_, ret_v3 R2.out.symm R3.out.symm, by rw [R1.out]; exact ho2, hB3⟩

end Go.Proofs.Ytnhdfpmjebfjmaa
