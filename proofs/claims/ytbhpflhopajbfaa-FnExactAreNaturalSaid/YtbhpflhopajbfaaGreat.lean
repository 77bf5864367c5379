/-
  GreatestWaits: slices.Max, GreatestWaits of both.
  Conditions: lists of at most 1048576 elements.
-/
import Derived.Test.YtbhpflhopajbfaaServe
namespace Go.Proofs.Ytbhpflhopajbfaa
open Go.RowKit Go.Shelf

def mostTo (ts : List Int) (k : Nat) : Int := (ts.take k).foldl max (-1)
theorem mostTo_succ {ts : List Int} {k : Nat} (h : k < ts.length) : mostTo ts (k + 1) = max (mostTo ts k) (nth ts k) := by
  unfold mostTo; rw [take_snoc h]; simp
def most (ts : List Int) : Int := mostTo ts ts.length
theorem mostTo_bd {ts : List Int} (h : turnsOk ts 8 = true) {k : Nat} (hk : k ≤ ts.length) : -1 ≤ mostTo ts k ∧ mostTo ts k ≤ 7 := by
  induction k with
  | zero => simp [mostTo]
  | succ k ih =>
    have h1 := ih (by omega)
    have h2 := turnsOk_nth h (show k < ts.length by omega)
    rw [mostTo_succ (by omega)]; omega
/-- the greatest waits of the tasks below n -/
def greatL (ts : List Int) (n : Nat) : List Int := (List.range n).map fun (j : Nat) => greatW ts (j : Int)
theorem greatL_zero (ts : List Int) : greatL ts 0 = [] := rfl
theorem greatL_succ (ts : List Int) (n : Nat) : greatL ts (n + 1) = greatL ts n ++ [greatW ts (n : Int)] := by simp [greatL, List.range_succ]
theorem greatL_length (ts : List Int) (n : Nat) : (greatL ts n).length = n := by simp [greatL]

set_option maxRecDepth 100000 in
set_option maxHeartbeats 8000000 in
theorem max_c (sv : Value) (ts : List Int) (w : World) (hI : Ints w.heap.size w sv ts) (hl : turnsOk ts 8 = true) :
    Calls Try.prog 79 #[sv] w fun e w' => e = .returned (.int .i64 (most ts)) ∧ w = w' := by
  obtain ⟨a, cap, rfl⟩ := hI.shape
  have hb := turnsOk_len hl
  obtain ⟨b, off, rfl, hbb, hc⟩ := hI.at_ (show 0 < ts.length by omega)
  have h0 : w.cell? ⟨b, off, none⟩ = some (.int .i64 (nth ts 0)) := by simpa using hc 0 (by omega)
  have e1 : mostTo ts 1 = nth ts 0 := by
    have := turnsOk_nth hl (show 0 < ts.length by omega)
    rw [mostTo_succ (by omega)]; simp [mostTo]; omega
  have hn0 := turnsOk_nth hl (show 0 < ts.length by omega)
  go_enter Try.func79, Try.ntmps79
  clear hc
  go_wp2
  rw [← e1]
  clear e1 h0
  go_loop [4, 3] (fun i m => ∃ k : Nat, 1 ≤ k ∧ k ≤ ts.length ∧ i = .int .i64 k ∧ m = .int .i64 (mostTo ts k)) (fun i _ => ts.length - (intOf i).toNat)
  case atStart => exact ⟨1, Nat.le_refl _, hb.1, rfl, rfl⟩
  case round =>
    obtain ⟨k, hk1, hk, rfl, rfl⟩ := hrel
    by_cases hlt : k < ts.length
    · obtain ⟨b2, off2, hs, hb2, hc⟩ := hI.at_ hlt
      cases hs
      have hcx := hc k hlt
      have hs := mostTo_succ hlt
      have Hs := Lib.hid hs
      clear hc hs
      go_wp2
      exact ⟨⟨k + 1, by omega, by omega, by simp, by rw [Hs.out]; congr 1; omega⟩, by simp [intOf]; omega⟩
    · obtain rfl : k = ts.length := by omega
      go_wp2
      go_ret
      exact ⟨ret_int rfl, rfl⟩

def greatR (ts : List Int) : List Int := if turnsOk ts 8 then greatL ts (most ts + 1).toNat else []
def greatC (ts : List Int) : Int := if turnsOk ts 8 then 0 else 2
theorem most_bd {ts : List Int} (h : turnsOk ts 8 = true) : -1 ≤ most ts ∧ most ts ≤ 7 := mostTo_bd h (Nat.le_refl _)
theorem greatR_len (ts : List Int) : (greatR ts).length * 8 ≤ 140737488351232 := by
  unfold greatR; split
  · rename_i h; have := most_bd h; rw [greatL_length]; omega
  · simp

set_option maxRecDepth 100000 in
set_option maxHeartbeats 8000000 in
theorem i_GreatestWaits (c0 : Value) (ts : List Int) (w : World) (hI : Ints w.heap.size w c0 ts) (_hN : I64s ts) (hm : ts.length ≤ 1048576) :
    Calls Try.prog 78 #[c0] w (GivesI w (greatR ts) fun v => .tuple #[v, .int .i64 (greatC ts)]) := by
  obtain ⟨a, cap, rfl⟩ := hI.shape
  obtain ⟨i0, hi, hz0, hz1, hz2⟩ := info_parts Try.infoI2
  cases ht : turnsOk ts 8
  · have Hr := Lib.hid (show greatR ts = [] by unfold greatR; rw [ht]; rfl)
    have Hc := Lib.hid (show greatC ts = 2 by unfold greatC; rw [ht]; rfl)
    have Ht := Lib.hid ht
    clear ht
    go_enter Try.func78, Try.ntmps78
    go_wp2_with fail
    refine (areTurns_c _ ts 8 _ hI (by omega)).mono ?_
    rintro e w1 ⟨he, hb⟩
    rw [Ht.out] at he
    subst he
    go_wp2
    go_ret2
    exact ⟨_, ret_v2 Hc.out.symm, by rw [Hr.out]; exact ownI_nil _ _, hb⟩
  · have Hr := Lib.hid (show greatR ts = greatL ts (most ts + 1).toNat by unfold greatR; rw [ht]; rfl)
    have Hc := Lib.hid (show greatC ts = 0 by unfold greatC; rw [ht]; rfl)
    have Ht := Lib.hid ht
    have hmb := most_bd ht
    have hlb := turnsOk_len ht
    clear ht
    go_enter Try.func78, Try.ntmps78
    go_wp2_with fail
    refine (areTurns_c _ ts 8 _ hI (by omega)).mono ?_
    rintro e w1 ⟨he, hb⟩
    rw [Ht.out] at he
    subst he
    go_wp2
    go_loopw [4, 5] (fun v i wr => ∃ k : Nat, (k : Int) ≤ most ts + 1 ∧ i = .int .i64 k ∧ OwnI w.heap.size wr v (greatL ts k) ∧ Below w.heap.size w wr) (fun _ i _ => 9 - (intOf i).toNat)
    case atStart => exact ⟨0, by omega, rfl, ownI_nil _ _, hb⟩
    case round =>
      obtain ⟨k, hk, rfl, ho, hB⟩ := hrel
      go_wp2_with fail
      refine (max_c _ ts _ (hI.later hB) Ht.out).mono ?_
      rintro e w2 ⟨rfl, rfl⟩
      by_cases hle : (k : Int) ≤ most ts
      · have Hs := Lib.hid (greatL_succ ts k)
        have hgl := greatL_length ts k
        go_wp2_with fail
        refine (greatestWait_c _ ts k _ (hI.later hB) hm).mono ?_
        rintro e w2 ⟨rfl, hb2⟩
        have ho2 := ho.below hb2
        have hB2 := hB.trans (hb2.mono hB.size)
        have hsw := hB2.size
        clear ho hb2
        go_wp2_with (first | (at_builtin; refine wpList_append_own _ rfl _ _ 22 rfl w.heap.size 2 i0 (.int .i64 0) 1 8 Try.underlying22 hi hz0 hz1 hz2 rfl (by decide) _ _ _ rfl (World.ownsRow.alloc ho2 _) ⟨w2.heap.size, 0, none⟩ 1 1 [.int .i64 (greatW ts (k : Int))] rfl rfl (Go.cell_one_new _ _ _) (by simp [Value.oneCell']) (by unfold maxLen; omega) (by omega) (by simp; omega) ?_))
        intro v' w3 hown' hgrow _
        have ho3 := ownI_snoc (xs := greatL ts k) (by rw [hgl]; exact hown')
        rw [← Hs.out] at ho3
        have hB3 : Below w.heap.size w w3 := (hB2.alloc hB2.size _).grown hgrow (by simp; have := hB2.size; omega) (fun j e => (ho2.blk j e).1)
        clear hown' hgrow
        go_wp2
        go_roundw
        case rel => exact ⟨k + 1, by omega, by simp, ho3, hB3⟩
        case measure => simp [intOf]; omega
      · have hk2 : (most ts + 1).toNat = k := by omega
        have Hk := Lib.hid hk2
        clear hk2
        go_wp2
        go_ret2
        exact ⟨_, ret_v2 Hc.out.symm, by rw [Hr.out, Hk.out]; exact ho, hB⟩

end Go.Proofs.Ytbhpflhopajbfaa
