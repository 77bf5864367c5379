/-
  AreHarmonic of both.
  Conditions: lists of at most 1048576 elements.
-/
import Derived.Test.YtahleajedgehlaaSrt
namespace Go.Proofs.Ytahleajedgehlaa
open Go.RowKit Go.Shelf
attribute [local go_sem] Oper.semAt_some

def harR (zs : List Int) : Bool := tasksOk zs && harmB zs
def harC (zs : List Int) : Int := if tasksOk zs then 0 else 1
theorem ret_bc {a a' : Bool} {b b' : Int} (h : a = a') (k : b = b') : Ending.returned (.tuple #[.bool a, .int .i64 b]) = .returned (.tuple #[.bool a', .int .i64 b']) := by rw [h, k]

set_option maxRecDepth 100000 in
set_option maxHeartbeats 8000000 in
theorem l03Harmonic_c (c0 : Value) (zs : List Int) (w : World) (hI : Ints w.heap.size w c0 zs) (ht : tasksOk zs = true) :
    Calls Try.prog 16 #[.agg #[c0]] w fun e w' => e = .returned (.bool (harmB zs)) ∧ Below w.heap.size w w' := by
  obtain ⟨a, cap, rfl⟩ := hI.shape
  have hB0 : Below w.heap.size w (w.alloc (.cells #[.slice a zs.length cap] 24)) := (Below.refl _ w).alloc (Nat.le_refl _) _
  have hl := tasksOk_len ht
  have Ht := Lib.hid ht
  clear ht
  go_enter Try.func16, Try.ntmps16
  go_wp2
  go_loopw [3] (fun i wr => ∃ k : Nat, k ≤ zs.length ∧ i = .int .i64 k ∧ (∀ u v, u < k → v < u → harmP (nth zs v) (nth zs u) = true) ∧ Boxed wr w.heap.size 24 (.slice a zs.length cap) ∧ Below w.heap.size w wr) (fun i _ => zs.length - (intOf i).toNat)
  case atStart => exact ⟨0, Nat.zero_le _, rfl, fun u v h => by omega, Boxed.new _ _ _, hB0⟩
  case round =>
    obtain ⟨k, hk, rfl, hall, bk, hB⟩ := hrel
    have Hall := Lib.hid hall
    have ck := bk.cell
    clear hall hB0
    by_cases hlt : k < zs.length
    · go_wp2
      go_loopw [4] (fun v wr => ∃ j : Nat, j ≤ k ∧ v = .int .i64 j ∧ (∀ v, v < j → harmP (nth zs v) (nth zs k) = true) ∧ Boxed wr w.heap.size 24 (.slice a zs.length cap) ∧ Below w.heap.size w wr) (fun v _ => k - (intOf v).toNat)
      case atStart => exact ⟨0, Nat.zero_le _, rfl, fun v h => by omega, bk, hB⟩
      case round =>
        obtain ⟨j, hj, rfl, hin, bj, hB2⟩ := hrel
        have Hin := Lib.hid hin
        have cj := bj.cell
        clear hin bk hB ck
        by_cases hjk : j < k
        · obtain ⟨b, off, rfl, hb, hc⟩ := (hI.below hB2).at_ hlt
          have hck := hc k hlt
          have hcj := hc j (by omega)
          have hgk := tasksOk_nth Ht.out hlt
          have hgj := tasksOk_nth Ht.out (show j < zs.length by omega)
          obtain ⟨x, hx⟩ : ∃ x : Nat, nth zs k = x := ⟨(nth zs k).toNat, by omega⟩
          obtain ⟨y, hy⟩ : ∃ y : Nat, nth zs j = y := ⟨(nth zs j).toNat, by omega⟩
          have hP : harmP (nth zs j) (nth zs k) = (decide (x % y = 0) || decide (y % x = 0)) := by
            unfold harmP; rw [hx, hy]
            have e1 : ((x : Int) % (y : Int) == 0) = decide (x % y = 0) := by rw [Bool.eq_iff_iff, beq_iff_eq, decide_eq_true_iff]; constructor <;> intro h <;> exact_mod_cast h
            have e2 : ((y : Int) % (x : Int) == 0) = decide (y % x = 0) := by rw [Bool.eq_iff_iff, beq_iff_eq, decide_eq_true_iff]; constructor <;> intro h <;> exact_mod_cast h
            rw [e1, e2]
          rw [hx] at hck hgk
          rw [hy] at hcj hgj
          have hz1 : ((x : Nat) : Int) ≠ 0 := by omega
          have hz2 : ((y : Nat) : Int) ≠ 0 := by omega
          have m1 : ((x : Int)).tmod y = ((x % y : Nat) : Int) := rfl
          have m2 : ((y : Int)).tmod x = ((y % x : Nat) : Int) := rfl
          have n1 : (x : Int) % y = ((x % y : Nat) : Int) := by simp
          have n2 : (y : Int) % x = ((y % x : Nat) : Int) := by simp
          have l1 := Nat.mod_lt x (show 0 < y by omega)
          have l2 := Nat.mod_lt y (show 0 < x by omega)
          obtain ⟨p, hp⟩ : ∃ p, x % y = p := ⟨_, rfl⟩
          obtain ⟨q, hq⟩ : ∃ q, y % x = q := ⟨_, rfl⟩
          rw [hp] at m1 n1 l1 hP
          rw [hq] at m2 n2 l2 hP
          have HP := Lib.hid hP
          clear hP hp hq hx hy hc
          have hfw : Try.prog.follows Departure.mixedOrders = true := by kernel_rfl
          have hij : (j : Int) < (zs.length : Int) := by omega
          have hik : (k : Int) < (zs.length : Int) := by omega
          have hij0 : (0 : Int) ≤ (j : Int) := by omega
          have hy0 : ¬ y = 0 := by omega
          have hx0 : ¬ x = 0 := by omega
          have hwp : IntKind.i64.wrap (p : Int) = (p : Int) := by rw [IntKind.wrap_i64]; omega
          have hwq : IntKind.i64.wrap (q : Int) = (q : Int) := by rw [IntKind.wrap_i64]; omega
          by_cases hp0 : p = 0
          · subst hp0
            replace m1 : ((x : Int)).tmod y = 0 := m1
            replace n1 : (x : Int) % y = 0 := n1
            clear hwp
            go_wp2
            go_quiet (fail)
            go_wp2
            go_roundw
            case rel => exact ⟨j + 1, by omega, by simp, fun v hv => by by_cases e : v = j; (subst e; rw [HP.out]; simp []); exact Hin.out v (by omega), bj, below_drewN hB2 _⟩
            case measure => simp [intOf]; omega
          · by_cases hq0 : q = 0
            · subst hq0
              replace m2 : ((y : Int)).tmod x = 0 := m2
              replace n2 : (y : Int) % x = 0 := n2
              clear hwq
              go_wp2
              go_quiet (fail)
              go_wp2
              exact ⟨⟨j + 1, by omega, by simp, fun v hv => by by_cases e : v = j; (subst e; rw [HP.out]; simp); exact Hin.out v (by omega), bj, below_drewN hB2 _⟩, by simp [intOf]; omega⟩
            · have hfal := harmB_false hlt hjk (by rw [HP.out]; simp [hp0, hq0])
              have Hf := Lib.hid hfal
              clear hfal
              go_wp2
              go_quiet (fail)
              go_wp2
              · go_ret
                exact ⟨ret_bool Hf.out.symm, below_drewN hB2 _⟩
              · rename_i hh
                simp at hh
                omega
        · obtain rfl : j = k := by omega
          go_wp2
          go_roundw
          case rel => exact ⟨j + 1, by omega, by simp, fun u v hu hv => by by_cases e : u = j; (subst e; exact Hin.out v hv); exact Hall.out u v (by omega) hv, bj, hB2⟩
          case measure => simp [intOf]; omega
    · obtain rfl : k = zs.length := by omega
      go_wp2
      go_ret
      exact ⟨ret_bool (harmB_true.2 fun u v hu hv => Hall.out u v hu hv).symm, hB⟩

/-- the number before place k of a list, 1 at its start -/
def lastOf (zs : List Int) (k : Nat) : Int := if k = 0 then 1 else nth zs (k - 1)
theorem lastOf_succ (zs : List Int) (k : Nat) : lastOf zs (k + 1) = nth zs k := by simp [lastOf]

set_option maxRecDepth 100000 in
set_option maxHeartbeats 8000000 in
theorem areHarmonicGaps_c (sv : Value) (zs : List Int) (w : World) (hI : Ints w.heap.size w sv zs) (ht : tasksOk zs = true) :
    Calls Try.prog 47 #[sv] w fun e w' => e = .returned (.bool (harmB zs)) ∧ Below w.heap.size w w' := by
  obtain ⟨a, cap, rfl⟩ := hI.shape
  have hl := tasksOk_len ht
  have hp : ∀ k, k < zs.length → 1 ≤ nth zs k ∧ nth zs k ≤ 40 := fun k hk => tasksOk_nth ht hk
  have Hp := Lib.hid hp
  clear hp
  go_enter Try.func47, Try.ntmps47
  go_wp2_with fail
  refine (values_c _ _ _ _).mono ?_
  rintro e w1 ⟨rfl, rfl⟩
  obtain ⟨W1, hW1⟩ : ∃ W1, (w.alloc (.cells #[.slice a zs.length cap] 22)) = W1 := ⟨_, rfl⟩
  have hB1 : Below w.heap.size w W1 := by rw [← hW1]; exact ((Below.refl _ w).alloc (Nat.le_refl _) _)
  have hs1 : w.heap.size + 1 ≤ W1.heap.size := by rw [← hW1]; simp
  have bS : Boxed W1 (w.heap.size) 22 (.slice a zs.length cap) := by rw [← hW1]; repeat first | (refine boxed_at ?_; (simp; done)) | refine Boxed.alloc ?_ _
  rw [hW1]
  clear hW1
  go_wp2_with fail
  refine (sorted_c w.heap.size w.heap.size _ zs W1 bS (by omega) (hI.below hB1) (by omega) (by omega)).mono ?_
  rintro e w2 ⟨v, rfl, ho, hB2⟩
  simp only [id]
  obtain ⟨g, cap2, rfl, hg1, hg2⟩ := ho.shape (by rw [sortV_length]; omega)
  have hB3 := hB1.trans (hB2.mono hB1.size)
  rw [sortV_length]
  have Hvl := Lib.hid (sortV_length zs)
  go_wp2
  go_loop [10, 3] (fun i l => ∃ k : Nat, k ≤ zs.length ∧ i = .int .i64 k ∧ l = .int .i64 (lastOf (sortV zs) k) ∧ chainTo (sortV zs) k) (fun i _ => zs.length - (intOf i).toNat)
  case atStart => exact ⟨0, Nat.zero_le _, rfl, rfl, fun m h => by omega⟩
  case round =>
    obtain ⟨k, hk, rfl, rfl, hch⟩ := hrel
    have Hch := Lib.hid hch
    clear hch
    by_cases hlt : k < zs.length
    · have hcx := ho.cellAt (j := k) (by rw [Hvl.out]; exact hlt)
      have hx := sortV_pos (zs := zs) (fun k hk => Hp.out k hk) hlt
      have hy : 1 ≤ lastOf (sortV zs) k ∧ lastOf (sortV zs) k ≤ 40 := by
        unfold lastOf
        split
        · omega
        · exact sortV_pos (zs := zs) (fun k hk => Hp.out k hk) (by omega)
      have Hls := Lib.hid (lastOf_succ (sortV zs) k)
      have hstep : nth (sortV zs) k % lastOf (sortV zs) k = 0 → chainTo (sortV zs) (k + 1) := fun h m hm => by
        by_cases e : m + 1 = k
        · have : lastOf (sortV zs) k = nth (sortV zs) m := by unfold lastOf; rw [if_neg (by omega)]; congr 1; omega
          rw [← this, e]; exact h
        · exact Hch.out m (by omega)
      have hbad : nth (sortV zs) k % lastOf (sortV zs) k ≠ 0 → harmB zs = false := fun h => by
        by_cases e : k = 0
        · exfalso; apply h; unfold lastOf; rw [if_pos e]; omega
        · refine harm_false (zs := zs) (fun k hk => (Hp.out k hk).1) (m := k - 1) (by omega) ?_
          unfold lastOf at h
          rw [if_neg e] at h
          rwa [show k - 1 + 1 = k by omega]
      have Hstep := Lib.hid hstep
      have Hbad := Lib.hid hbad
      clear hstep hbad
      obtain ⟨x, hxe⟩ : ∃ x : Nat, nth (sortV zs) k = x := ⟨(nth (sortV zs) k).toNat, by omega⟩
      obtain ⟨y, hye⟩ : ∃ y : Nat, lastOf (sortV zs) k = y := ⟨(lastOf (sortV zs) k).toNat, by omega⟩
      have Hx := Lib.hid hxe
      have Hy := Lib.hid hye
      rw [hxe] at hcx hx
      rw [hye] at hy ⊢
      have hr : (x : Int) % (y : Int) = ((x % y : Nat) : Int) := by simp
      have m1 : ((x : Int)).tmod y = ((x % y : Nat) : Int) := rfl
      have n1 : (x : Int) % y = ((x % y : Nat) : Int) := by simp
      have l1 := Nat.mod_lt x (show 0 < y by omega)
      obtain ⟨p, hp⟩ : ∃ p, x % y = p := ⟨_, rfl⟩
      rw [hp] at m1 n1 l1 hr
      have hz1 : ((y : Nat) : Int) ≠ 0 := by omega
      have hy0 : ¬ y = 0 := by omega
      have hwp : IntKind.i64.wrap (p : Int) = (p : Int) := by rw [IntKind.wrap_i64]; omega
      have Hr := Lib.hid hr
      clear hp hr hxe hye
      by_cases hp0 : p = 0
      · have hc := Hstep.out (by rw [Hx.out, Hy.out, Hr.out, hp0]; rfl)
        have Hc := Lib.hid hc
        subst hp0
        replace m1 : ((x : Int)).tmod y = 0 := m1
        replace n1 : (x : Int) % y = 0 := n1
        clear hwp hc
        go_wp2
        go_round
        case rel => exact ⟨k + 1, by omega, by simp, by rw [Hls.out, Hx.out], Hc.out⟩
        case measure => simp [intOf]; omega
      · have hf := Hbad.out (by rw [Hx.out, Hy.out, Hr.out]; omega)
        have Hf := Lib.hid hf
        clear hf
        go_wp2
        go_ret
        exact ⟨ret_bool Hf.out.symm, hB3⟩
    · obtain rfl : k = zs.length := by omega
      have Hh := Lib.hid (chain_harm Hch.out)
      go_wp2
      go_ret
      exact ⟨ret_bool Hh.out.symm, hB3⟩

end Go.Proofs.Ytahleajedgehlaa
