/-
  Shifts: slices.Grow of nil, slices.Concat of two, twice, shiftIn, the model's l01Shifted; ShiftTurns of both.
  Conditions: lists of 1 to 1048576 elements.
-/
import Derived.Test.YtgndbifcncklgaaClone
import Derived.Test.YtgndbifcncklgaaReg
namespace Go.Proofs.Ytgndbifcncklgaa
open Go.RowKit Go.Shelf

/-- a slice value's capacity holds its length -/
def CapOk (v : Value) (n : Nat) : Prop := ∃ a c, v = .slice a n c ∧ n ≤ c ∧ c ≤ maxLen
theorem OwnI.capOk {B : Nat} {W : World} {v : Value} {zs : List Int} (h : OwnI B W v zs) : CapOk v zs.length := by
  obtain ⟨_, h2⟩ := h
  rcases h2 with ⟨e, h0⟩ | ⟨g, cap, cur, e, _, _, hn, hm, _⟩
  · exact ⟨none, 0, by rw [e, h0], by omega, Nat.zero_le _⟩
  · exact ⟨_, cap, e, hn, hm⟩
theorem nth_append_left {xs ys : List Int} {m : Nat} (h : m < xs.length) : nth (xs ++ ys) m = nth xs m := by
  unfold nth; rw [List.getElem?_append_left h]
theorem nth_append_right {xs ys : List Int} {m : Nat} (h : xs.length ≤ m) : nth (xs ++ ys) m = nth ys (m - xs.length) := by
  unfold nth; rw [List.getElem?_append_right h]
theorem nth_take {xs : List Int} {n m : Nat} (h : m < n) : nth (xs.take n) m = nth xs m := by
  unfold nth; rw [List.getElem?_take_of_lt h]
theorem nth_drop {xs : List Int} {n m : Nat} : nth (xs.drop n) m = nth xs (n + m) := by
  unfold nth; rw [List.getElem?_drop]
/-- turns shifted by n -/
def shiftL (ts : List Int) (n : Nat) : List Int := ts.drop n ++ ts.take n
theorem shiftL_length {ts : List Int} {n : Nat} (h : n ≤ ts.length) : (shiftL ts n).length = ts.length := by simp [shiftL]; omega
theorem shiftL_zero (ts : List Int) : shiftL ts 0 = ts := by simp [shiftL]
theorem nth_shiftL {ts : List Int} {n m : Nat} (hn : n ≤ ts.length) (hm : m < ts.length) : nth (shiftL ts n) m = nth ts ((n + m) % ts.length) := by
  unfold shiftL
  by_cases h : m < ts.length - n
  · rw [nth_append_left (by simpa using h), nth_drop, Nat.mod_eq_of_lt (by omega)]
  · rw [nth_append_right (by simp; omega), nth_take (by simp; omega), List.length_drop]
    congr 1
    rw [show n + m = (m - (ts.length - n)) + ts.length by omega, Nat.add_mod_right, Nat.mod_eq_of_lt (by omega)]
theorem ownI_zero {B : Nat} {W : World} {g n cap : Nat} {zs : List Int} (h : OwnI B W (.slice (some ⟨g, 0, none⟩) n cap) zs) : OwnI B W (.slice (some ⟨g, 0, none⟩) 0 cap) [] := by
  obtain ⟨h1, h2⟩ := h
  refine ⟨by simp, .inr ?_⟩
  rcases h2 with ⟨e, _⟩ | ⟨g', cap', cur, e, hg, hh, hn, hm, hs, ht⟩
  · simp at e
  · simp only [Value.slice.injEq, Option.some.injEq, Addr.mk.injEq, and_true] at e
    obtain ⟨rfl, rfl, rfl⟩ := e
    exact ⟨g, cap, cur, rfl, hg, hh, Nat.zero_le _, hm, hs, by simp⟩

set_option maxRecDepth 100000 in
set_option maxHeartbeats 4000000 in
theorem growNil_c (n : Nat) (w : World) (h0 : 0 < n) (hn : n ≤ 2097152) :
    Calls Try.prog 131 #[.slice none 0 0, .int .i64 n] w (GivesI w [] id) := by
  obtain ⟨i0, hi, hz0, hz1, hz2⟩ := info_parts Try.infoI
  have hby : Try.t2.bytes = 8 := by kernel_rfl
  have hcap : Builtin.nextslicecap n 0 = n := by unfold Builtin.nextslicecap; rw [if_pos (by omega)]
  have hb1 : ¬ 281474976710656 < (n : Int) * (Try.t2.bytes : Int) := by rw [hby]; omega
  have hb2 : ¬ 281474976710656 < Builtin.nextslicecap n 0 * Try.t2.bytes := by rw [hby, hcap]; omega
  have hge := grownCap_ge w n 0 2
  have hle := grownCap_le_maxLen w n 0 2 (by unfold maxLen; omega)
  have Hge := Lib.hid hge
  have Hle := Lib.hid hle
  clear hby hcap hge hle
  go_enter Try.func131, Try.ntmps131
  go_wp2_with fail
  go_ret
  refine ⟨_, rfl, World.ownsRow.drew (World.ownsRow_made w _ _ (Nat.le_refl _) Hle.out ?_), ((Below.refl _ w).alloc (Nat.le_refl _) _).drew⟩
  have h := Hge.out
  unfold grownCap at h
  simp [size_zeroCells]
  omega

/-! ### two of them, one behind the other -/
def twiceTo (zs : List Int) (k : Nat) : List Int := (List.replicate k zs).flatten
theorem twiceTo_zero (zs : List Int) : twiceTo zs 0 = [] := rfl
theorem twiceTo_succ (zs : List Int) (k : Nat) : twiceTo zs (k + 1) = twiceTo zs k ++ zs := by
  unfold twiceTo; rw [List.replicate_succ']; simp
theorem twiceTo_length (zs : List Int) (k : Nat) : (twiceTo zs k).length = k * zs.length := by simp [twiceTo]
theorem twiceTo_two (zs : List Int) : twiceTo zs 2 = zs ++ zs := by simp [twiceTo]

set_option maxRecDepth 100000 in
set_option maxHeartbeats 8000000 in
theorem concat2_c (a : Option Addr) (cap : Nat) (zs : List Int) (w : World) (hI : Ints w.heap.size w (.slice a zs.length cap) zs) (h0 : 0 < zs.length) (hl : zs.length ≤ 1048576) (bk : Nat) (hbk : bk < w.heap.size)
    (h1 : w.cell? ⟨bk, 0, none⟩ = some (.slice a zs.length cap)) (h2 : w.cell? ⟨bk, 1, none⟩ = some (.slice a zs.length cap)) :
    Calls Try.prog 106 #[.slice (some ⟨bk, 0, none⟩) 2 2] w (GivesI w (zs ++ zs) id) := by
  obtain ⟨i0, hi, hz0, hz1, hz2⟩ := info_parts Try.infoI2
  have hcell : ∀ (W : World), Below w.heap.size w W → ∀ k, k < 2 → W.cell? ⟨bk, k, none⟩ = some (.slice a zs.length cap) := fun W hW k hk => by
    refine (hW.cell (p := ⟨bk, k, none⟩) hbk).trans ?_
    match k, hk with
    | 0, _ => exact h1
    | 1, _ => exact h2
  go_enter Try.func106, Try.ntmps106
  go_wp2_with fail
  go_loop [3, 11] (fun s i => ∃ k : Nat, k ≤ 2 ∧ i = .int .i64 k ∧ s = .int .i64 ((k * zs.length : Nat) : Int)) (fun _ i => 2 - (intOf i).toNat)
  case atStart => exact ⟨0, by omega, rfl, by simp⟩
  case round =>
    obtain ⟨k, hk, rfl, rfl⟩ := hrel
    by_cases hlt : k < 2
    · have hc := hcell w (Below.refl _ _) k hlt
      have hkl : k * zs.length ≤ 1 * zs.length := Nat.mul_le_mul_right _ (by omega)
      have hk2 : ((k * zs.length : Nat) : Int) + (zs.length : Int) = (((k + 1) * zs.length : Nat) : Int) := by rw [Nat.add_mul, Nat.one_mul]; simp
      obtain ⟨m, hm⟩ : ∃ m, k * zs.length = m := ⟨_, rfl⟩
      have Hk2 := Lib.hid hk2
      rw [hm] at hkl hk2
      clear hcell
      rw [hm]
      clear hm
      obtain ⟨q, hq⟩ : ∃ q : Int, (((k + 1) * zs.length : Nat) : Int) = q := ⟨_, rfl⟩
      rw [hq] at hk2
      have Hq := Lib.hid hq
      have hq0 : 0 ≤ q := by omega
      clear hq
      go_wp2
      exact ⟨⟨k + 1, by omega, by simp, by rw [Hq.out]⟩, by simp [intOf]; omega⟩
    · obtain rfl : k = 2 := by omega
      have e2 : ((2 * zs.length : Nat) : Int) = ((zs.length + zs.length : Nat) : Int) := by omega
      rw [e2]
      go_wp2_with fail
      refine (growNil_c (zs.length + zs.length) w (by omega) (by omega)).mono ?_
      rintro e w1 ⟨v, rfl, ho, hB⟩
      simp only [id]
      obtain ⟨b, off, ea, hb, _⟩ := hI.at_ h0
      subst ea
      go_wp2
      go_loopw [6, 27] (fun v i wr => ∃ k : Nat, k ≤ 2 ∧ i = .int .i64 k ∧ OwnI w.heap.size wr v (twiceTo zs k) ∧ Below w.heap.size w wr) (fun _ i _ => 2 - (intOf i).toNat)
      case atStart => exact ⟨0, by omega, rfl, ho, hB⟩
      case round =>
        obtain ⟨k, hk, rfl, hok, hBk⟩ := hrel
        by_cases hlt : k < 2
        · have hc := hcell wr hBk k hlt
          have hIk := hI.below hBk
          have htl := twiceTo_length zs k
          have hkl : k * zs.length ≤ 1 * zs.length := Nat.mul_le_mul_right _ (by omega)
          have Hs := Lib.hid (twiceTo_succ zs k)
          have hsw := hBk.size
          clear hcell
          go_wp2_with (at_builtin; refine wpList_append_own _ rfl _ _ 24 rfl w.heap.size 2 i0 (.int .i64 0) 1 8 Try.underlying24 hi hz0 hz1 hz2 rfl (by decide) _ _ _ rfl hok ⟨b, off, none⟩ zs.length cap (zs.map (.int .i64)) rfl (by simp) (cells_src hIk) (cells_one zs) (by unfold maxLen; omega) (by omega) hsw ?_)
          intro v' w3 hown' hgrow _
          have ho3 : OwnI w.heap.size w3 v' (twiceTo zs (k + 1)) := by rw [Hs.out]; exact ownI_app (by rw [htl]; exact hown')
          have hB3 : Below w.heap.size w w3 := hBk.grown hgrow hsw (fun j e => (hok.blk j e).1)
          clear hown' hgrow
          go_wp2
          go_roundw
          case rel => exact ⟨k + 1, by omega, by simp, ho3, hB3⟩
          case measure => simp [intOf]; omega
        · obtain rfl : k = 2 := by omega
          rw [twiceTo_two] at hok
          go_wp2
          go_ret
          exact ⟨_, rfl, hok, hBk⟩

set_option maxRecDepth 100000 in
set_option maxHeartbeats 8000000 in
theorem twice_c (sv : Value) (zs : List Int) (w : World) (hI : Ints w.heap.size w sv zs) (h0 : 0 < zs.length) (hl : zs.length ≤ 1048576) :
    Calls Try.prog 64 #[sv] w (GivesI w (zs ++ zs) id) := by
  obtain ⟨a, cap, rfl⟩ := hI.shape
  have hB0 : Below w.heap.size w (w.alloc (.cells #[.slice a zs.length cap, .slice a zs.length cap] 24)) := (Below.refl _ w).alloc (Nat.le_refl _) _
  go_enter Try.func64, Try.ntmps64
  go_wp2_with fail
  refine (concat2_c a cap zs _ (hI.later hB0) h0 hl w.heap.size (by simp) (by simp [go_sem]) (by simp [go_sem])).mono ?_
  rintro e w1 ⟨v, rfl, ho, hB⟩
  simp only [id]
  go_wp2
  go_ret
  exact ⟨_, rfl, ho.base (by simp), hB0.trans (hB.mono (by simp))⟩

set_option maxRecDepth 100000 in
set_option maxHeartbeats 8000000 in
theorem shiftIn_c (g cap L n : Nat) (w : World) (h0 : 0 < L) (hl : L ≤ 1048576) (hc : L + L ≤ cap) (hn : n ≤ L) :
    Calls Try.prog 63 #[.slice (some ⟨g, 0, none⟩) (L + L) cap, .int .i64 n] w fun e w' => e = .returned (.slice (some ⟨g, n, none⟩) L L) ∧ w' = w := by
  go_enter Try.func63, Try.ntmps63
  go_wp2_with fail
  go_ret
  exact ⟨by simp only [show n + (L + L) / 2 - n = L by omega]; rfl, rfl⟩

theorem nth_twice {zs : List Int} {n j : Nat} (hn : n ≤ zs.length) (hj : j < zs.length) : nth (zs ++ zs) (n + j) = nth (shiftL zs n) j := by
  rw [nth_shiftL hn hj]
  by_cases h : n + j < zs.length
  · rw [nth_append_left h, Nat.mod_eq_of_lt h]
  · rw [nth_append_right (by omega)]
    congr 1
    rw [show n + j = (n + j - zs.length) + zs.length by omega, Nat.add_mod_right, Nat.add_sub_cancel, Nat.mod_eq_of_lt (by omega)]
theorem ints_drop {n₀ n : Nat} {W : World} {b off cap : Nat} {zs : List Int} (h : Ints n₀ W (.slice (some ⟨b, off, none⟩) zs.length cap) zs) (hn : n ≤ zs.length) :
    Ints n₀ W (.slice (some ⟨b, off + n, none⟩) (zs.drop n).length (cap - n)) (zs.drop n) := by
  refine ⟨_, _, rfl, ?_⟩
  by_cases e : n = zs.length
  · left; rw [e]; simp
  · obtain ⟨b2, off2, hs, hb, hc⟩ := h.at_ (show 0 < zs.length by omega)
    cases hs
    refine .inr ⟨b, off + n, rfl, hb, fun j hj => ?_⟩
    rw [List.length_drop] at hj
    rw [nth_drop, Nat.add_assoc]
    exact hc _ (by omega)
theorem ints_take {n₀ n : Nat} {W : World} {b off len cap : Nat} {zs : List Int} (h : Ints n₀ W (.slice (some ⟨b, off, none⟩) len cap) zs) (hn : n ≤ zs.length) :
    Ints n₀ W (.slice (some ⟨b, off, none⟩) n cap) (zs.take n) := by
  have hl : (zs.take n).length = n := by simp; omega
  refine ⟨_, _, by rw [hl], ?_⟩
  by_cases e : n = 0
  · left; rw [e]; simp
  · obtain ⟨b2, off2, hs, hb, hc⟩ := h.at_ (show 0 < zs.length by omega)
    cases hs
    refine .inr ⟨b, off, rfl, hb, fun j hj => ?_⟩
    rw [hl] at hj
    rw [nth_take hj]
    exact hc _ (by omega)

set_option maxRecDepth 100000 in
set_option maxHeartbeats 8000000 in
theorem l01OwnS_c (b off cap : Nat) (zs : List Int) (w : World) (hI : Ints w.heap.size w (.slice (some ⟨b, off, none⟩) zs.length cap) zs) (hl : zs.length ≤ 1048576) :
    Calls Try.prog 117 #[.slice (some ⟨b, off, none⟩) zs.length cap] w (GivesI w zs id) := by
  obtain ⟨i0, hi, hz0, hz1, hz2⟩ := info_parts Try.infoI2
  have hB0 : Below w.heap.size w (w.alloc (.cells #[] 2)) := (Below.refl _ w).alloc (Nat.le_refl _) _
  go_enter Try.func117, Try.ntmps117
  go_wp2_with (at_builtin; refine wpList_append_own _ rfl _ _ 24 rfl w.heap.size 2 i0 (.int .i64 0) 1 8 Try.underlying24 hi hz0 hz1 hz2 rfl (by decide) _ _ _ rfl (ownI_empty w) ⟨b, off, none⟩ zs.length cap (zs.map (.int .i64)) rfl (by simp) (cells_src (hI.below hB0)) (cells_one zs) (by unfold maxLen; simp; omega) (by simp; omega) (by simp) ?_)
  intro v' w1 hown' hgrow _
  have ho : OwnI w.heap.size w1 v' zs := by have := ownI_app (xs := []) (ys := zs) (by simpa using hown'); simpa using this
  have hB : Below w.heap.size w w1 := hB0.grown hgrow (by simp) (fun j e => by simp [Value.ownBlock] at e; omega)
  clear hown' hgrow
  go_wp2
  go_ret
  exact ⟨_, rfl, ho, hB⟩

/-! ### ShiftTurns -/
def shiftOk (ts : List Int) (n : Int) : Bool := turnsOk ts 8 && inB n 0 ts.length
def shiftR (ts : List Int) (n : Int) : List Int := if shiftOk ts n then shiftL ts n.toNat else []
def shiftC (ts : List Int) (n : Int) : Int := if shiftOk ts n then 0 else 2
theorem shiftR_len (ts : List Int) (n : Int) : (shiftR ts n).length * 8 ≤ 140737488351232 := by
  unfold shiftR; split
  · rename_i h
    unfold shiftOk at h
    rw [Bool.and_eq_true, inB_true] at h
    have := turnsOk_len h.1
    rw [shiftL_length (by omega)]; omega
  · simp

end Go.Proofs.Ytgndbifcncklgaa
