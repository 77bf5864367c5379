/-
  LeastTurns: slices.Compare, the model's l01Less and l01Least; LeastTurns of the model.
  Conditions: lists of 1 to 1048576 elements.
-/
import Derived.Test.YtimnmlidlbenhaaShift
namespace Go.Proofs.Ytimnmlidlbenhaa
open Go.RowKit Go.Shelf
attribute [local go_sem] Oper.semAt_some

/-- the first place at which two lists part -/
def diffAt (a b : List Int) : Option Nat := (List.range a.length).find? fun k => nth a k != nth b k
def lessL (a b : List Int) : Bool := match diffAt a b with | none => false | some k => decide (nth a k < nth b k)
def cmpL (a b : List Int) : Int := match diffAt a b with | none => 0 | some k => if nth a k < nth b k then -1 else 1
theorem diffAt_some {a b : List Int} {k : Nat} (hk : k < a.length) (he : ∀ j, j < k → nth a j = nth b j) (hn : nth a k ≠ nth b k) : diffAt a b = some k := by
  unfold diffAt; rw [List.find?_range_eq_some]; exact ⟨by simpa using hn, by simpa using hk, fun j hj => by simp [he j hj]⟩
theorem diffAt_none {a b : List Int} (he : ∀ j, j < a.length → nth a j = nth b j) : diffAt a b = none := by
  unfold diffAt; rw [List.find?_eq_none]; intro j hj; simp [he j (by simpa using hj)]
theorem cmpL_less (a b : List Int) : cmpL a b < 0 ↔ lessL a b = true := by
  unfold cmpL lessL
  cases diffAt a b with
  | none => simp
  | some k => simp only; split <;> simp_all <;> omega
theorem cmpL_bd (a b : List Int) : -1 ≤ cmpL a b ∧ cmpL a b ≤ 1 := by
  unfold cmpL
  cases diffAt a b with
  | none => simp
  | some k => simp only; split <;> omega
theorem lessL_self (a : List Int) : lessL a a = false := by unfold lessL; rw [diffAt_none (fun _ _ => rfl)]
/-- the least of the shifts below k, and which -/
def leastTo (ts : List Int) : Nat → List Int × Nat
  | 0 => (ts, 0)
  | k + 1 => if lessL (shiftL ts k) (leastTo ts k).1 then (shiftL ts k, k) else leastTo ts k
theorem leastTo_yes {ts : List Int} {k : Nat} (h : lessL (shiftL ts k) (leastTo ts k).1 = true) : leastTo ts (k + 1) = (shiftL ts k, k) := by simp [leastTo, h]
theorem leastTo_no {ts : List Int} {k : Nat} (h : lessL (shiftL ts k) (leastTo ts k).1 = false) : leastTo ts (k + 1) = leastTo ts k := by simp [leastTo, h]
theorem leastTo_one (ts : List Int) : leastTo ts 1 = (ts, 0) := by
  rw [leastTo_no (by rw [shiftL_zero]; exact lessL_self ts)]; rfl
theorem leastTo_len {ts : List Int} {k : Nat} (hk : k ≤ ts.length) : (leastTo ts k).1.length = ts.length := by
  induction k with
  | zero => rfl
  | succ k ih =>
    cases h : lessL (shiftL ts k) (leastTo ts k).1
    · rw [leastTo_no h]; exact ih (by omega)
    · rw [leastTo_yes h]; exact shiftL_length (by omega)
theorem leastTo_by {ts : List Int} {k : Nat} : (leastTo ts k).2 ≤ k := by
  induction k with
  | zero => simp [leastTo]
  | succ k ih =>
    cases h : lessL (shiftL ts k) (leastTo ts k).1
    · rw [leastTo_no h]; omega
    · rw [leastTo_yes h]; simp

set_option maxHeartbeats 4000000 in
theorem isNaN_c (x : Int) (w : World) : Calls Try.prog 118 #[.int .i64 x] w fun e w' => e = .returned (.bool false) ∧ w = w' := by
  have hq : (x != x) = false := by simp
  go_enter Try.func118, Try.ntmps118
  go_wp2
  go_ret
  exact ⟨ret_bool (by simp), rfl⟩
set_option maxHeartbeats 4000000 in
theorem cmpCompare_c (x y : Int) (w : World) : Calls Try.prog 88 #[.int .i64 x, .int .i64 y] w fun e w' => e = .returned (.int .i64 (if x < y then -1 else if y < x then 1 else 0)) ∧ w = w' := by
  by_cases h1 : x < y
  · go_enter Try.func88, Try.ntmps88
    go_wp2_with (go_at_call 118; refine (isNaN_c _ _).mono ?_; rintro e w' ⟨rfl, rfl⟩)
    go_ret
    exact ⟨rfl, rfl⟩
  · by_cases h2 : y < x
    · go_enter Try.func88, Try.ntmps88
      go_wp2_with (go_at_call 118; refine (isNaN_c _ _).mono ?_; rintro e w' ⟨rfl, rfl⟩)
      go_ret
      exact ⟨rfl, rfl⟩
    · go_enter Try.func88, Try.ntmps88
      go_wp2_with (go_at_call 118; refine (isNaN_c _ _).mono ?_; rintro e w' ⟨rfl, rfl⟩)
      go_ret
      exact ⟨rfl, rfl⟩

set_option maxRecDepth 100000 in
set_option maxHeartbeats 8000000 in
theorem compare_c (sv tv : Value) (xs ys : List Int) (w : World) (hX : Ints w.heap.size w sv xs) (hY : Ints w.heap.size w tv ys) (hlen : xs.length = ys.length) (hl : xs.length ≤ 1048576) :
    Calls Try.prog 80 #[sv, tv] w fun e w' => e = .returned (.int .i64 (cmpL xs ys)) ∧ w = w' := by
  obtain ⟨a, cap, rfl⟩ := hX.shape
  obtain ⟨a2, cap2, rfl⟩ := hY.shape
  have hlz : (ys.length : Int) = xs.length := by omega
  rw [← hlen]
  have Hl := Lib.hid hlen
  clear hlen hlz
  go_enter Try.func80, Try.ntmps80
  go_wp2_with fail
  go_loop [11] (fun i => ∃ k : Nat, k ≤ xs.length ∧ i = .int .i64 k ∧ (∀ j, j < k → nth xs j = nth ys j)) (fun i => xs.length - (intOf i).toNat)
  case atStart => exact ⟨0, Nat.zero_le _, rfl, fun j h => by omega⟩
  case round =>
    obtain ⟨k, hk, rfl, hall⟩ := hrel
    have Hall := Lib.hid hall
    clear hall
    by_cases hlt : k < xs.length
    · obtain ⟨b, off, ea, hb, hc⟩ := hX.at_ hlt
      have hlt2 : k < ys.length := by rw [← Hl.out]; exact hlt
      obtain ⟨b2, off2, ea2, hb2, hc2⟩ := hY.at_ hlt2
      have hcx := hc k hlt
      have hcy := hc2 k hlt2
      subst ea
      subst ea2
      clear hc hc2
      by_cases he : nth xs k = nth ys k
      · have hq : (if nth xs k < nth ys k then (-1 : Int) else if nth ys k < nth xs k then 1 else 0) = 0 := by rw [if_neg (by omega), if_neg (by omega)]
        have He := Lib.hid he
        have Hq := Lib.hid hq
        clear he hq hlt2
        go_wp2_with (go_at_call 88; refine (cmpCompare_c _ _ _).mono ?_; rintro e w' ⟨he, rfl⟩; rw [Hq.out] at he; subst he)
        exact ⟨⟨k + 1, by omega, by simp, fun j hj => by by_cases e : j = k; exact e ▸ He.out; exact Hall.out j (by omega)⟩, by simp [intOf]; omega⟩
      · have hd := diffAt_some hlt Hall.out he
        have hq : (if nth xs k < nth ys k then (-1 : Int) else if nth ys k < nth xs k then 1 else 0) = cmpL xs ys := by
          unfold cmpL; rw [hd]; simp only; split
          · rfl
          · rw [if_pos (by omega)]
        have hne : cmpL xs ys ≠ 0 := by rw [← hq]; split <;> (try split) <;> omega
        have hqn : (cmpL xs ys != 0) = true := by simpa using hne
        have Hq := Lib.hid hq
        clear he hq hd hlt2 hne
        go_wp2_with (go_at_call 88; refine (cmpCompare_c _ _ _).mono ?_; rintro e w' ⟨he, rfl⟩; rw [Hq.out] at he; subst he)
        go_ret
        exact ⟨rfl, rfl⟩
    · obtain rfl : k = xs.length := by omega
      have Hd := Lib.hid (show cmpL xs ys = 0 by unfold cmpL; rw [diffAt_none Hall.out])
      go_wp2
      go_ret
      exact ⟨ret_int Hd.out.symm, rfl⟩

set_option maxRecDepth 100000 in
set_option maxHeartbeats 8000000 in
theorem l01Less_c (sv tv : Value) (xs ys : List Int) (w : World) (hX : Ints w.heap.size w sv xs) (hY : Ints w.heap.size w tv ys) (hlen : xs.length = ys.length) (hl : xs.length ≤ 1048576) :
    Calls Try.prog 115 #[sv, tv] w fun e w' => e = .returned (.bool (lessL xs ys)) ∧ Below w.heap.size w w' := by
  obtain ⟨a, cap, rfl⟩ := hX.shape
  obtain ⟨a2, cap2, rfl⟩ := hY.shape
  rw [← hlen]
  have Hl := Lib.hid hlen
  clear hlen
  go_enter Try.func115, Try.ntmps115
  go_wp2
  go_loopw [5] (fun i wr => ∃ k : Nat, k ≤ xs.length ∧ i = .int .i64 k ∧ (∀ j, j < k → nth xs j = nth ys j) ∧ Below w.heap.size w wr) (fun i _ => xs.length - (intOf i).toNat)
  case atStart => exact ⟨0, Nat.zero_le _, rfl, fun j h => by omega, Below.refl _ _⟩
  case round =>
    obtain ⟨k, hk, rfl, hall, hB⟩ := hrel
    have Hall := Lib.hid hall
    clear hall
    by_cases hlt : k < xs.length
    · obtain ⟨b, off, ea, hb, hc⟩ := (hX.below hB).at_ hlt
      have hlt2 : k < ys.length := by rw [← Hl.out]; exact hlt
      obtain ⟨b2, off2, ea2, hb2, hc2⟩ := (hY.below hB).at_ hlt2
      have hcx := hc k hlt
      have hcy := hc2 k hlt2
      subst ea
      subst ea2
      clear hc hc2
      by_cases he : nth xs k = nth ys k
      · have hq2 : (nth xs k != nth ys k) = false := by simp [he]
        have He := Lib.hid he
        clear he hlt2
        go_wp2
        go_quiet (fail)
        go_wp2
        go_roundw
        case rel => exact ⟨k + 1, by omega, by simp, fun j hj => by by_cases e : j = k; exact e ▸ He.out; exact Hall.out j (by omega), below_drewN hB _⟩
        case measure => simp [intOf]; omega
      · have hd := diffAt_some hlt Hall.out he
        have hq : decide (nth xs k < nth ys k) = lessL xs ys := by unfold lessL; rw [hd]
        have hq2 : (nth xs k != nth ys k) = true := by simpa using he
        have Hq := Lib.hid hq
        clear he hq hd hlt2
        go_wp2
        go_quiet (fail)
        go_wp2
        go_quiet (fail)
        go_wp2
        go_ret
        exact ⟨ret_bool Hq.out, below_drewN (below_drewN hB _) _⟩
    · obtain rfl : k = xs.length := by omega
      have Hd := Lib.hid (show lessL xs ys = false by unfold lessL; rw [diffAt_none Hall.out])
      go_wp2
      go_ret
      exact ⟨ret_bool Hd.out.symm, hB⟩

set_option maxRecDepth 100000 in
set_option maxHeartbeats 8000000 in
theorem l01Least_c (sv : Value) (ts : List Int) (w : World) (hI : Ints w.heap.size w sv ts) (h0 : 0 < ts.length) (hl : ts.length ≤ 1048576) (hcp : CapOk sv ts.length) :
    Calls Try.prog 79 #[sv] w (GivesI w (leastTo ts ts.length).1 fun v => .tuple #[v, .int .i64 ((leastTo ts ts.length).2 : Nat)]) := by
  obtain ⟨a, cap, rfl⟩ := hI.shape
  have hlz : (ts.length : Int) ≤ 1048576 := by omega
  go_enter Try.func79, Try.ntmps79
  go_wp2_with fail
  refine (l01Own_c _ ts _ hI h0 hl).mono ?_
  rintro e w1 ⟨v, rfl, ho, hB⟩
  simp only [id]
  have ho1 : OwnI w.heap.size w1 v (leastTo ts 1).1 := by rw [leastTo_one]; exact ho
  have hz1 : ((leastTo ts 1).2 : Nat) = 0 := by rw [leastTo_one]
  have Hz1 := Lib.hid hz1
  clear hz1
  go_wp2
  go_loopw [4, 5, 6] (fun b at_ n wr => ∃ k : Nat, 1 ≤ k ∧ k ≤ ts.length ∧ n = .int .i64 k ∧ at_ = .int .i64 ((leastTo ts k).2 : Nat) ∧ OwnI w.heap.size wr b (leastTo ts k).1 ∧ Below w.heap.size w wr) (fun _ _ n _ => ts.length - (intOf n).toNat)
  case atStart => exact ⟨1, Nat.le_refl _, h0, rfl, by rw [Hz1.out]; rfl, ho1, hB⟩
  case round =>
    obtain ⟨k, hk1, hk, rfl, rfl, hok, hBk⟩ := hrel
    clear ho ho1 hB
    by_cases hlt : k < ts.length
    · go_wp2_with fail
      refine (l01Shifted_c _ ts k _ (hI.later hBk) h0 hl hcp (by omega)).mono ?_
      rintro e w2 ⟨v2, rfl, ho2, hB2⟩
      simp only [id]
      have hok2 := hok.below hB2
      have hB3 := hBk.trans (hB2.mono hBk.size)
      have ho2' := ho2.base hBk.size
      go_wp2_with fail
      refine (l01Less_c _ _ (shiftL ts k) (leastTo ts k).1 _ ho2.ints hok2.ints (by rw [shiftL_length (by omega), leastTo_len (by omega)]) (by rw [shiftL_length (by omega)]; exact hl)).mono ?_
      rintro e w3 ⟨rfl, hB4⟩
      have hB5 := hB3.trans (hB4.mono hB3.size)
      cases hd : lessL (shiftL ts k) (leastTo ts k).1
      · have Hs := Lib.hid (leastTo_no hd)
        clear hd
        go_wp2
        go_roundw
        case rel => exact ⟨k + 1, by omega, by omega, by simp, by rw [Hs.out], by rw [Hs.out]; exact hok2.below hB4, hB5⟩
        case measure => simp [intOf]; omega
      · have Hs := Lib.hid (leastTo_yes hd)
        clear hd
        go_wp2
        go_roundw
        case rel => exact ⟨k + 1, by omega, by omega, by simp, by rw [Hs.out], by rw [Hs.out]; exact ho2'.below hB4, hB5⟩
        case measure => simp [intOf]; omega
    · obtain rfl : k = ts.length := by omega
      go_wp2
      go_ret2
      exact ⟨_, rfl, hok, hBk⟩

def leastR (ts : List Int) : List Int := if turnsOk ts 8 then (leastTo ts ts.length).1 else []
def leastB (ts : List Int) : Int := if turnsOk ts 8 then ((leastTo ts ts.length).2 : Nat) else 0
theorem leastR_len (ts : List Int) : (leastR ts).length * 8 ≤ 140737488351232 := by
  unfold leastR; split
  · rename_i h; have := turnsOk_len h; rw [leastTo_len (Nat.le_refl _)]; omega
  · simp

set_option maxRecDepth 100000 in
set_option maxHeartbeats 8000000 in
theorem s_LeastTurns (c0 : Value) (ts : List Int) (w : World) (hI : Ints w.heap.size w c0 ts) (_hN : I64s ts) (hm : ts.length ≤ 1048576) (hcp : CapOk c0 ts.length) :
    Calls Try.prog 32 #[c0] w (GivesI w (leastR ts) fun v => .tuple #[v, .int .i64 (leastB ts), .int .i64 (greatC ts)]) := by
  obtain ⟨a, cap, rfl⟩ := hI.shape
  cases ht : turnsOk ts 8
  · have Hr := Lib.hid (show leastR ts = [] by unfold leastR; rw [ht]; rfl)
    have Hb := Lib.hid (show leastB ts = 0 by unfold leastB; rw [ht]; rfl)
    have Hc := Lib.hid (show greatC ts = 2 by unfold greatC; rw [ht]; rfl)
    have Ht := Lib.hid ht
    clear ht
    go_enter Try.func32, Try.ntmps32
    go_wp2_with fail
    refine (l01Turns_c _ ts 8 _ hI (by omega) (by omega) (by omega)).mono ?_
    rintro e w1 ⟨he, rfl⟩
    rw [Ht.out] at he
    subst he
    go_wp2
    go_ret3
    exact ⟨_, ret_v3 Hb.out.symm Hc.out.symm, by rw [Hr.out]; exact ownI_nil _ _, Below.refl _ _⟩
  · have Hr := Lib.hid (show leastR ts = (leastTo ts ts.length).1 by unfold leastR; rw [ht]; rfl)
    have Hb := Lib.hid (show leastB ts = ((leastTo ts ts.length).2 : Nat) by unfold leastB; rw [ht]; rfl)
    have Hc := Lib.hid (show greatC ts = 0 by unfold greatC; rw [ht]; rfl)
    have Ht := Lib.hid ht
    have hl := turnsOk_len ht
    clear ht
    go_enter Try.func32, Try.ntmps32
    go_wp2_with fail
    refine (l01Turns_c _ ts 8 _ hI (by omega) (by omega) (by omega)).mono ?_
    rintro e w1 ⟨he, rfl⟩
    rw [Ht.out] at he
    subst he
    go_wp2_with fail
    refine (l01Least_c _ ts _ hI (by omega) hm hcp).mono ?_
    rintro e w2 ⟨v, rfl, ho, hB⟩
    go_wp2
    go_ret3
    exact ⟨_, ret_v3 Hb.out.symm Hc.out.symm, by rw [Hr.out]; exact ho, hB⟩

end Go.Proofs.Ytimnmlidlbenhaa
