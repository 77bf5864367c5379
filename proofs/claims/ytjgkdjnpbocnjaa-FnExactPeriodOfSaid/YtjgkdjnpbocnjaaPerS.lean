/-
  PeriodOf of the model: the least number of slots that divides all and behind which the turns repeat.
  Conditions: lists of at most 1048576 elements.
-/
import Derived.Test.YtjgkdjnpbocnjaaPer
namespace Go.Proofs.Ytjgkdjnpbocnjaa
open Go.RowKit Go.Shelf Go.Maps
attribute [local go_sem] Oper.semAt_some

theorem goodP_yes {ts : List Int} {p : Nat} (h : ts.length % p = 0) (ha : ∀ m, p ≤ m → m < ts.length → nth ts m = nth ts (m - p)) : goodP ts p = true := by
  unfold goodP
  rw [decide_eq_true h, Bool.true_and, List.all_eq_true]
  intro n hn
  simp only [List.mem_range] at hn
  by_cases e : n < p
  · simp [e]
  · simp [ha n (by omega) hn]
theorem goodP_mod {ts : List Int} {p : Nat} (h : ts.length % p ≠ 0) : goodP ts p = false := by unfold goodP; rw [decide_eq_false h]; rfl
theorem goodP_at {ts : List Int} {p m : Nat} (h1 : p ≤ m) (h2 : m < ts.length) (h : nth ts m ≠ nth ts (m - p)) : goodP ts p = false := by
  unfold goodP
  rw [Bool.and_eq_false_iff]; right
  rw [List.all_eq_false]
  exact ⟨m, by simpa using h2, by simp [h]; omega⟩

set_option maxRecDepth 100000 in
set_option maxHeartbeats 8000000 in
theorem l01Period_c (sv : Value) (ts : List Int) (w : World) (hI : Ints w.heap.size w sv ts) (h0 : 0 < ts.length) (hl : ts.length ≤ 120) :
    Calls Try.prog 36 #[sv] w fun e w' => e = .returned (.int .i64 (period ts)) ∧ Below w.heap.size w w' := by
  obtain ⟨a, cap, rfl⟩ := hI.shape
  obtain ⟨b, off, rfl, hb, hc⟩ := hI.at_ h0
  have Hc := Lib.hid hc
  clear hc
  go_enter Try.func36, Try.ntmps36
  go_wp2_with fail
  go_loopw [3] (fun i wr => ∃ p : Nat, 1 ≤ p ∧ p ≤ ts.length ∧ i = .int .i64 p ∧ noGood ts p ∧ Below w.heap.size w wr) (fun i _ => ts.length - (intOf i).toNat)
  case atStart => exact ⟨1, Nat.le_refl _, h0, rfl, fun p h1 h2 => by omega, Below.refl _ _⟩
  case round =>
    obtain ⟨p, hp1, hp2, rfl, hng, hB⟩ := hrel
    have Hng := Lib.hid hng
    clear hng
    by_cases hlt : p < ts.length
    · have m1 : ((ts.length : Nat) : Int).tmod p = ((ts.length % p : Nat) : Int) := rfl
      have m2 : ((ts.length : Nat) : Int) % p = ((ts.length % p : Nat) : Int) := by simp
      have hrl := Nat.mod_lt ts.length (show 0 < p by omega)
      obtain ⟨r, hr⟩ : ∃ r, ts.length % p = r := ⟨_, rfl⟩
      rw [hr] at m1 m2 hrl
      have Hr := Lib.hid hr
      have hp0 : ¬ p = 0 := by omega
      have hpz : ((p : Nat) : Int) ≠ 0 := by omega
      obtain ⟨gd, hgd, hgd2⟩ : ∃ gd : Bool, ((r : Int) == 0) = gd ∧ (gd = true ↔ r = 0) := ⟨_, rfl, by rw [beq_iff_eq]; omega⟩
      have hdec : decide (r = 0) = gd := by cases gd <;> simp at hgd2 ⊢ <;> omega
      have Hgd := Lib.hid hgd2
      clear hr hgd2
      go_wp2_with fail
      go_loopw [4, 5] (fun g n wr => ∃ (n' : Nat) (gd : Bool), p ≤ n' ∧ n' ≤ ts.length ∧ g = .bool gd ∧ n = .int .i64 n' ∧ (gd = true → ts.length % p = 0 ∧ ∀ m, p ≤ m → m < n' → nth ts m = nth ts (m - p)) ∧ (gd = false → goodP ts p = false) ∧ Below w.heap.size w wr) (fun _ n _ => ts.length - (intOf n).toNat)
      case atStart => exact ⟨p, gd, Nat.le_refl _, hp2, by simp, rfl, fun e => ⟨by rw [Hr.out]; exact Hgd.out.1 e, fun m h1 h2 => by omega⟩, fun e => goodP_mod (by rw [Hr.out]; intro e2; rw [Hgd.out.2 e2] at e; cases e), hB⟩
      case round =>
        obtain ⟨n, g2, hn1, hn2, rfl, rfl, hyes, hno, hB2⟩ := hrel
        have Hyes := Lib.hid hyes
        have Hno := Lib.hid hno
        clear hB hyes hno hgd hdec
        cases g2
        · have Hg := Lib.hid (Hno.out rfl)
          have Hn2 : Hid (noGood ts (p + 1)) := Lib.hid fun q h1 h2 => by
            by_cases e : q = p
            · subst e; exact Hg.out
            · exact Hng.out q h1 (by omega)
          by_cases hnl : n < ts.length
          · go_wp2
            go_roundw
            case rel => exact ⟨p + 1, by omega, by omega, by simp, Hn2.out, hB2⟩
            case measure => simp [intOf]; omega
          · go_wp2
            go_roundw
            case rel => exact ⟨p + 1, by omega, by omega, by simp, Hn2.out, hB2⟩
            case measure => simp [intOf]; omega
        · have Hy2 := Lib.hid (Hyes.out rfl)
          clear Hyes
          by_cases hnl : n < ts.length
          · have c1 := (hB2.cell (p := ⟨b, off + n, none⟩) hb).trans (Hc.out n hnl)
            have c2 := (hB2.cell (p := ⟨b, off + (n - p), none⟩) hb).trans (Hc.out (n - p) (by omega))
            obtain ⟨x, hx⟩ : ∃ x, nth ts n = x := ⟨_, rfl⟩
            obtain ⟨y, hy⟩ : ∃ y, nth ts (n - p) = y := ⟨_, rfl⟩
            rw [hx] at c1
            rw [hy] at c2
            obtain ⟨q, hq⟩ : ∃ q, n - p = q := ⟨_, rfl⟩
            rw [hq] at c2
            have hwr : IntKind.i64.wrap ((n : Int) - (p : Int)) = (q : Int) := by rw [IntKind.wrap_i64]; omega
            have hql : (q : Int) < (ts.length : Int) := by omega
            have hnl2 : (n : Int) < (ts.length : Int) := by omega
            obtain ⟨g3, hg3, hg4⟩ : ∃ g3 : Bool, (x == y) = g3 ∧ (g3 = true ↔ x = y) := ⟨_, rfl, by rw [beq_iff_eq]⟩
            have hdec : decide (x = y) = g3 := by cases g3 <;> simp at hg4 ⊢ <;> omega
            have Hx := Lib.hid hx
            have Hy := Lib.hid hy
            have Hg4 := Lib.hid hg4
            have hfw : Try.prog.follows Departure.mixedOrders = true := by kernel_rfl
            clear hx hy hg4 hq
            go_wp2_with fail
            go_quiet (fail)
            go_wp2
            go_roundw
            case rel => exact ⟨n + 1, g3, by omega, by omega, rfl, by simp, fun e => ⟨Hy2.out.1, fun m h1 h2 => by
              by_cases e2 : m = n
              · subst e2; rw [Hx.out, Hy.out]; exact Hg4.out.1 e
              · exact Hy2.out.2 m h1 (by omega)⟩, fun e => goodP_at hn1 hnl (by rw [Hx.out, Hy.out]; intro e2; rw [Hg4.out.2 e2] at e; cases e), below_drewN hB2 _⟩
            case measure => simp [intOf]; omega
          · obtain rfl : n = ts.length := by omega
            have Hp := Lib.hid (period_hit (by omega) hlt Hng.out (goodP_yes Hy2.out.1 Hy2.out.2))
            go_wp2
            go_ret
            exact ⟨ret_int (by rw [Hp.out]), hB2⟩
    · obtain rfl : p = ts.length := by omega
      have Hp := Lib.hid (period_none Hng.out)
      go_wp2
      go_ret
      exact ⟨ret_int (by rw [Hp.out]), hB⟩

set_option maxRecDepth 100000 in
set_option maxHeartbeats 8000000 in
theorem s_PeriodOf (c0 : Value) (ts : List Int) (w : World) (hI : Ints w.heap.size w c0 ts) (_hN : I64s ts) (hm : ts.length ≤ 1048576) :
    Calls Try.prog 11 #[c0] w fun e w' => e = .returned (.tuple #[.int .i64 (perR ts), .int .i64 (perC ts)]) ∧ Below w.heap.size w w' := by
  obtain ⟨a, cap, rfl⟩ := hI.shape
  go_enter Try.func11, Try.ntmps11
  go_wp2_with fail
  refine (l01Turns_c _ ts 8 _ hI (by omega) (by omega) (by omega)).mono ?_
  rintro e w1 ⟨rfl, rfl⟩
  cases ht : turnsOk ts 8
  · have Hr := Lib.hid (show perR ts = 0 by unfold perR; rw [ht]; rfl)
    have Hc := Lib.hid (show perC ts = 2 by unfold perC; rw [ht]; rfl)
    clear ht
    go_wp2
    go_ret2
    exact ⟨by rw [Hr.out, Hc.out]; rfl, Below.refl _ _⟩
  · have Hr := Lib.hid (show perR ts = (period ts : Int) by unfold perR; rw [ht]; rfl)
    have Hc := Lib.hid (show perC ts = 0 by unfold perC; rw [ht]; rfl)
    have hl := turnsOk_len ht
    clear ht
    go_wp2_with fail
    refine (l01Period_c _ ts _ hI (by omega) (by omega)).mono ?_
    rintro e w2 ⟨rfl, hb⟩
    go_wp2
    go_ret2
    exact ⟨by rw [Hr.out, Hc.out]; rfl, hb⟩

end Go.Proofs.Ytjgkdjnpbocnjaa
