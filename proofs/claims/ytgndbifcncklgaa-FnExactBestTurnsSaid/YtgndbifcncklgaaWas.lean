/-
  Those who wait, the model: l10Turns, l10Wait, l10Code, l10Sum.
  Conditions: lists of at most 1048576 elements.
-/
import Derived.Test.YtgndbifcncklgaaWam
import Derived.Test.YtgndbifcncklgaaChk
namespace Go.Proofs.Ytgndbifcncklgaa
open Go.RowKit Go.Shelf

/-- turns, and tasks in 0..7 -/
def comB (ts is : List Int) : Bool := is.all (fun z => inB z 0 7) && turnsOk ts 8
/-- the code of turns and tasks that one waits for -/
def comC (ts is : List Int) : Int := if comB ts is then (if hasAll ts is then 0 else 4) else 2
/-- .. and a slot -/
def comS (ts is : List Int) (s : Int) : Int := if comB ts is && inB s 0 (ts.length - 1) then (if hasAll ts is then 0 else 4) else 2

set_option maxRecDepth 100000 in
set_option maxHeartbeats 4000000 in
theorem l10Turns_c (sv tv : Value) (ts is : List Int) (w : World) (hI : Ints w.heap.size w sv ts) (hT : Ints w.heap.size w tv is) (hl : ts.length ≤ 1048576) (hm : is.length ≤ 1048576) :
    Calls Try.prog 70 #[sv, tv] w fun e w' => e = .returned (.bool (comB ts is)) ∧ w = w' := by
  obtain ⟨a, cap, rfl⟩ := hI.shape
  obtain ⟨a2, cap2, rfl⟩ := hT.shape
  go_enter Try.func70, Try.ntmps70
  go_wp2
  go_loop [5] (fun i => ∃ k : Nat, k ≤ is.length ∧ i = .int .i64 k ∧ (∀ j, j < k → inB (nth is j) 0 7 = true)) (fun i => is.length - (intOf i).toNat)
  case atStart => exact ⟨0, Nat.zero_le _, rfl, by simp⟩
  case round =>
    obtain ⟨k, hk, rfl, hall⟩ := hrel
    by_cases hlt : k < is.length
    · obtain ⟨b, off, rfl, hb, hc⟩ := hT.at_ hlt
      have hcx := hc k hlt
      clear hc
      have Hall := Lib.hid hall
      clear hall
      by_cases he : inB (nth is k) 0 7 = true
      · have He := Lib.hid he
        clear he
        go_wp2_with (go_at_call 76; refine (l01In_d true _ _ _ _ He.out).mono ?_; rintro e w' ⟨rfl, rfl⟩)
        go_round
        case rel => exact ⟨k + 1, by omega, by simp, fun j hj => by by_cases e : j = k; exact e ▸ He.out; exact Hall.out j (by omega)⟩
        case measure => simp [intOf]; omega
      · have he' : inB (nth is k) 0 7 = false := by simpa using he
        have He := Lib.hid he'
        clear he he'
        go_wp2_with (go_at_call 76; refine (l01In_d false _ _ _ _ He.out).mono ?_; rintro e w' ⟨rfl, rfl⟩)
        go_ret
        exact ⟨ret_bool (by unfold comB; rw [all_false_of (p := fun z => inB z 0 7) hlt He.out]; rfl), rfl⟩
    · obtain rfl : k = is.length := by omega
      have Hall := Lib.hid hall
      clear hall
      go_wp2_with fail
      refine (l01Turns_c _ ts 8 _ hI (by omega) (by omega) (by omega)).mono ?_
      rintro e w' ⟨rfl, rfl⟩
      go_wp2
      go_ret
      exact ⟨ret_bool (by unfold comB; rw [all_true_of (p := fun z => inB z 0 7) Hall.out]; rfl), rfl⟩

set_option maxRecDepth 100000 in
set_option maxHeartbeats 4000000 in
theorem l10Wait_c (sv : Value) (ts : List Int) (i : Int) (s : Nat) (w : World) (hI : Ints w.heap.size w sv ts) (h0 : 0 < ts.length) (hl : ts.length ≤ 1048576) (hs : s < ts.length) :
    Calls Try.prog 60 #[sv, .int .i64 i, .int .i64 s] w fun e w' => e = .returned (.int .i64 (ixI (shiftL ts s) i)) ∧ w = w' := by
  obtain ⟨a, cap, rfl⟩ := hI.shape
  have hsl : (shiftL ts s).length = ts.length := shiftL_length (by omega)
  have Hsl := Lib.hid hsl
  clear hsl
  go_enter Try.func60, Try.ntmps60
  go_wp2
  go_loop [8] (fun n => ∃ k : Nat, k ≤ ts.length ∧ n = .int .i64 k ∧ ∀ j, j < k → nth (shiftL ts s) j ≠ i) (fun n => ts.length - (intOf n).toNat)
  case atStart => exact ⟨0, Nat.zero_le _, rfl, by simp⟩
  case round =>
    obtain ⟨k, hk, rfl, hall⟩ := hrel
    have Hall := Lib.hid hall
    clear hall
    by_cases hlt : k < ts.length
    · obtain ⟨b, off, rfl, hb, hc⟩ := hI.at_ h0
      obtain ⟨m, hm⟩ : ∃ m : Nat, (s + k) % ts.length = m := ⟨_, rfl⟩
      have hml : m < ts.length := by rw [← hm]; exact Nat.mod_lt _ h0
      have hmz : ((s : Int) + k).tmod ts.length = m := by rw [← hm, ← Int.natCast_add]; rfl
      have hme : ((s : Int) + k) % ts.length = m := by rw [← hm]; simp
      have hcx := hc m hml
      have Hm := Lib.hid (show nth (shiftL ts s) k = nth ts m by rw [nth_shiftL (by omega) hlt, hm])
      clear hc hm
      by_cases he : nth ts m = i
      · have hq : (nth ts m == i) = true := by simp [he]
        have Hf := Lib.hid (idx_at (xs := shiftL ts s) (v := i) (k := k) (by rw [Hsl.out]; exact hlt) (by rw [Hm.out]; exact he) Hall.out)
        clear he
        go_wp2
        go_ret
        exact ⟨ret_int (by unfold ixI; rw [Hf.out, Hsl.out, if_pos hlt]), rfl⟩
      · have hq : (nth ts m == i) = false := by simpa using he
        have He := Lib.hid he
        clear he
        go_wp2
        exact ⟨⟨k + 1, by omega, by simp, fun j hj => by by_cases e : j = k; (subst e; rw [Hm.out]; exact He.out); exact Hall.out j (by omega)⟩, by simp [intOf]; omega⟩
    · obtain rfl : k = ts.length := by omega
      have Hf := Lib.hid (idx_none (xs := shiftL ts s) (v := i) (fun j hj => Hall.out j (by rw [Hsl.out] at hj; exact hj)))
      go_wp2
      go_ret
      exact ⟨ret_int (by unfold ixI; rw [Hf.out, if_neg (by omega)]), rfl⟩

theorem ix_shift {ts : List Int} {s : Nat} {i : Int} (h : ts.contains i = true) : ixI (shiftL ts s) i = (wa ts [i] s : Nat) := by
  rw [ixI_iw (by rw [contains_shiftL]; exact h), wa_one]
theorem ix_zero {ts : List Int} {i : Int} : decide (ixI (shiftL ts 0) i < 0) = !ts.contains i := by rw [ixI_neg, contains_shiftL]
theorem comB_turns {ts is : List Int} (h : comB ts is = true) : turnsOk ts 8 = true := by unfold comB at h; rw [Bool.and_eq_true] at h; exact h.2
theorem comC_bad {ts is : List Int} (h : comB ts is = false) : comC ts is = 2 := by unfold comC; rw [h]; rfl
theorem comC_four {ts is : List Int} (h : comB ts is = true) (k : hasAll ts is = false) : comC ts is = 4 := by unfold comC; rw [h, k]; rfl
theorem comC_zero {ts is : List Int} (h : comB ts is = true) (k : hasAll ts is = true) : comC ts is = 0 := by unfold comC; rw [h, k]; rfl
theorem comC_cases (ts is : List Int) : (comB ts is = false ∧ comC ts is = 2) ∨ (comB ts is = true ∧ hasAll ts is = false ∧ comC ts is = 4) ∨ (comB ts is = true ∧ hasAll ts is = true ∧ comC ts is = 0) := by
  cases h : comB ts is
  · exact .inl ⟨rfl, comC_bad h⟩
  · cases k : hasAll ts is
    · exact .inr (.inl ⟨rfl, rfl, comC_four h k⟩)
    · exact .inr (.inr ⟨rfl, rfl, comC_zero h k⟩)
theorem comS_in {ts is : List Int} {s : Int} (h : inB s 0 (ts.length - 1) = true) : comS ts is s = comC ts is := by unfold comS comC; rw [h, Bool.and_true]
theorem comS_out {ts is : List Int} {s : Int} (h : inB s 0 (ts.length - 1) = false) : comS ts is s = 2 := by unfold comS; rw [h, Bool.and_false]; rfl
theorem comS_bad {ts is : List Int} {s : Int} (h : comB ts is = false) : comS ts is s = 2 := by unfold comS; rw [h]; rfl
theorem comS_zero (ts is : List Int) : comS ts is 0 = comC ts is := by
  cases h : comB ts is
  · rw [comS_bad h, comC_bad h]
  · have := turnsOk_len (comB_turns h)
    exact comS_in (inB_true.2 (by omega))
theorem hasAll_no {ts is : List Int} {k : Nat} (hk : k < is.length) (h : ts.contains (nth is k) = false) : hasAll ts is = false := all_false_of (p := fun i => ts.contains i) hk h
theorem hasAll_yes {ts is : List Int} (h : ∀ j, j < is.length → ts.contains (nth is j) = true) : hasAll ts is = true := all_true_of (p := fun i => ts.contains i) h

set_option maxRecDepth 100000 in
set_option maxHeartbeats 8000000 in
theorem l10Code_c (sv tv : Value) (ts is : List Int) (s : Int) (w : World) (hI : Ints w.heap.size w sv ts) (hT : Ints w.heap.size w tv is) (hl : ts.length ≤ 1048576) (hm : is.length ≤ 1048576) :
    Calls Try.prog 59 #[sv, .int .i64 s, tv] w fun e w' => e = .returned (.int .i64 (comS ts is s)) ∧ w = w' := by
  obtain ⟨a, cap, rfl⟩ := hI.shape
  obtain ⟨a2, cap2, rfl⟩ := hT.shape
  cases hb : comB ts is
  · have Hb := Lib.hid hb
    have Hc := Lib.hid (comS_bad (s := s) hb)
    clear hb
    go_enter Try.func59, Try.ntmps59
    go_wp2_with fail
    refine (l10Turns_c _ _ ts is _ hI hT hl hm).mono ?_
    rintro e w' ⟨he, rfl⟩
    rw [Hb.out] at he
    subst he
    go_wp2
    go_ret
    exact ⟨ret_int Hc.out.symm, rfl⟩
  · have htl := turnsOk_len (comB_turns hb)
    cases hs : inB s 0 (ts.length - 1)
    · have Hb := Lib.hid hb
      have Hs := Lib.hid hs
      have Hc := Lib.hid (comS_out (is := is) hs)
      clear hb hs
      go_enter Try.func59, Try.ntmps59
      go_wp2_with fail
      refine (l10Turns_c _ _ ts is _ hI hT hl hm).mono ?_
      rintro e w' ⟨he, rfl⟩
      rw [Hb.out] at he
      subst he
      go_wp2_with fail
      refine (l01In_d false _ _ _ _ Hs.out).mono ?_
      rintro e w' ⟨rfl, rfl⟩
      go_wp2
      go_ret
      exact ⟨ret_int Hc.out.symm, rfl⟩
    · have Hb := Lib.hid hb
      have Hs := Lib.hid hs
      have Hc := Lib.hid (comS_in (is := is) hs)
      clear hb hs
      go_enter Try.func59, Try.ntmps59
      go_wp2_with fail
      refine (l10Turns_c _ _ ts is _ hI hT hl hm).mono ?_
      rintro e w' ⟨he, rfl⟩
      rw [Hb.out] at he
      subst he
      go_wp2_with fail
      refine (l01In_d true _ _ _ _ Hs.out).mono ?_
      rintro e w' ⟨rfl, rfl⟩
      go_wp2
      go_loop [7] (fun i => ∃ k : Nat, k ≤ is.length ∧ i = .int .i64 k ∧ (∀ j, j < k → ts.contains (nth is j) = true)) (fun i => is.length - (intOf i).toNat)
      case atStart => exact ⟨0, Nat.zero_le _, rfl, by simp⟩
      case round =>
        obtain ⟨k, hk, rfl, hall⟩ := hrel
        have Hall := Lib.hid hall
        clear hall
        by_cases hlt : k < is.length
        · obtain ⟨b, off, rfl, hb, hc⟩ := hT.at_ hlt
          have hcx := hc k hlt
          clear hc
          have hneg := ix_zero (ts := ts) (i := nth is k)
          have hbd := ixI_bd (shiftL ts 0) (nth is k)
          rw [shiftL_length (Nat.zero_le _)] at hbd
          cases hck : ts.contains (nth is k)
          · have hlz : ixI (shiftL ts 0) (nth is k) < 0 := by rw [hck] at hneg; simpa using hneg
            have Hk := Lib.hid (hasAll_no hlt hck)
            have Hz := Lib.hid (comC_four Hb.out Hk.out)
            clear hck hneg
            obtain ⟨q, hq⟩ : ∃ q, ixI (shiftL ts 0) (nth is k) = q := ⟨_, rfl⟩
            have Hq := Lib.hid hq
            rw [hq] at hlz hbd
            clear hq
            go_wp2_with fail
            refine (l10Wait_c _ ts (nth is k) 0 _ hI (by omega) hl (by omega)).mono ?_
            rintro e w' ⟨he, rfl⟩
            rw [Hq.out] at he
            subst he
            go_wp2
            go_ret
            exact ⟨ret_int (by rw [Hc.out, Hz.out]), rfl⟩
          · have hlz : ¬ ixI (shiftL ts 0) (nth is k) < 0 := by rw [hck] at hneg; simpa using hneg
            have Hk := Lib.hid hck
            clear hck hneg
            obtain ⟨q, hq⟩ : ∃ q, ixI (shiftL ts 0) (nth is k) = q := ⟨_, rfl⟩
            have Hq := Lib.hid hq
            rw [hq] at hlz hbd
            clear hq
            go_wp2_with fail
            refine (l10Wait_c _ ts (nth is k) 0 _ hI (by omega) hl (by omega)).mono ?_
            rintro e w' ⟨he, rfl⟩
            rw [Hq.out] at he
            subst he
            go_wp2
            go_round
            case rel => exact ⟨k + 1, by omega, by simp, fun j hj => by by_cases e : j = k; (subst e; exact Hk.out); exact Hall.out j (by omega)⟩
            case measure => simp [intOf]; omega
        · obtain rfl : k = is.length := by omega
          have Hk := Lib.hid (comC_zero Hb.out (hasAll_yes Hall.out))
          go_wp2
          go_ret
          exact ⟨ret_int (by rw [Hc.out, Hk.out]), rfl⟩

set_option maxRecDepth 100000 in
set_option maxHeartbeats 4000000 in
theorem l10Sum_c (sv : Value) (ts : List Int) (i j : Int) (w : World) (hI : Ints w.heap.size w sv ts) (h0 : 0 < ts.length) (hl : ts.length ≤ 120) (hi : ts.contains i = true) (hj : ts.contains j = true) :
    Calls Try.prog 66 #[sv, .int .i64 i, .int .i64 j] w fun e w' => e = .returned (.int .i64 (suW ts [i, j] ts.length : Nat)) ∧ w = w' := by
  obtain ⟨a, cap, rfl⟩ := hI.shape
  have Hi := Lib.hid hi
  have Hj := Lib.hid hj
  clear hi hj
  go_enter Try.func66, Try.ntmps66
  go_wp2
  go_loop [7, 8] (fun v n => ∃ k : Nat, k ≤ ts.length ∧ n = .int .i64 k ∧ v = .int .i64 (suW ts [i, j] k : Nat)) (fun _ n => ts.length - (intOf n).toNat)
  case atStart => exact ⟨0, Nat.zero_le _, rfl, rfl⟩
  case round =>
    obtain ⟨k, hk, rfl, rfl⟩ := hrel
    have hb := suW_le2 [i, j] h0 hl hk
    by_cases hlt : k < ts.length
    · have hx := wa_lt [i, j] (s := k) h0 (by omega)
      have Hs := Lib.hid (show suW ts [i, j] (k + 1) = suW ts [i, j] k + wa ts [i, j] k from rfl)
      have hw := wa_two ts i j k
      have h1 := ix_shift (s := k) Hi.out
      have h2 := ix_shift (s := k) Hj.out
      rw [wa_one] at h1 h2
      obtain ⟨p, hp⟩ : ∃ p, iw (shiftL ts k) i = p := ⟨_, rfl⟩
      obtain ⟨q, hq⟩ : ∃ q, iw (shiftL ts k) j = q := ⟨_, rfl⟩
      rw [hp] at h1
      rw [hq] at h2
      rw [hp, hq] at hw
      rw [hw] at hx
      have H1 := Lib.hid h1
      have H2 := Lib.hid h2
      have Hw := Lib.hid hw
      clear h1 h2 hp hq hw
      obtain ⟨u, hu⟩ : ∃ u, suW ts [i, j] k = u := ⟨_, rfl⟩
      have Hu := Lib.hid hu
      rw [hu] at hb
      rw [hu]
      clear hu
      go_wp2_with fail
      refine (l10Wait_c _ ts i k _ hI h0 (by omega) hlt).mono ?_
      rintro e w' ⟨he, rfl⟩
      rw [H1.out] at he
      subst he
      go_wp2_with fail
      refine (l10Wait_c _ ts j k _ hI h0 (by omega) hlt).mono ?_
      rintro e w' ⟨he, rfl⟩
      rw [H2.out] at he
      subst he
      by_cases hpq : p < q
      · go_wp2
        go_round
        case rel => exact ⟨k + 1, by omega, by simp, by rw [Hs.out, Hu.out, Hw.out, Nat.max_eq_right (by omega)]; simp⟩
        case measure => simp [intOf]; omega
      · go_wp2
        go_round
        case rel => exact ⟨k + 1, by omega, by simp, by rw [Hs.out, Hu.out, Hw.out, Nat.max_eq_left (by omega)]; simp⟩
        case measure => simp [intOf]; omega
    · obtain rfl : k = ts.length := by omega
      go_wp2
      go_ret
      exact ⟨rfl, rfl⟩

end Go.Proofs.Ytgndbifcncklgaa
