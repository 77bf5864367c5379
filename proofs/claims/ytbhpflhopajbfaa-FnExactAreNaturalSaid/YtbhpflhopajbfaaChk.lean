/-
  The contracts of the tests for tasks and turns: the program's IsTasks, areTurns, checkTurnsFor; the model's l01In, l01K, l01Is, l01Turns, l01Code, IsTasks.
  Conditions: each slice takes at most 140737488351232 bytes.
-/
import Derived.Test.YtbhpflhopajbfaaHelp
namespace Go.Proofs.Ytbhpflhopajbfaa
open Go.RowKit Go.Shelf
attribute [local go_sem] Oper.semAt_some

def inB (z a b : Int) : Bool := decide (a ≤ z ∧ z ≤ b)
theorem inB_true {z a b : Int} : inB z a b = true ↔ a ≤ z ∧ z ≤ b := by simp [inB]
theorem inB_false {z a b : Int} : inB z a b = false ↔ z < a ∨ b < z := by simp [inB]; omega
/-- are these the gaps of tasks? -/
def tasksOk (zs : List Int) : Bool := zs.all (fun z => inB z 1 40) && inB zs.length 1 8
/-- are these turns of k tasks? -/
def turnsOk (ts : List Int) (k : Int) : Bool := ts.all (fun z => inB z (-1) (k - 1)) && inB ts.length 1 120
/-- the code of tasks and turns of them -/
def codeOf (zs ts : List Int) : Int := if tasksOk zs then if turnsOk ts zs.length then 0 else 2 else 1

theorem l01In_d (d : Bool) (z a b : Int) (w : World) (hd : inB z a b = d) :
    Calls Try.prog 87 #[.int .i64 z, .int .i64 a, .int .i64 b] w fun e w' => e = .returned (.bool d) ∧ w = w' := by
  cases d
  · rw [inB_false] at hd
    by_cases h : z < a
    · go_enter Try.func87, Try.ntmps87
      go_wp2
      go_ret
      exact ⟨rfl, rfl⟩
    · have h2 : b < z := by omega
      clear hd
      go_enter Try.func87, Try.ntmps87
      go_wp2
      go_ret
      exact ⟨ret_bool (decide_eq_false (by omega)), rfl⟩
  · rw [inB_true] at hd
    obtain ⟨h1, h2⟩ := hd
    go_enter Try.func87, Try.ntmps87
    go_wp2
    go_ret
    exact ⟨rfl, rfl⟩

theorem l01K_c (a : Option Addr) (n cap : Nat) (w : World) :
    Calls Try.prog 125 #[.agg #[.slice a n cap]] w fun e w' => e = .returned (.int .i64 n) ∧ w' = w.alloc (.cells #[.slice a n cap] 28) := by
  go_enter Try.func125, Try.ntmps125
  go_wp2
  go_ret
  exact ⟨rfl, rfl⟩

theorem all_false_of {zs : List Int} {p : Int → Bool} {k : Nat} (hk : k < zs.length) (h : p (nth zs k) = false) : zs.all p = false := by
  rw [List.all_eq_false]; exact ⟨_, nth_mem hk, by simp [h]⟩
theorem all_true_of {zs : List Int} {p : Int → Bool} (h : ∀ j, j < zs.length → p (nth zs j) = true) : zs.all p = true := by
  rw [List.all_eq_true]; intro z hz
  obtain ⟨j, hj, rfl⟩ := List.getElem_of_mem hz
  rw [← nth_lt hj]; exact h j hj

set_option maxRecDepth 100000 in
set_option maxHeartbeats 1000000 in
theorem l01Is_c (sv : Value) (zs : List Int) (w : World) (hI : Ints w.heap.size w sv zs) (hl : zs.length * 8 ≤ 140737488351232) :
    Calls Try.prog 117 #[.agg #[sv]] w fun e w' => e = .returned (.bool (tasksOk zs)) ∧ Below w.heap.size w w' := by
  obtain ⟨a, cap, rfl⟩ := hI.shape
  have hB0 : Below w.heap.size w (w.alloc (.cells #[.slice a zs.length cap] 28)) := (Below.refl _ w).alloc (Nat.le_refl _) _
  go_enter Try.func117, Try.ntmps117
  go_wp2
  go_loop [3] (fun i => ∃ k : Nat, k ≤ zs.length ∧ i = .int .i64 k ∧ (∀ j, j < k → inB (nth zs j) 1 40 = true)) (fun i => zs.length - (intOf i).toNat)
  case atStart => exact ⟨0, Nat.zero_le _, rfl, by simp⟩
  case round =>
    obtain ⟨k, hk, rfl, hall⟩ := hrel
    by_cases hlt : k < zs.length
    · obtain ⟨b, off, rfl, hb, hc⟩ := (hI.below hB0).at_ hlt
      have hcx := hc k hlt
      clear hc
      by_cases he : inB (nth zs k) 1 40 = true
      · have He := Lib.hid he
        clear he
        go_wp2_with (go_at_call 87; refine (l01In_d true _ _ _ _ He.out).mono ?_; rintro e w' ⟨rfl, rfl⟩)
        go_round
        case rel => exact ⟨k + 1, by omega, by simp, fun j hj => by by_cases e : j = k; exact e ▸ He.out; exact hall j (by omega)⟩
        case measure => simp [intOf]; omega
      · have he' : inB (nth zs k) 1 40 = false := by simpa using he
        have He := Lib.hid he'
        clear he he'
        go_wp2_with (go_at_call 87; refine (l01In_d false _ _ _ _ He.out).mono ?_; rintro e w' ⟨rfl, rfl⟩)
        go_ret
        exact ⟨ret_bool (by unfold tasksOk; rw [all_false_of hlt He.out]; rfl), hB0⟩
    · obtain rfl : k = zs.length := by omega
      go_wp2_with fail
      refine (l01K_c _ _ _ _).mono ?_
      rintro e w' ⟨rfl, rfl⟩
      go_wp2_with fail
      refine (l01In_d _ _ _ _ _ rfl).mono ?_
      rintro e w' ⟨rfl, rfl⟩
      go_wp2
      go_ret
      exact ⟨ret_bool (by unfold tasksOk; rw [all_true_of hall]; rfl), hB0.trans ((Below.refl _ _).alloc (by simp) _)⟩

set_option maxRecDepth 100000 in
set_option maxHeartbeats 1000000 in
theorem l01Turns_c (sv : Value) (zs : List Int) (n : Int) (w : World) (hI : Ints w.heap.size w sv zs) (hl : zs.length * 8 ≤ 140737488351232) (h0 : 0 ≤ n) (h1 : n ≤ 140737488351232) :
    Calls Try.prog 118 #[sv, .int .i64 n] w fun e w' => e = .returned (.bool (turnsOk zs n)) ∧ w = w' := by
  obtain ⟨a, cap, rfl⟩ := hI.shape
  go_enter Try.func118, Try.ntmps118
  go_wp2
  go_loop [5] (fun i => ∃ k : Nat, k ≤ zs.length ∧ i = .int .i64 k ∧ (∀ j, j < k → inB (nth zs j) (-1) (n - 1) = true)) (fun i => zs.length - (intOf i).toNat)
  case atStart => exact ⟨0, Nat.zero_le _, rfl, by simp⟩
  case round =>
    obtain ⟨k, hk, rfl, hall⟩ := hrel
    by_cases hlt : k < zs.length
    · obtain ⟨b, off, rfl, hb, hc⟩ := hI.at_ hlt
      have hcx := hc k hlt
      clear hc
      by_cases he : inB (nth zs k) (-1) (n - 1) = true
      · have He := Lib.hid he
        clear he
        go_wp2_with (go_at_call 87; refine (l01In_d true _ _ _ _ He.out).mono ?_; rintro e w' ⟨rfl, rfl⟩)
        go_round
        case rel => exact ⟨k + 1, by omega, by simp, fun j hj => by by_cases e : j = k; exact e ▸ He.out; exact hall j (by omega)⟩
        case measure => simp [intOf]; omega
      · have he' : inB (nth zs k) (-1) (n - 1) = false := by simpa using he
        have He := Lib.hid he'
        clear he he'
        go_wp2_with (go_at_call 87; refine (l01In_d false _ _ _ _ He.out).mono ?_; rintro e w' ⟨rfl, rfl⟩)
        go_ret
        exact ⟨ret_bool (by unfold turnsOk; rw [all_false_of hlt He.out]; rfl), rfl⟩
    · obtain rfl : k = zs.length := by omega
      go_wp2_with fail
      refine (l01In_d _ _ _ _ _ rfl).mono ?_
      rintro e w' ⟨rfl, rfl⟩
      go_wp2
      go_ret
      exact ⟨ret_bool (by unfold turnsOk; rw [all_true_of hall]; rfl), rfl⟩

end Go.Proofs.Ytbhpflhopajbfaa
