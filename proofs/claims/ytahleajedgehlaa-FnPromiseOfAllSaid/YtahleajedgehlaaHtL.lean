/-
  Lessened gaps are harmonic, and gaps of tasks (no program).
-/
import Derived.Test.YtahleajedgehlaaHtM
import Derived.Test.YtahleajedgehlaaLesI
namespace Go.Proofs.Ytahleajedgehlaa
open Go.RowKit Go.Shelf

theorem dblF_pow (n : Nat) (o g : Int) : ∃ k : Nat, dblF n o g = o * (2 ^ k : Nat) := by
  induction n generalizing o with
  | zero => exact ⟨0, by simp [dblF]⟩
  | succ n ih =>
    unfold dblF
    split
    · obtain ⟨k, e⟩ := ih (2 * o)
      refine ⟨k + 1, ?_⟩
      rw [e, Nat.pow_succ]
      push_cast
      rw [Int.mul_comm 2 o, Int.mul_assoc, Int.mul_comm 2]
    · exact ⟨0, by simp⟩
theorem les_harmP (x a b : Int) : harmP (les x a) (les x b) = true := by
  unfold harmP les
  obtain ⟨m, e1⟩ := dblF_pow 64 x a
  obtain ⟨n, e2⟩ := dblF_pow 64 x b
  rw [e1, e2, Bool.or_eq_true]
  by_cases h : m ≤ n
  · left
    have : x * ((2 ^ m : Nat) : Int) ∣ x * ((2 ^ n : Nat) : Int) := Int.mul_dvd_mul_left x (Int.natCast_dvd_natCast.2 (Nat.pow_dvd_pow 2 h))
    exact beq_iff_eq.2 (Int.emod_eq_zero_of_dvd this)
  · right
    have : x * ((2 ^ n : Nat) : Int) ∣ x * ((2 ^ m : Nat) : Int) := Int.mul_dvd_mul_left x (Int.natCast_dvd_natCast.2 (Nat.pow_dvd_pow 2 (by omega)))
    exact beq_iff_eq.2 (Int.emod_eq_zero_of_dvd this)
theorem nth_lesTo {x : Int} {zs : List Int} {k m : Nat} (h : m < k) : nth (lesTo x zs k) m = les x (nth zs m) := by simp [nth, lesTo, h]
theorem lesTo_harm (x : Int) (zs : List Int) (k : Nat) : harmB (lesTo x zs k) = true := harmB_true.2 fun i j hi hj => by
  rw [lesTo_length] at hi
  rw [nth_lesTo hi, nth_lesTo (by omega)]
  exact les_harmP _ _ _
theorem lesTo_tasks {x : Int} {zs : List Int} (h : tasksOk zs = true) (hx : 1 ≤ x) (hl : ∀ m, m < zs.length → x ≤ nth zs m) : tasksOk (lesTo x zs zs.length) = true := by
  have hn := tasksOk_len h
  unfold tasksOk
  rw [Bool.and_eq_true, List.all_eq_true]
  refine ⟨fun z hz => ?_, by rw [lesTo_length]; exact inB_true.2 ⟨by omega, by omega⟩⟩
  unfold lesTo at hz
  obtain ⟨j, hj, rfl⟩ := List.mem_map.1 hz
  simp at hj
  have h1 := tasksOk_nth h hj
  have h2 := hl j hj
  have h3 := dblF_le (n := 64) hx h2
  unfold les
  exact inB_true.2 ⟨by omega, by omega⟩
theorem harmT_length {zs l : List Int} (ht : tasksOk zs = true) (h : harmT zs = some l) : l.length ≤ 40 := by
  have hl := tasksOk_len ht
  have := sortV_pos (zs := zs) (fun k hk => tasksOk_nth ht hk) (m := zs.length - 1) (by omega)
  unfold harmT at h
  rw [harmTo_length h]
  omega

/-! ### the answers -/
/-- the harmonic turns of gaps lessened to x, or none -/
def powT (zs : List Int) (x : Int) : Option (List Int) := harmT (lesTo x zs zs.length)
def powC (zs : List Int) (x : Int) : Int := match powT zs x with | some _ => 0 | none => 4
def powL (zs : List Int) (x : Int) : List Int := (powT zs x).getD []
def tbpC (zs : List Int) : Int := if tasksOk zs then powC zs 1 else 1
def tbpR (zs : List Int) : List Int := if tasksOk zs then powL zs 1 else []
/-- the least number from x on, up to the least gap, by which lessened gaps have harmonic turns -/
def oneX (zs : List Int) : Nat → Int → Option Int
  | 0, _ => none
  | n + 1, x => if x ≤ leastL zs then (match powT zs x with | some _ => some x | none => oneX zs n (x + 1)) else none
theorem oneX_stop {zs : List Int} {n : Nat} {x : Int} (h : ¬ x ≤ leastL zs) : oneX zs n x = none := by cases n <;> simp [oneX, h]
theorem oneX_none {zs : List Int} {n : Nat} {x : Int} (h : x ≤ leastL zs) (e : powT zs x = none) : oneX zs (n + 1) x = oneX zs n (x + 1) := by simp [oneX, h, e]
theorem oneX_some {zs l : List Int} {n : Nat} {x : Int} (h : x ≤ leastL zs) (e : powT zs x = some l) : oneX zs (n + 1) x = some x := by simp [oneX, h, e]
def oneO (zs : List Int) : Option Int := if tasksOk zs then oneX zs 41 1 else none
def oneC (zs : List Int) : Int := if tasksOk zs then (match oneX zs 41 1 with | some _ => 0 | none => 4) else 1
def oneV (zs : List Int) : Int := (oneO zs).getD 0
def oneR (zs : List Int) : List Int := match oneO zs with | some x => powL zs x | none => []
theorem oneX_bd {zs : List Int} {n : Nat} {x y : Int} (h : oneX zs n x = some y) : x ≤ y ∧ y ≤ leastL zs := by
  induction n generalizing x with
  | zero => simp [oneX] at h
  | succ n ih =>
    unfold oneX at h
    split at h
    · split at h
      · simp at h; omega
      · have := ih h; omega
    · cases h
theorem one_none {zs : List Int} (ht : tasksOk zs = true) (h : oneX zs 41 1 = none) : oneC zs = 4 ∧ oneV zs = 0 ∧ oneR zs = [] := by
  unfold oneC oneV oneR oneO; simp [ht, h]
theorem one_some {zs : List Int} {x : Int} (ht : tasksOk zs = true) (h : oneX zs 41 1 = some x) : oneC zs = 0 ∧ oneV zs = x ∧ oneR zs = powL zs x := by
  unfold oneC oneV oneR oneO; simp [ht, h]
theorem one_no {zs : List Int} (ht : tasksOk zs = false) : oneC zs = 1 ∧ oneV zs = 0 ∧ oneR zs = [] := by
  unfold oneC oneV oneR oneO; simp [ht]
theorem leastL_40 {zs : List Int} (ht : tasksOk zs = true) : 1 ≤ leastL zs ∧ leastL zs ≤ 40 := by
  obtain ⟨j, hj, e⟩ := leastL_mem (zs := zs) (by have := tasksOk_len ht; omega)
  rw [e]; exact tasksOk_nth ht hj
theorem leastL_all {zs : List Int} {x : Int} (h : x ≤ leastL zs) : ∀ m, m < zs.length → x ≤ nth zs m := fun m hm => by have := leastL_le hm; omega

end Go.Proofs.Ytahleajedgehlaa
