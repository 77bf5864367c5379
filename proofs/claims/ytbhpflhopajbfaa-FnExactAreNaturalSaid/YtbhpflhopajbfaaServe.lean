/-
  DoServe: the program's turnsServe, the model's l01Serves; DoServe of both.
  Conditions: lists of at most 1048576 elements.
-/
import Derived.Test.YtbhpflhopajbfaaWaitsI
namespace Go.Proofs.Ytbhpflhopajbfaa
open Go.RowKit Go.Shelf
attribute [local go_sem] Oper.semAt_some

/-- the first k tasks are served -/
def servesTo (zs ts : List Int) (k : Nat) : Bool := (List.range k).all fun (j : Nat) => inB (greatW ts (j : Int)) 1 (nth zs j)
theorem servesTo_succ (zs ts : List Int) (k : Nat) : servesTo zs ts (k + 1) = (servesTo zs ts k && inB (greatW ts (k : Int)) 1 (nth zs k)) := by
  simp [servesTo, List.range_succ]
theorem servesTo_false {zs ts : List Int} {k n : Nat} (hk : k < n) (h : inB (greatW ts (k : Int)) 1 (nth zs k) = false) : servesTo zs ts n = false := by
  unfold servesTo; rw [List.all_eq_false]; exact ⟨k, by simpa using hk, by simp [h]⟩
def serves (zs ts : List Int) : Bool := servesTo zs ts zs.length
theorem greatW_bd (ts : List Int) (i : Int) : 0 ≤ greatW ts i := (maxTo_ge _).1
theorem waitsL_bd {ts : List Int} {i x : Int} (h : x ∈ waitsL ts i) : -(ts.length : Int) ≤ x ∧ x ≤ ts.length + ts.length := by
  unfold waitsL at h
  split at h
  · simp at h
  · rename_i h0
    rcases List.mem_append.1 h with h | h
    · simp only [diffs, List.mem_map, List.mem_range] at h
      obtain ⟨j, hj, rfl⟩ := h
      have := slotN_lt (zs := ts) (i := i) (c := j + 1) (by omega)
      have := slotN_lt (zs := ts) (i := i) (c := j) (by omega)
      omega
    · simp at h
      have := slotN_lt (zs := ts) (i := i) (c := 0) (by omega)
      have := slotN_lt (zs := ts) (i := i) (c := (slotsL ts i).length - 1) (by omega)
      omega
theorem greatW_le (ts : List Int) (i : Int) : greatW ts i ≤ ts.length + ts.length := by
  suffices h : ∀ (l : List Int) (a b : Int), a ≤ b → (∀ x ∈ l, x ≤ b) → l.foldl max a ≤ b from h _ 0 _ (by omega) (fun x hx => (waitsL_bd hx).2)
  intro l
  induction l with
  | nil => intro a b h _; exact h
  | cons y l ih => intro a b h hb; exact ih _ _ (by have := hb y (by simp); omega) (fun x hx => hb x (by simp [hx]))

/-! ### DoServe -/
def serveR (zs ts : List Int) : Bool := if codeOf zs ts = 0 then serves zs ts else false
theorem ret_b2 {a b : Bool} {c d : Int} (h : a = b) (k : c = d) : Ending.returned (.tuple #[.bool a, .int .i64 c]) = .returned (.tuple #[.bool b, .int .i64 d]) := by rw [h, k]

end Go.Proofs.Ytbhpflhopajbfaa
