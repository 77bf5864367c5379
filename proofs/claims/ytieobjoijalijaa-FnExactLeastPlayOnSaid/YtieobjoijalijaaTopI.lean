/-
  IsLasting and CanServe of the program.
  Conditions: lists of at most 1048576 elements.
-/
import Derived.Test.YtieobjoijalijaaTop
namespace Go.Proofs.Ytieobjoijalijaa
open Go.RowKit Go.Shelf Go.Maps
attribute [local go_sem] Oper.semAt_some

open Classical in
noncomputable def isLastR (zs st : List Int) : Bool := if givenC zs st = 0 then decide (Lasting zs st) else false
open Classical in
noncomputable def canR (zs : List Int) : Bool := if fewC zs = 0 then decide (CanL zs) else false
theorem ret_b2' {a a' : Bool} {b b' : Int} (h : a = a') (k : b = b') : Ending.returned (.tuple #[.bool a, .int .i64 b]) = .returned (.tuple #[.bool a', .int .i64 b']) := by rw [h, k]
theorem bytes_st {zs st : List Int} (ht : tasksOk zs = true) (hs : IsSt zs st) : st.length ≤ 8 ∧ ∀ k, k < st.length → 0 ≤ nth st k ∧ nth st k ≤ 255 := by
  have h8 := tasksOk_len ht
  refine ⟨by rw [hs.1]; omega, fun k hk => ?_⟩
  have h1 := hs.2 k (by rw [← hs.1]; exact hk)
  have h2 := tasksOk_nth ht (k := k) (by rw [← hs.1]; exact hk)
  omega

set_option maxRecDepth 100000 in
set_option maxHeartbeats 8000000 in
open Classical in
theorem canBeServed_c (c0 : Value) (zs : List Int) (w : World) (hI : Ints w.heap.size w c0 zs) (ht : tasksOk zs = true) :
    Calls Try.prog 134 #[.agg #[c0]] w fun e w' => e = .returned (.bool (decide (CanL zs))) ∧ Below w.heap.size w w' := by
  obtain ⟨a, cap, rfl⟩ := hI.shape
  have hB0 : Below w.heap.size w (w.alloc (.cells #[.slice a zs.length cap] 28)) := (Below.refl _ w).alloc (Nat.le_refl _) _
  go_enter Try.func134, Try.ntmps134
  go_wp2_with fail
  refine (outlookOf_c _ zs _ (hI.later hB0) ht).mono ?_
  rintro e w1 ⟨bO, m, rfl, hO, hM, hbo, hbm, hb⟩
  have hB1 := hB0.trans (hb.mono hB0.size)
  have hG := Good.new ht hO hM
  have kF0 : w1.cell? ⟨bO, 1, none⟩ = some (.int .u8 (nth zs 0)) := by have := hO.full (i := 0) (by omega); simpa using this
  have kF1 : w1.cell? ⟨bO, 2, none⟩ = some (.int .u8 (nth zs 1)) := by have := hO.full (i := 1) (by omega); simpa using this
  have kF2 : w1.cell? ⟨bO, 3, none⟩ = some (.int .u8 (nth zs 2)) := by have := hO.full (i := 2) (by omega); simpa using this
  have kF3 : w1.cell? ⟨bO, 4, none⟩ = some (.int .u8 (nth zs 3)) := by have := hO.full (i := 3) (by omega); simpa using this
  have kF4 : w1.cell? ⟨bO, 5, none⟩ = some (.int .u8 (nth zs 4)) := by have := hO.full (i := 4) (by omega); simpa using this
  have kF5 : w1.cell? ⟨bO, 6, none⟩ = some (.int .u8 (nth zs 5)) := by have := hO.full (i := 5) (by omega); simpa using this
  have kF6 : w1.cell? ⟨bO, 7, none⟩ = some (.int .u8 (nth zs 6)) := by have := hO.full (i := 6) (by omega); simpa using this
  have kF7 : w1.cell? ⟨bO, 8, none⟩ = some (.int .u8 (nth zs 7)) := by have := hO.full (i := 7) (by omega); simpa using this
  go_wp2_with fail
  refine (lasts_good ht hG (isSt_full (pos_of ht))).mono ?_
  rintro e w2 ⟨rfl, hG2, hg⟩
  go_wp2
  go_ret
  simp at hbm
  exact ⟨rfl, hB1.grown hg hB1.size (fun j e => by cases e; omega)⟩

end Go.Proofs.Ytieobjoijalijaa
