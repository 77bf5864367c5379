/-
  The texts of slots as keys of a map: what the map of numbers by texts knows.
  Conditions: none.
-/
import Derived.Maps.OwnIn
import Derived.Maps.OwnSet
import Derived.Maps.Views
import Derived.Test.YtjgkdjnpbocnjaaTextS
namespace Go.Proofs.Ytjgkdjnpbocnjaa
open Go.RowKit Go.Shelf Go.Maps
attribute [local go_sem] Oper.semAt_some

theorem lawS1 : Keyed Try.prog 9 := string_keyed Try.underlying9
def lkey (c : UInt8) : Lit := .string [c]
theorem keyL (s : ByteArray) (c : UInt8) (h : s.data.toList = [c]) : keyOf Try.prog 9 (.string s) = some (lkey c) := by
  rw [WideMaps.keyOf_string_mk Try.underlying9 (by
    have : s.data.size = 1 := by rw [← Array.length_toList, h]; rfl
    show s.data.size ≤ maxLen
    unfold maxLen; omega), h]
  rfl
/-- the number of a byte, if a slot can have it -/
def letN (c : UInt8) : Option Int := if c = 46 then some (-1) else if 97 ≤ c.toNat ∧ c.toNat ≤ 104 then some ((c.toNat : Int) - 97) else none
theorem letN_letB {j : Nat} (h : j < 9) : letN (letB ((j : Int) - 1)) = some ((j : Int) - 1) := by
  obtain rfl | rfl | rfl | rfl | rfl | rfl | rfl | rfl | rfl : j = 0 ∨ j = 1 ∨ j = 2 ∨ j = 3 ∨ j = 4 ∨ j = 5 ∨ j = 6 ∨ j = 7 ∨ j = 8 := by omega
  all_goals decide
theorem letB_all {c : UInt8} {x : Int} (h : letN c = some x) : ∃ j : Nat, j < 9 ∧ x = (j : Int) - 1 ∧ letB ((j : Int) - 1) = c := by
  unfold letN at h
  split at h
  · rename_i e; subst e; simp at h; exact ⟨0, by omega, by omega, by decide⟩
  · split at h
    · rename_i h2
      simp at h
      refine ⟨c.toNat - 96, by omega, by omega, ?_⟩
      unfold letB
      rw [if_neg (by omega)]
      have : 97 + (((c.toNat - 96 : Nat) : Int) - 1).toNat = c.toNat := by omega
      rw [this]; simp
    · cases h
/-- the map in the block m behind k letters -/
def NMap (W : World) (m k : Nat) : Prop := ∃ D : DataW Unit, W.ownsMap Try.prog 9 (plainElem Try.prog 2) m k D ∧ (∀ c, Maps.has D (lkey c) = true ↔ ∃ j : Nat, j < k ∧ letB ((j : Int) - 1) = c) ∧ ∀ j : Nat, j < k → ∀ z, D.atKey (lkey (letB ((j : Int) - 1))) z = .lit (.int .i64 ((j : Int) - 1))
theorem NMap.new {W : World} {m : Nat} (h : W.heap[m]? = some (.map #[] 0)) : NMap W m 0 := by
  have h0 := World.ownsMap_made (H := Unit) W Try.prog 9 (plainElem Try.prog 2)
  obtain ⟨es, clock, h1, h2⟩ := h0
  have h3 := World.alloc_heap_new W (.map #[] 0)
  rw [h3] at h1
  obtain ⟨rfl, rfl⟩ : #[] = es ∧ 0 = clock := by simpa using h1
  exact ⟨.map [], ⟨_, _, h, h2⟩, fun c => by simp [Maps.has], fun j hj => by omega⟩
theorem NMap.kept {W W' : World} {row : Option Nat} {m k : Nat} (h : NMap W m k) (hg : W.grownBy W' row) (hne : some m ≠ row) : NMap W' m k := by
  obtain ⟨D, h, r⟩ := h; exact ⟨D, h.kept hg hne, r⟩
theorem NMap.below {n : Nat} {W W' : World} {m k : Nat} (h : NMap W m k) (hb : Below n W W') (hn : m < n) : NMap W' m k := by
  obtain ⟨D, ⟨es, clock, h1, h2⟩, r⟩ := h
  exact ⟨D, ⟨es, clock, (hb.block m hn).trans h1, h2⟩, r⟩
theorem NMap.lt {W : World} {m k : Nat} (h : NMap W m k) : m < W.heap.size := by obtain ⟨D, h, _⟩ := h; exact h.lt
theorem wf_small {x : Int} (h : -1 ≤ x ∧ x ≤ 40) : (Lit.int .i64 x).wf = true := by simp [Lit.wf, IntKind.min, IntKind.max, IntKind.signed, IntKind.bits]; omega
theorem NMap.put {w : World} {m k : Nat} (h : NMap w m k) (hk : k < 9) :
    ∃ w', (Instr.mapUpdate 57 (.map (some m)) (.string (letT ((k : Int) - 1))) (.int .i64 ((k : Int) - 1))).run Try.prog w = .ok () w' ∧ NMap w' m (k + 1) ∧ w.grownBy w' (some m) := by
  obtain ⟨D, hown, h1, h2⟩ := h
  have hkey := keyL (letT ((k : Int) - 1)) (letB ((k : Int) - 1)) rfl
  have hkl := lawS1.key hkey
  obtain ⟨w', hrun, r1, r2⟩ := hown.update lawS1 Try.underlying57 (by unfold maxLen; omega) hkey (plainElem_int Try.underlying2 (wf_small (x := (k : Int) - 1) (by omega)))
  have hinj : ∀ j : Nat, j < k → letB ((j : Int) - 1) ≠ letB ((k : Int) - 1) := fun j hj e => by
    have e1 := letN_letB (j := j) (by omega)
    rw [e, letN_letB hk] at e1
    simp at e1; omega
  have hne : ∀ {a b : UInt8}, a ≠ b → lkey a ≠ lkey b := fun h e => h (by unfold lkey at e; simpa using e)
  refine ⟨w', hrun, ⟨_, r1, fun c => ?_, fun j hj z => ?_⟩, r2⟩
  · by_cases e : c = letB ((k : Int) - 1)
    · subst e
      rw [Maps.has_put_same hown.isMap hkl]
      exact ⟨fun _ => ⟨k, by omega, rfl⟩, fun _ => rfl⟩
    · rw [Maps.has_put_other (hne e), h1]
      constructor
      · rintro ⟨j, hj, he⟩; exact ⟨j, by omega, he⟩
      · rintro ⟨j, hj, he⟩
        by_cases ej : j = k
        · subst ej; exact absurd he.symm e
        · exact ⟨j, by omega, he⟩
  · by_cases ej : j = k
    · subst ej; rw [Maps.atKey_put_same hown.isMap hkl]
    · rw [Maps.atKey_put_other (hne (hinj j (by omega)))]; exact h2 j (by omega) z
theorem zeroI64 (w : World) : (zeroValue 2).run Try.prog w = .ok (.int .i64 0) w := by kernel_rfl
/-- 'who, known := numbers[..]' -/
theorem NMap.look {w : World} {m : Nat} (h : NMap w m 9) (s : ByteArray) (c : UInt8) (hs : s.data.toList = [c]) :
    (Instr.lookup 57 (.map (some m)) (.string s) true).run Try.prog w = .ok (.tuple #[.int .i64 ((letN c).getD 0), .bool (letN c).isSome]) w := by
  obtain ⟨D, hown, h1, h2⟩ := h
  obtain ⟨v, ps, hrun, hv⟩ := hown.look_ok lawS1 Try.underlying57 (zeroI64 w) (plainElem_int Try.underlying2 (wf_small (x := 0) (by omega))) (keyL s c hs)
  rw [hrun]
  cases e : letN c with
  | none =>
    have hh : Maps.has D (lkey c) = false := by
      cases e2 : Maps.has D (lkey c)
      · rfl
      · obtain ⟨j, hj, he⟩ := (h1 c).1 e2
        rw [← he, letN_letB hj] at e; cases e
    rw [Maps.atKey_of_not_has hh] at hv
    obtain ⟨a, rfl, ha, _⟩ := plainElem_int_inv Try.underlying2 hv
    simp at ha
    rw [hh, ha.1]; rfl
  | some x =>
    obtain ⟨j, hj, rfl, he⟩ := letB_all e
    have hh := (h1 c).2 ⟨j, hj, he⟩
    have ha := h2 j hj (.lit (.int .i64 0))
    rw [he] at ha
    rw [ha] at hv
    obtain ⟨a, rfl, ha2, _⟩ := plainElem_int_inv Try.underlying2 hv
    simp at ha2
    rw [hh, ← ha2.1]; rfl

set_option maxRecDepth 100000 in
set_option maxHeartbeats 4000000 in
theorem numbersByText_c (w : World) : Calls Try.prog 42 #[] w fun e w' => ∃ m, e = .returned (.map (some m)) ∧ NMap w' m 9 ∧ w.heap.size ≤ m ∧ Below w.heap.size w w' := by
  have hmk : ∀ w, (Instr.makeMap 57 none).run Try.prog w = .ok (.map (some w.heap.size)) (w.alloc (.map #[] 0)) := fun _ => rfl
  go_enter Try.func42, Try.ntmps42
  go_wp2_with fail
  have hM0 := NMap.new (World.alloc_heap_new w (.map #[] 0))
  have hB0 := (Below.refl _ w).alloc (Nat.le_refl _) (.map #[] 0)
  go_loopw [2] (fun i wr => ∃ k : Nat, k ≤ 9 ∧ i = .int .i64 ((k : Int) - 1) ∧ NMap wr w.heap.size k ∧ Below w.heap.size w wr) (fun i _ => (8 - intOf i).toNat)
  case atStart => exact ⟨0, by omega, rfl, hM0, hB0⟩
  case round =>
    obtain ⟨k, hk, rfl, hM, hB⟩ := hrel
    clear hM0 hB0
    by_cases hlt : k < 9
    · obtain ⟨w2, hrun, hM2, hg⟩ := hM.put hlt
      have hB2 : Below w.heap.size w w2 := hB.grown hg hB.size (fun j e => by cases e; exact Nat.le_refl _)
      go_wp2_with fail
      refine (letterOf_c _ _ (by omega) (by omega)).mono ?_
      rintro e w1 ⟨rfl, rfl⟩
      go_wp2
      go_roundw
      case rel => exact ⟨k + 1, by omega, by congr 1; omega, hM2, hB2⟩
      case measure => simp [intOf]; omega
    · obtain rfl : k = 9 := by omega
      go_wp2
      go_ret
      exact ⟨_, rfl, hM, Nat.le_refl _, hB⟩

end Go.Proofs.Ytjgkdjnpbocnjaa
