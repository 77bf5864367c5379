/-
  ParseTurns of the program.
  Conditions: texts of at most 1048576 bytes.
-/
import Derived.Test.YtjgkdjnpbocnjaaPrs
namespace Go.Proofs.Ytjgkdjnpbocnjaa
open Go.RowKit Go.Shelf Go.Maps
attribute [local go_sem] Oper.semAt_some

/-- byte k of a text -/
def bat (s : ByteArray) (k : Nat) : UInt8 := s.data.toList[k]?.getD 0
def numOf (c : UInt8) : Int := (letN c).getD 0
def prsTo (s : ByteArray) (k : Nat) : List Int := (List.range k).map fun m => numOf (bat s m)
def knownTo (s : ByteArray) (k : Nat) : Bool := (List.range k).all fun m => (letN (bat s m)).isSome
def prsOk (s : ByteArray) : Bool := inB s.size 1 120 && knownTo s s.size
def prsR (s : ByteArray) : List Int := if prsOk s then prsTo s s.size else []
def prsC (s : ByteArray) : Int := if prsOk s then 0 else 6
theorem prsTo_length (s : ByteArray) (k : Nat) : (prsTo s k).length = k := by simp [prsTo]
theorem prsTo_succ (s : ByteArray) (k : Nat) : prsTo s (k + 1) = prsTo s k ++ [numOf (bat s k)] := by simp [prsTo, List.range_succ]
theorem knownTo_succ {s : ByteArray} {k : Nat} (h : knownTo s k = true) (hk : (letN (bat s k)).isSome = true) : knownTo s (k + 1) = true := by
  unfold knownTo at h ⊢; rw [List.range_succ, List.all_append, h]; simp [hk]
theorem knownTo_no {s : ByteArray} {k n : Nat} (hk : k < n) (h : (letN (bat s k)).isSome = false) : knownTo s n = false := by
  unfold knownTo; rw [List.all_eq_false]; exact ⟨k, by simpa using hk, by simp [h]⟩
theorem prsR_len (s : ByteArray) : (prsR s).length * 8 ≤ 140737488351232 := by
  unfold prsR
  split
  · rename_i h
    unfold prsOk at h
    rw [Bool.and_eq_true, inB_true] at h
    rw [prsTo_length]; omega
  · simp
theorem numOf_bd (c : UInt8) : -1 ≤ numOf c ∧ numOf c ≤ 7 := by
  unfold numOf letN
  split
  · simp
  · split
    · simp; omega
    · simp

theorem run_slice1 (s : ByteArray) (k : Nat) (h : k < s.size) (w : World) : ∃ s', (Instr.slice 9 (.string s) (some (.int .i64 (k : Int))) (some (.int .i64 ((k : Int) + 1))) none).run Try.prog w = .ok (.string s') w ∧ s'.data.toList = [bat s k] := by
  refine ⟨s.extract k (k + 1), ?_, ?_⟩
  · have := run_slice_string (P := Try.prog) w 9 s .i64 .i64 (k : Int) ((k : Int) + 1) Try.underlying9 (by omega) (by omega) (by omega)
    simpa using this
  · have hl : k < s.data.toList.length := by rw [Array.length_toList]; exact h
    rw [ByteArray.data_extract, Array.toList_extract]
    unfold bat
    rw [List.getElem?_eq_getElem hl]
    simp only [List.extract_eq_take_drop, Nat.add_sub_cancel_left, Option.getD_some]
    rw [List.take_one, List.head?_drop, List.getElem?_eq_getElem hl]
    rfl

set_option maxRecDepth 100000 in
set_option maxHeartbeats 4000000 in
theorem i_ParseTurns (s : ByteArray) (w : World) (hm : s.size ≤ 1048576) :
    Calls Try.prog 18 #[.string s] w (GivesI w (prsR s) fun v => .tuple #[v, .int .i64 (prsC s)]) := by
  obtain ⟨i0, hi, hz0, hz1, hz2⟩ := info_parts Try.infoI2
  go_enter Try.func18, Try.ntmps18
  by_cases h1 : s.size < 1
  · have Hok := Lib.hid (show prsOk s = false by unfold prsOk; rw [show inB (s.size : Int) 1 120 = false by rw [inB_false]; omega]; rfl)
    go_wp2
    go_ret2
    exact ⟨_, by unfold prsC; rw [Hok.out]; rfl, by unfold prsR; rw [Hok.out]; exact ownI_nil _ _, Below.refl _ _⟩
  by_cases h2 : 120 < s.size
  · have Hok := Lib.hid (show prsOk s = false by unfold prsOk; rw [show inB (s.size : Int) 1 120 = false by rw [inB_false]; omega]; rfl)
    go_wp2
    go_ret2
    exact ⟨_, by unfold prsC; rw [Hok.out]; rfl, by unfold prsR; rw [Hok.out]; exact ownI_nil _ _, Below.refl _ _⟩
  have Hin := Lib.hid (show inB (s.size : Int) 1 120 = true from inB_true.2 (by omega))
  go_wp2_with fail
  refine (numbersByText_c _).mono ?_
  rintro e w1 ⟨m, rfl, hM, hm1, hB1⟩
  go_wp2_with fail
  have hml := hM.lt
  have hs1 := hB1.size
  go_loopw [5, 20] (fun v i wr => ∃ k : Nat, k ≤ s.size ∧ i = .int .i64 k ∧ OwnI w1.heap.size wr v (prsTo s k) ∧ knownTo s k = true ∧ NMap wr m 9 ∧ Below w.heap.size w wr ∧ w1.heap.size ≤ wr.heap.size) (fun _ i _ => s.size - (intOf i).toNat)
  case atStart => exact ⟨0, Nat.zero_le _, rfl, ownI_nil _ _, rfl, hM, hB1, Nat.le_refl _⟩
  case round =>
    obtain ⟨k, hk, rfl, ho, hkn, hM2, hB, hsw⟩ := hrel
    have Hkn := Lib.hid hkn
    clear hM hB1 hkn
    by_cases hlt : k < s.size
    · have hrow : wr.ownsRow w1.heap.size 2 1 u5 k ((prsTo s k).map (.int .i64)) := by have h := ho; unfold OwnI at h; rwa [prsTo_length] at h
      have hbk := ho.blk
      obtain ⟨s', hsl, hs'⟩ := run_slice1 s k hlt wr
      have hlk := hM2.look s' (bat s k) hs'
      have hnb := numOf_bd (bat s k)
      have Hs := Lib.hid (prsTo_succ s k)
      clear hs'
      cases hsm : (letN (bat s k)).isSome
      · have Hok := Lib.hid (show prsOk s = false by unfold prsOk; rw [knownTo_no hlt hsm, Bool.and_false])
        rw [hsm] at hlk
        clear hsm
        go_wp2
        go_ret2
        exact ⟨_, by unfold prsC; rw [Hok.out]; rfl, by unfold prsR; rw [Hok.out]; exact ownI_nil _ _, hB⟩
      · have Hk2 := Lib.hid (knownTo_succ Hkn.out hsm)
        rw [hsm] at hlk
        rw [show (letN (bat s k)).getD 0 = numOf (bat s k) from rfl] at hlk
        obtain ⟨x, hx⟩ : ∃ x, numOf (bat s k) = x := ⟨_, rfl⟩
        rw [hx] at hlk hnb
        have Hx := Lib.hid hx
        clear hsm hx
        go_wp2_with (at_builtin; refine wpList_append_own _ rfl _ _ 22 rfl w1.heap.size 2 i0 (.int .i64 0) 1 8 Try.underlying22 hi hz0 hz1 hz2 rfl (by decide) _ _ _ rfl (World.ownsRow.alloc hrow _) ⟨wr.heap.size, 0, none⟩ 1 1 [.int .i64 x] rfl rfl (Go.cell_one_new _ _ _) (by simp [Value.oneCell']) (by unfold maxLen; omega) (by omega) (by simp; omega) ?_)
        intro v' w4 hown' hgrow _
        have ho4 := ownI_snoc (xs := prsTo s k) (x := x) (by rw [prsTo_length]; exact hown')
        rw [← Hx.out, ← Hs.out] at ho4
        have hM4 : NMap w4 m 9 := (hM2.kept (W' := wr.alloc (.cells #[.int .i64 x] 2)) (World.grownBy_alloc _ _ none) (by simp)).kept hgrow (fun e => by have := (hbk _ e.symm).1; omega)
        have hB4 : Below w.heap.size w w4 := (hB.alloc hB.size _).grown hgrow (by simp; omega) (fun j e => by have := (hbk j e).1; omega)
        have hs4 : w1.heap.size ≤ w4.heap.size := by have := hgrow.size; simp at this; omega
        clear hown' hgrow hrow hlk hsl
        go_wp2
        go_roundw
        case rel => exact ⟨k + 1, by omega, by simp, ho4, Hk2.out, hM4, hB4, hs4⟩
        case measure => simp [intOf]; omega
    · obtain rfl : k = s.size := by omega
      have Hok := Lib.hid (show prsOk s = true by unfold prsOk; rw [Hin.out, Hkn.out]; rfl)
      go_wp2
      go_ret2
      exact ⟨_, by unfold prsC; rw [Hok.out]; rfl, by unfold prsR; rw [Hok.out]; exact ho.base hs1, hB⟩

end Go.Proofs.Ytjgkdjnpbocnjaa
