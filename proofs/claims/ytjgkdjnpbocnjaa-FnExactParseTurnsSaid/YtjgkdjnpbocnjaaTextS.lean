/-
  TurnsText of the model.
  Conditions: lists of at most 1048576 elements.
-/
import Derived.Test.YtjgkdjnpbocnjaaText
import Derived.Test.YtjgkdjnpbocnjaaRen
import Derived.Laws.BytesArg
namespace Go.Proofs.Ytjgkdjnpbocnjaa
open Go.RowKit Go.Shelf
attribute [local go_sem] Oper.semAt_some

def bytesV (bs : List UInt8) : List Value := bs.map fun b => .int .u8 b.toNat
/-- THE SLICE VALUE v OWNS THE BYTES bs, in a block from B on. -/
def OwnU (B : Nat) (W : World) (v : Value) (bs : List UInt8) : Prop := W.ownsRow B 5 1 v bs.length (bytesV bs)
def textB (ts : List Int) (k : Nat) : List UInt8 := (ts.take k).map letB
def textL (ts : List Int) : ByteArray := ⟨(ts.map letB).toArray⟩
theorem textB_length {ts : List Int} {k : Nat} (h : k ≤ ts.length) : (textB ts k).length = k := by simp [textB]; omega
theorem textB_succ {ts : List Int} {k : Nat} (h : k < ts.length) : textB ts (k + 1) = textB ts k ++ [letB (nth ts k)] := by
  unfold textB; rw [List.take_succ_eq_append_getElem h, List.map_append, nth_lt h]; rfl
theorem Try.infoU : (Try.prog.info? 5).map (fun i => (i.zero, i.size, i.bytes)) = some (some (.int .u8 0), 1, 1) := by kernel_rfl

set_option maxRecDepth 100000 in
set_option maxHeartbeats 8000000 in
theorem l01Text_c (sv : Value) (ts : List Int) (w : World) (hI : Ints w.heap.size w sv ts) (h1 : 0 < ts.length) (hl : ts.length ≤ 1048576) (hb : ∀ k, k < ts.length → -1 ≤ nth ts k ∧ nth ts k < 8) :
    Calls Try.prog 40 #[sv] w fun e w' => e = .returned (.string (textL ts)) ∧ Below w.heap.size w w' := by
  obtain ⟨i0, hi, hz0, hz1, hz2⟩ := info_partsB Try.infoU
  obtain ⟨a, cap, rfl⟩ := hI.shape
  go_enter Try.func40, Try.ntmps40
  go_wp2
  have ho0 : OwnU w.heap.size (w.alloc (.cells #[] 5)) (.slice (some ⟨w.heap.size, 0, none⟩) 0 0) (textB ts 0) := World.ownsRow_made w #[] 0 (Nat.le_refl _) (by unfold maxLen; omega) rfl
  have hB0 : Below w.heap.size w (w.alloc (.cells #[] 5)) := (Below.refl _ w).alloc (Nat.le_refl _) _
  go_loopw [3, 4] (fun v n wr => ∃ k : Nat, k ≤ ts.length ∧ n = .int .i64 k ∧ OwnU w.heap.size wr v (textB ts k) ∧ Below w.heap.size w wr) (fun _ n _ => ts.length - (intOf n).toNat)
  case atStart => exact ⟨0, Nat.zero_le _, rfl, ho0, hB0⟩
  case round =>
    obtain ⟨k, hk, rfl, ho, hB⟩ := hrel
    clear ho0 hB0
    have hrow : wr.ownsRow w.heap.size 5 1 u3 k (bytesV (textB ts k)) := by have h := ho; unfold OwnU at h; rwa [textB_length hk] at h
    have hsz := hB.size
    have hbk : ∀ j, u3.ownBlock = some j → w.heap.size ≤ j := fun j e => (World.ownsRow.lt hrow j e).1
    by_cases hlt : k < ts.length
    · obtain ⟨b, off, rfl, hb2, hc⟩ := (hI.below hB).at_ hlt
      have hcx := hc k hlt
      have hx := hb k hlt
      have Hs := Lib.hid (textB_succ hlt)
      have Hl := Lib.hid (textB_length hk)
      clear hc hb
      have fin : ∀ (v' : Value) (w3 : World), w3.ownsRow w.heap.size 5 1 v' (k + 1) (bytesV (textB ts k) ++ [.int .u8 (letB (nth ts k)).toNat]) → OwnU w.heap.size w3 v' (textB ts (k + 1)) := fun v' w3 h => by
        unfold OwnU
        rw [textB_length hlt, Hs.out]
        unfold bytesV at h ⊢
        rw [List.map_append]
        exact h
      have Hf := Lib.hid fin
      clear fin
      by_cases h0 : nth ts k < 0
      · have hl0 : (letB (nth ts k)).toNat = 46 := by unfold letB; rw [if_pos h0]; rfl
        rw [hl0] at Hf
        clear hl0
        go_wp2_with (at_builtin; refine wpList_append_own _ rfl _ _ 98 rfl w.heap.size 5 i0 (.int .u8 0) 1 1 Try.underlying98 hi hz0 hz1 hz2 rfl (by decide) _ _ _ rfl (World.ownsRow.alloc hrow _) ⟨wr.heap.size, 0, none⟩ 1 1 [.int .u8 46] rfl rfl (Go.cell_one_new _ _ _) (by simp [Value.oneCell']) (by unfold maxLen; omega) (by omega) (by simp; omega) ?_)
        intro v' w3 hown' hgrow _
        have ho3 := Hf.out v' w3 hown'
        have hB3 : Below w.heap.size w w3 := (hB.alloc hsz _).grown hgrow (by simp; omega) hbk
        clear hown' hgrow
        go_wp2
        go_roundw
        case rel => exact ⟨k + 1, by omega, by simp, ho3, hB3⟩
        case measure => simp [intOf]; omega
      · obtain ⟨m, hm⟩ : ∃ m : Nat, nth ts k = m := ⟨(nth ts k).toNat, by omega⟩
        have hm8 : m < 8 := by omega
        have hl0 : (letB (nth ts k)).toNat = 97 + m := by
          unfold letB; rw [if_neg h0, hm]
          show (UInt8.ofNat (97 + m)).toNat = 97 + m
          rw [UInt8.toNat_ofNat']; omega
        rw [hl0] at Hf
        rw [hm] at hcx
        clear hl0 hm h0 hx
        have hm0 : ¬ ((m : Int) < 0) := by omega
        have hw1 : IntKind.i64.wrap (97 + (m : Int)) = 97 + (m : Int) := by rw [IntKind.wrap_i64]; omega
        have hw2 : IntKind.u8.wrap (97 + (m : Int)) = 97 + (m : Int) := by rw [IntKind.wrap_u8]; omega
        have hc9 : ((97 + m : Nat) : Int) = 97 + (m : Int) := by omega
        rw [hc9] at Hf
        clear hc9
        go_wp2_with (at_builtin; refine wpList_append_own _ rfl _ _ 98 rfl w.heap.size 5 i0 (.int .u8 0) 1 1 Try.underlying98 hi hz0 hz1 hz2 rfl (by decide) _ _ _ rfl (World.ownsRow.alloc hrow _) ⟨wr.heap.size, 0, none⟩ 1 1 [.int .u8 (97 + (m : Int))] rfl rfl (Go.cell_one_new _ _ _) (by simp [Value.oneCell']) (by unfold maxLen; omega) (by omega) (by simp; omega) ?_)
        intro v' w3 hown' hgrow _
        have ho3 := Hf.out v' w3 hown'
        have hB3 : Below w.heap.size w w3 := (hB.alloc hsz _).grown hgrow (by simp; omega) hbk
        clear hown' hgrow
        go_wp2
        go_roundw
        case rel => exact ⟨k + 1, by omega, by simp, ho3, hB3⟩
        case measure => simp [intOf]; omega
    · obtain rfl : k = ts.length := by omega
      obtain ⟨g, cap3, e3, hcell⟩ : ∃ g cap3, u3 = .slice (some ⟨g, 0, none⟩) ts.length cap3 ∧ ∀ i, i < ts.length → wr.cell? ⟨g, 0 + i, none⟩ = some (.int .u8 (((textB ts ts.length).map fun b => (b.toNat : Int)).getD i 0)) := by
        obtain ⟨_, h2⟩ := id hrow
        rcases h2 with ⟨e, h0⟩ | ⟨g, cap3, cur, e, _⟩
        · omega
        · subst e
          refine ⟨g, cap3, rfl, fun i hi2 => ?_⟩
          have hx := World.ownsRow.cellAt hrow i (by simpa using hi2)
          rw [Nat.zero_add]
          have hl9 := textB_length (Nat.le_refl ts.length)
          rw [hx]
          unfold bytesV
          simp [List.getD, hl9, hi2]
      subst e3
      have hconv := run_convert_bytes_arg (P := Try.prog) wr 98 5 Try.underlying98 Try.underlying5 g 0 ts.length cap3 ((textB ts ts.length).map fun b => (b.toNat : Int)) (by simp [textB_length (Nat.le_refl _)]) hcell 9 Try.underlying9
      have htx : strOfNums ((textB ts ts.length).map fun b => (b.toNat : Int)) = textL ts := by
        unfold textL textB strOfNums
        simp
      rw [htx] at hconv
      clear htx hcell hrow ho
      go_wp2
      go_ret
      exact ⟨rfl, hB⟩

end Go.Proofs.Ytjgkdjnpbocnjaa
