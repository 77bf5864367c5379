/-
  ParseTurns of the model.
  Conditions: texts of at most 1048576 bytes.
-/
import Derived.Test.YtjgkdjnpbocnjaaPrsI
namespace Go.Proofs.Ytjgkdjnpbocnjaa
open Go.RowKit Go.Shelf Go.Maps
attribute [local go_sem] Oper.semAt_some

def rdN (c : UInt8) : Int := if c = 46 then -1 else (c.toNat : Int) - 97
def rdTo (s : ByteArray) (k : Nat) : List Int := (List.range k).map fun m => rdN (bat s m)
theorem rdTo_length (s : ByteArray) (k : Nat) : (rdTo s k).length = k := by simp [rdTo]
theorem rdTo_succ (s : ByteArray) (k : Nat) : rdTo s (k + 1) = rdTo s k ++ [rdN (bat s k)] := by simp [rdTo, List.range_succ]
theorem letN_low {c : UInt8} (h : c ≠ 46) (h2 : c.toNat < 97) : (letN c).isSome = false := by
  unfold letN; rw [if_neg h, if_neg (by omega)]; rfl
theorem rd_in (c : UInt8) (h : c = 46 ∨ 97 ≤ c.toNat) : inB (rdN c) (-1) (8 - 1) = (letN c).isSome := by
  unfold rdN letN
  by_cases e : c = 46
  · rw [if_pos e, if_pos e]; rfl
  · rw [if_neg e, if_neg e]
    have h97 : 97 ≤ c.toNat := h.resolve_left e
    by_cases h2 : c.toNat ≤ 104
    · rw [if_pos ⟨h97, h2⟩]; exact inB_true.2 ⟨by omega, by omega⟩
    · rw [if_neg (by omega)]; exact inB_false.2 (by omega)
theorem rd_num {c : UInt8} (h : (letN c).isSome = true) : rdN c = numOf c := by
  unfold rdN numOf letN
  unfold letN at h
  by_cases e : c = 46
  · rw [if_pos e, if_pos e]; rfl
  · rw [if_neg e] at h
    rw [if_neg e, if_neg e]
    split at h
    · rename_i h2; rw [if_pos h2]; rfl
    · cases h
theorem rd_turns {s : ByteArray} (h : ∀ m, m < s.size → bat s m = 46 ∨ 97 ≤ (bat s m).toNat) : turnsOk (rdTo s s.size) 8 = prsOk s := by
  have h1 : (rdTo s s.size).all (fun z => inB z (-1) (8 - 1)) = knownTo s s.size := by
    unfold rdTo knownTo
    rw [List.all_map, Bool.eq_iff_iff, List.all_eq_true, List.all_eq_true]
    constructor
    · intro ha m hm
      have := ha m hm
      simp only [Function.comp] at this
      rwa [rd_in _ (h m (by simpa using hm))] at this
    · intro ha m hm
      simp only [Function.comp]
      rw [rd_in _ (h m (by simpa using hm))]
      exact ha m hm
  unfold turnsOk prsOk
  rw [h1, rdTo_length, Bool.and_comm]
theorem rd_prs {s : ByteArray} (h : prsOk s = true) : rdTo s s.size = prsTo s s.size := by
  unfold prsOk knownTo at h
  rw [Bool.and_eq_true, List.all_eq_true] at h
  unfold rdTo prsTo
  exact List.map_congr_left fun m hm => rd_num (h.2 m hm)

set_option maxRecDepth 100000 in
set_option maxHeartbeats 4000000 in
theorem l01Read_c (s : ByteArray) (w : World) (hm : s.size ≤ 1048576) :
    Calls Try.prog 41 #[.string s] w fun e w' => ∃ v, e = .returned (.tuple #[v, .bool (prsOk s)]) ∧ (prsOk s = true → OwnI w.heap.size w' v (prsR s)) ∧ (∃ a n c, v = .slice a n c) ∧ Below w.heap.size w w' := by
  obtain ⟨i0, hi, hz0, hz1, hz2⟩ := info_parts Try.infoI2
  go_enter Try.func41, Try.ntmps41
  go_wp2_with fail
  have ho0 := ownI_empty w
  have hB0 : Below w.heap.size w (w.alloc (.cells #[] 2)) := (Below.refl _ w).alloc (Nat.le_refl _) _
  go_loopw [4, 5] (fun v i wr => ∃ k : Nat, k ≤ s.size ∧ i = .int .i64 k ∧ OwnI w.heap.size wr v (rdTo s k) ∧ (∀ m, m < k → bat s m = 46 ∨ 97 ≤ (bat s m).toNat) ∧ Below w.heap.size w wr) (fun _ i _ => s.size - (intOf i).toNat)
  case atStart => exact ⟨0, Nat.zero_le _, rfl, ho0, fun m h => by omega, hB0⟩
  case round =>
    obtain ⟨k, hk, rfl, ho, hall, hB⟩ := hrel
    have Hall := Lib.hid hall
    clear ho0 hB0 hall
    by_cases hlt : k < s.size
    · have hrow : wr.ownsRow w.heap.size 2 1 u4 k ((rdTo s k).map (.int .i64)) := by have h := ho; unfold OwnI at h; rwa [rdTo_length] at h
      have hbk := ho.blk
      have hsz := hB.size
      have hbt : bat s k = s[k]'hlt := by
        have hl : k < s.data.toList.length := by rw [Array.length_toList]; exact hlt
        unfold bat; rw [List.getElem?_eq_getElem hl]; rfl
      obtain ⟨x, hx⟩ : ∃ x : Nat, (s[k]'hlt).toNat = x := ⟨_, rfl⟩
      have hx1 : x < 256 := by rw [← hx]; exact UInt8.toNat_lt _
      have hxb : (bat s k).toNat = x := by rw [hbt, hx]
      have h46 : bat s k = 46 ↔ x = 46 := by
        rw [← hxb]
        constructor
        · intro e; rw [e]; rfl
        · intro e; exact UInt8.toNat_inj.1 (by rw [e]; rfl)
      have hwx : wrap64 (x : Int) = x := by unfold wrap64; omega
      have hwy : wrap64 ((x : Int) - 97) = (x : Int) - 97 := by unfold wrap64; omega
      have H46 := Lib.hid h46
      have Hxb := Lib.hid hxb
      have Hs := Lib.hid (rdTo_succ s k)
      clear h46 hxb hbt
      by_cases h1 : x = 46
      · have hrd : rdN (bat s k) = -1 := by unfold rdN; rw [if_pos (H46.out.2 h1)]
        have Hrd := Lib.hid hrd
        have Hor := Lib.hid (H46.out.2 h1)
        subst h1
        clear hrd
        go_wp2_with (at_builtin; refine wpList_append_own _ rfl _ _ 22 rfl w.heap.size 2 i0 (.int .i64 0) 1 8 Try.underlying22 hi hz0 hz1 hz2 rfl (by decide) _ _ _ rfl (World.ownsRow.alloc hrow _) ⟨wr.heap.size, 0, none⟩ 1 1 [.int .i64 (-1)] rfl rfl (Go.cell_one_new _ _ _) (by simp [Value.oneCell']) (by unfold maxLen; omega) (by omega) (by simp; omega) ?_)
        intro v' w4 hown' hgrow _
        have ho4 := ownI_snoc (xs := rdTo s k) (x := -1) (by rw [rdTo_length]; exact hown')
        rw [← Hrd.out, ← Hs.out] at ho4
        have hB4 : Below w.heap.size w w4 := (hB.alloc hB.size _).grown hgrow (by simp; omega) (fun j e => by have := (hbk j e).1; omega)
        clear hown' hgrow hrow
        go_wp2
        go_roundw
        case rel => exact ⟨k + 1, by omega, by simp, ho4, fun m hm => by
          by_cases e : m = k
          · subst e; exact .inl Hor.out
          · exact Hall.out m (by omega), hB4⟩
        case measure => simp [intOf]; omega
      · by_cases h2 : x < 97
        · have Hok := Lib.hid (show prsOk s = false by unfold prsOk; rw [knownTo_no hlt (letN_low (fun e => h1 (H46.out.1 e)) (by rw [Hxb.out]; exact h2)), Bool.and_false])
          go_wp2
          go_ret2
          exact ⟨_, by rw [Hok.out]; rfl, fun e => (by rw [Hok.out] at e; cases e), ⟨_, _, _, rfl⟩, hB⟩
        · have hrd : rdN (bat s k) = (x : Int) - 97 := by unfold rdN; rw [if_neg (fun e => h1 (H46.out.1 e)), Hxb.out]
          have Hrd := Lib.hid hrd
          have Hor : Hid (97 ≤ (bat s k).toNat) := Lib.hid (by rw [Hxb.out]; omega)
          clear hrd
          go_wp2_with (at_builtin; refine wpList_append_own _ rfl _ _ 22 rfl w.heap.size 2 i0 (.int .i64 0) 1 8 Try.underlying22 hi hz0 hz1 hz2 rfl (by decide) _ _ _ rfl (World.ownsRow.alloc hrow _) ⟨wr.heap.size, 0, none⟩ 1 1 [.int .i64 ((x : Int) - 97)] rfl rfl (Go.cell_one_new _ _ _) (by simp [Value.oneCell']) (by unfold maxLen; omega) (by omega) (by simp; omega) ?_)
          intro v' w4 hown' hgrow _
          have ho4 := ownI_snoc (xs := rdTo s k) (x := (x : Int) - 97) (by rw [rdTo_length]; exact hown')
          rw [← Hrd.out, ← Hs.out] at ho4
          have hB4 : Below w.heap.size w w4 := (hB.alloc hB.size _).grown hgrow (by simp; omega) (fun j e => by have := (hbk j e).1; omega)
          clear hown' hgrow hrow
          go_wp2
          go_roundw
          case rel => exact ⟨k + 1, by omega, by simp, ho4, fun m hm => by
            by_cases e : m = k
            · subst e; exact .inr Hor.out
            · exact Hall.out m (by omega), hB4⟩
          case measure => simp [intOf]; omega
    · obtain rfl : k = s.size := by omega
      have Ht := Lib.hid (rd_turns Hall.out)
      have hro := ho
      obtain ⟨a, c, rfl⟩ := ho.ints.shape
      rw [rdTo_length]
      go_wp2_with fail
      refine (l01Turns_c _ (rdTo s s.size) 8 _ (by have := hro.ints; rw [rdTo_length] at this; exact this) (by rw [rdTo_length]; omega) (by omega) (by omega)).mono ?_
      rintro e w3 ⟨rfl, rfl⟩
      rw [Ht.out]
      go_wp2
      go_ret2
      exact ⟨_, rfl, fun e => by unfold prsR; rw [if_pos e, ← rd_prs e]; rw [rdTo_length] at hro; exact hro, ⟨_, _, _, rfl⟩, hB⟩

set_option maxRecDepth 100000 in
set_option maxHeartbeats 4000000 in
theorem s_ParseTurns (s : ByteArray) (w : World) (hm : s.size ≤ 1048576) :
    Calls Try.prog 17 #[.string s] w (GivesI w (prsR s) fun v => .tuple #[v, .int .i64 (prsC s)]) := by
  go_enter Try.func17, Try.ntmps17
  go_wp2_with fail
  refine (l01Read_c s _ hm).mono ?_
  rintro e w1 ⟨v, rfl, ho, ⟨a, n, c, rfl⟩, hb⟩
  cases hok : prsOk s
  · have Hok := Lib.hid hok
    clear hok ho
    go_wp2
    go_ret2
    exact ⟨_, by unfold prsC; rw [Hok.out]; rfl, by unfold prsR; rw [Hok.out]; exact ownI_nil _ _, hb⟩
  · have Hok := Lib.hid hok
    have Ho := Lib.hid (ho hok)
    clear hok ho
    go_wp2
    go_ret2
    exact ⟨_, by unfold prsC; rw [Hok.out]; rfl, Ho.out, hb⟩

end Go.Proofs.Ytjgkdjnpbocnjaa
