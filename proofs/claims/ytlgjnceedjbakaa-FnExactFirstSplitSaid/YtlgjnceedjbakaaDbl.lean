/-
  DoubledTurns and ExchangeSlots of both; lists one behind the other, some of which may be nil.
  Conditions: lists of at most 1048576 elements.
-/
import Derived.Laws.AppendOwnNone
import Derived.Test.YtlgjnceedjbakaaShift
import Derived.Test.YtlgjnceedjbakaaCls
namespace Go.Proofs.Ytlgjnceedjbakaa
open Go.RowKit Go.Shelf
attribute [local go_sem] Oper.semAt_some

/-! ### lists, one behind the other -/
def catL (ls : Nat → List Int) : Nat → List Int
  | 0 => []
  | k + 1 => catL ls k ++ ls k

set_option maxRecDepth 100000 in
set_option maxHeartbeats 8000000 in
theorem concatL_c (N : Nat) (ls : Nat → List Int) (ad : Nat → Option Addr) (cp : Nat → Nat) (w : World) (bk : Nat) (hbk : bk < w.heap.size)
    (hc : ∀ k, k < N → w.cell? ⟨bk, k, none⟩ = some (.slice (ad k) (ls k).length (cp k))) (hI : ∀ k, k < N → Ints w.heap.size w (.slice (ad k) (ls k).length (cp k)) (ls k))
    (hnil : ∀ k, k < N → ad k = none → ls k = [] ∧ cp k = 0)
    (hN : N ≤ 1000) (h0 : 0 < (catL ls N).length) (hb : ∀ k, k ≤ N → (catL ls k).length ≤ 1000) :
    Calls Try.prog 111 #[.slice (some ⟨bk, 0, none⟩) N N] w (GivesI w (catL ls N) id) := by
  obtain ⟨i0, hi0, hz0, hz1, hz2⟩ := info_parts Try.infoI
  have Hc := Lib.hid hc
  have HI := Lib.hid hI
  have Hb := Lib.hid hb
  have Hnil := Lib.hid hnil
  clear hc hI hb hnil
  go_enter Try.func111, Try.ntmps111
  go_wp2_with fail
  go_loop [3, 11] (fun s i => ∃ k : Nat, k ≤ N ∧ i = .int .i64 k ∧ s = .int .i64 ((catL ls k).length : Nat)) (fun _ i => N - (intOf i).toNat)
  case atStart => exact ⟨0, by omega, rfl, rfl⟩
  case round =>
    obtain ⟨k, hk, rfl, rfl⟩ := hrel
    have hbk2 := Hb.out k hk
    obtain ⟨q, hq⟩ : ∃ q, (catL ls k).length = q := ⟨_, rfl⟩
    have Hq := Lib.hid hq
    rw [hq] at hbk2 ⊢
    clear hq
    by_cases hlt : k < N
    · have hck := Hc.out k hlt
      have hk1 := Hb.out (k + 1) (by omega)
      have hkl : (catL ls (k + 1)).length = q + (ls k).length := by rw [← Hq.out]; simp [catL]
      rw [hkl] at hk1
      have Hkl := Lib.hid hkl
      have hltI : (k : Int) < (N : Int) := by omega
      have hw : IntKind.i64.wrap ((q : Int) + ((ls k).length : Int)) = ((q + (ls k).length : Nat) : Int) := by rw [IntKind.wrap_i64]; omega
      clear hkl
      go_wp2
      exact ⟨⟨k + 1, by omega, by simp, by rw [Hkl.out]; simp⟩, by simp [intOf]; omega⟩
    · obtain rfl : k = N := by omega
      have hq0 : 0 < q := by rw [← Hq.out]; exact h0
      go_wp2_with fail
      refine (growNil_c q w hq0 (by omega)).mono ?_
      rintro e w1 ⟨v, rfl, ho, hB⟩
      simp only [id]
      go_wp2
      go_loopw [6, 27] (fun v i wr => ∃ j : Nat, j ≤ k ∧ i = .int .i64 j ∧ OwnI w.heap.size wr v (catL ls j) ∧ Below w.heap.size w wr) (fun _ i _ => k - (intOf i).toNat)
      case atStart => exact ⟨0, by omega, rfl, ho, hB⟩
      case round =>
        obtain ⟨j, hj, rfl, hoj, hBj⟩ := hrel
        clear ho hB
        have hsw := hBj.size
        have hbj := Hb.out j hj
        by_cases hlj : j < k
        · have hcj := (hBj.cell (p := ⟨bk, j, none⟩) hbk).trans (Hc.out j hlj)
          have hIj := (HI.out j hlj).below hBj
          have hbj1 := Hb.out (j + 1) (by omega)
          have hkl : (catL ls (j + 1)).length = (catL ls j).length + (ls j).length := by simp [catL]
          rw [hkl] at hbj1
          have hltJ : (j : Int) < (k : Int) := by omega
          have Hnx := Lib.hid (show catL ls (j + 1) = catL ls j ++ ls j from rfl)
          have hb5 : ∀ j, u6.ownBlock = some j → w.heap.size ≤ j := fun j e => (hoj.blk j e).1
          have Hb5 := Lib.hid hb5
          have hnl := Hnil.out j hlj
          clear hkl hb5
          cases had : ad j with
          | none =>
            obtain ⟨h1, h2⟩ := hnl had
            rw [had, h1, h2] at hcj
            have hoj2 : OwnI w.heap.size wr u6 (catL ls (j + 1)) := by rw [Hnx.out, h1, List.append_nil]; exact hoj
            simp only [List.length_nil] at hcj
            clear hIj had h1 hnl
            go_wp2_with (at_builtin; refine wpList_append_own_none rfl _ _ 37 rfl w.heap.size 2 i0 1 Try.underlying37 hi0 _ _ _ rfl hoj rfl ?_)
            go_wp2
            go_roundw
            case rel => exact ⟨j + 1, by omega, by simp, hoj2, hBj⟩
            case measure => simp [intOf]; omega
          | some aj =>
            rw [had] at hcj hIj
            clear hnl had
            obtain ⟨b, off, sp⟩ := aj
            have hsrc : ∀ q u, ((ls j).map (Value.int .i64))[q]? = some u → wr.cell? ((⟨b, off, sp⟩ : Addr).add q) = some u := fun q u hq => by
              obtain ⟨a', c', e, h2⟩ := hIj
              cases e
              rcases h2 with h2 | ⟨b2, off2, e, _, hc⟩
              · rw [h2] at hq; simp at hq
              · cases e
                have hql : q < (ls j).length := by
                  have := (List.getElem?_eq_some_iff.1 hq).1
                  simpa using this
                rw [Go.WideShapes.add_plain, hc q hql]
                rw [List.getElem?_map, getElem?_nth hql] at hq
                exact hq
            have Hsrc := Lib.hid hsrc
            clear hIj hsrc
            go_wp2_with (at_builtin; refine wpList_append_own _ rfl _ _ 37 rfl w.heap.size 2 i0 (.int .i64 0) 1 8 Try.underlying37 hi0 hz0 hz1 hz2 rfl (by decide) _ _ _ rfl hoj ⟨b, off, sp⟩ (ls j).length (cp j) ((ls j).map (.int .i64)) rfl (by simp) Hsrc.out (cells_one _) (by unfold maxLen; omega) (by omega) hsw ?_)
            intro v' w3 hown' hgrow _
            have ho3 := ownI_app hown'
            rw [← Hnx.out] at ho3
            have hB3 : Below w.heap.size w w3 := hBj.grown hgrow hsw (fun j e => Hb5.out j e)
            clear hown' hgrow
            go_wp2
            go_roundw
            case rel => exact ⟨j + 1, by omega, by simp, ho3, hB3⟩
            case measure => simp [intOf]; omega
        · obtain rfl : j = k := by omega
          go_wp2
          go_ret
          exact ⟨_, rfl, hoj, hBj⟩

/-! ### doubled turns -/
def dbl : Nat → List Int
  | 0 => []
  | k + 1 => dbl k ++ [(k : Int)] ++ dbl k
theorem dbl_len : ∀ k : Nat, k ≤ 5 → (dbl k).length ≤ 31
  | 0, _ => by simp [dbl]
  | 1, _ => by simp [dbl]
  | 2, _ => by simp [dbl]
  | 3, _ => by simp [dbl]
  | 4, _ => by simp [dbl]
  | 5, _ => by simp [dbl]
  | k + 6, h => by omega
def dbR (k : Int) : List Int := if inB k 1 5 then dbl k.toNat else []
def dbC (k : Int) : Int := if inB k 1 5 then 0 else 2
theorem dbR_len (k : Int) : (dbR k).length * 8 ≤ 140737488351232 := by
  unfold dbR
  split
  · rename_i h
    have := inB_true.1 h
    have := dbl_len k.toNat (by omega)
    omega
  · simp

theorem cell3_new (w : World) (t : TypeId) (x y z : Value) : ∀ k, k < 3 → (w.alloc (.cells #[x, y, z] t)).cell? ⟨w.heap.size, k, none⟩ = some (match k with | 0 => x | 1 => y | _ => z) := fun k hk => by
  match k, hk with
  | 0, _ => simp
  | 1, _ => simp
  | 2, _ => simp

end Go.Proofs.Ytlgjnceedjbakaa
