/-
  LessenGaps of both.
  Conditions: lists of at most 1048576 elements.
-/
import Derived.Test.YtjgkdjnpbocnjaaLes
import Derived.Test.YtjgkdjnpbocnjaaSort
namespace Go.Proofs.Ytjgkdjnpbocnjaa
open Go.RowKit Go.Shelf
attribute [local go_sem] Oper.semAt_some

/-- is no gap less than x? -/
def lesOk (zs : List Int) (x : Int) : Bool := decide (x ≤ leastL zs)
def lesV (zs : List Int) (x : Int) : List Int := if lesOk zs x then lesTo x zs zs.length else []
theorem lesOk_no {zs : List Int} {x : Int} {k : Nat} (hk : k < zs.length) (h : nth zs k < x) : lesOk zs x = false := decide_eq_false (by have := leastL_le hk; omega)
theorem lesOk_yes {zs : List Int} {x : Int} (h0 : 0 < zs.length) (h : ∀ m, m < zs.length → x ≤ nth zs m) : lesOk zs x = true := by
  obtain ⟨j, hj, e⟩ := leastL_mem (zs := zs) h0
  exact decide_eq_true (by rw [e]; exact h j hj)
theorem ret_tb {v : Value} {a a' : Bool} (h : a = a') : Ending.returned (.tuple #[v, .bool a]) = .returned (.tuple #[v, .bool a']) := by rw [h]

set_option maxRecDepth 100000 in
set_option maxHeartbeats 8000000 in
theorem l03Lessened_c (c0 : Value) (zs : List Int) (x : Int) (w : World) (hI : Ints w.heap.size w c0 zs) (ht : tasksOk zs = true) (hx : 1 ≤ x ∧ x ≤ 41) :
    Calls Try.prog 62 #[.agg #[c0], .int .i64 x] w fun e w' => ∃ v, e = .returned (.tuple #[.agg #[v], .bool (lesOk zs x)]) ∧ OwnI w.heap.size w' v (lesV zs x) ∧ Below w.heap.size w w' := by
  obtain ⟨i0, hi, hz0, hz1, hz2⟩ := info_parts Try.infoI2
  obtain ⟨a, cap, rfl⟩ := hI.shape
  have hl := tasksOk_len ht
  have Ht := Lib.hid ht
  clear ht
  go_enter Try.func62, Try.ntmps62
  go_wp2
  have ho0 := (ownI_empty ((w.alloc (.cells #[.slice a zs.length cap] 39)).alloc (.cells #[.slice none 0 0] 39))).alloc (.cells #[.slice (some ⟨w.heap.size + 1 + 1, 0, none⟩) 0 0] 39)
  simp only [World.size_alloc] at ho0
  obtain ⟨W0, hW0⟩ : ∃ W0, (((w.alloc (.cells #[.slice a zs.length cap] 39)).alloc (.cells #[.slice none 0 0] 39)).alloc (.cells #[] 2)).alloc (.cells #[.slice (some ⟨w.heap.size + 1 + 1, 0, none⟩) 0 0] 39) = W0 := ⟨_, rfl⟩
  have hB0 : Below w.heap.size w W0 := by rw [← hW0]; exact ((((Below.refl _ w).alloc (Nat.le_refl _) _).alloc (by simp) _).alloc (by simp; omega) _).alloc (by simp; omega) _
  have bT : Boxed W0 w.heap.size 39 (.slice a zs.length cap) := by rw [← hW0]; repeat first | (refine boxed_at ?_; (simp; done)) | refine Boxed.alloc ?_ _
  have bQ : Boxed W0 (w.heap.size + 1) 39 (.slice none 0 0) := by rw [← hW0]; repeat first | (refine boxed_at ?_; (simp; done)) | refine Boxed.alloc ?_ _
  have bO : Boxed W0 (w.heap.size + 1 + 1 + 1) 39 (.slice (some ⟨w.heap.size + 1 + 1, 0, none⟩) 0 0) := by rw [← hW0]; repeat first | (refine boxed_at ?_; (simp; done)) | refine Boxed.alloc ?_ _
  have hsz0 : w.heap.size + 4 ≤ W0.heap.size := by rw [← hW0]; simp
  rw [hW0] at ho0 ⊢
  clear hW0
  go_loopw [7] (fun i wr => ∃ (k : Nat) (v : Value), k ≤ zs.length ∧ i = .int .i64 k ∧ Boxed wr (w.heap.size + 1 + 1 + 1) 39 v ∧ OwnI (w.heap.size + 1 + 1) wr v (lesTo x zs k) ∧ (∀ m, m < k → x ≤ nth zs m) ∧ Boxed wr w.heap.size 39 (.slice a zs.length cap) ∧ Boxed wr (w.heap.size + 1) 39 (.slice none 0 0) ∧ Below w.heap.size w wr) (fun i _ => zs.length - (intOf i).toNat)
  case atStart => exact ⟨0, _, Nat.zero_le _, rfl, bO, ho0, fun m h => by omega, bT, bQ, hB0⟩
  case round =>
    obtain ⟨k, v, hk, rfl, bOk, hok, hall, bTk, bQk, hB⟩ := hrel
    have Hall := Lib.hid hall
    clear bO ho0 bT bQ hB0 hall
    have cO := bOk.cell
    have fO := bOk.frozen
    have cT := bTk.cell
    have cQ := bQk.cell
    have fQ := bQk.frozen
    obtain ⟨av, cv, ev⟩ := hok.ints.shape
    rw [lesTo_length] at ev
    subst ev
    by_cases hlt : k < zs.length
    · obtain ⟨b, off, rfl, hb, hc⟩ := (hI.below hB).at_ hlt
      have hcx := hc k hlt
      have hg := tasksOk_nth Ht.out hlt
      clear hc
      by_cases hlow : nth zs k < x
      · have hd := lesOk_no hlt hlow
        have Hd := Lib.hid hd
        have Hv := Lib.hid (show lesV zs x = [] by unfold lesV; rw [hd]; rfl)
        clear hd
        go_wp2
        have k1 := (bQk.set (.slice none 0 0)).cell
        exact bodyPost_ret (v := .tuple #[.agg #[.slice none 0 0], .bool false]) (by simp [results, Try.f62, go_sem, k1]) rfl ⟨_, ret_tb Hd.out.symm, by rw [Hv.out]; exact ownI_nil _ _, hB.setCell (p := ⟨w.heap.size + 1, 0, none⟩) (by show w.heap.size ≤ w.heap.size + 1; omega) _⟩
      · go_wp2
        go_loop [8] (fun i => ∃ (n : Nat) (o : Int), i = .int .i64 o ∧ les x (nth zs k) = dblF n o (nth zs k) ∧ 1 ≤ o ∧ o ≤ 40 ∧ 40 < o + n) (fun i => 41 - (intOf i).toNat)
        case atStart => exact ⟨64, x, rfl, rfl, hx.1, by omega, by omega⟩
        case round =>
          obtain ⟨n, o, rfl, he, h1, h2, h3⟩ := hrel
          have He := Lib.hid he
          clear he
          by_cases hd : 2 * o ≤ nth zs k
          · obtain ⟨m, rfl⟩ : ∃ m, n = m + 1 := ⟨n - 1, by omega⟩
            have Hs := Lib.hid (dblF_step (n := m) hd)
            go_wp2
            exact ⟨⟨m, 2 * o, rfl, by rw [He.out, Hs.out], by omega, by omega, by omega⟩, by simp [intOf]; omega⟩
          · have Hs := Lib.hid (dblF_stop (n := n) hd)
            have hle : les x (nth zs k) = o := by rw [He.out, Hs.out]
            have Hle := Lib.hid hle
            clear hle
            have hrow : wr.ownsRow (w.heap.size + 1 + 1) 2 1 (.slice av k cv) k ((lesTo x zs k).map (.int .i64)) := by have h := hok; unfold OwnI at h; rwa [lesTo_length] at h
            have hbk := hok.blk
            have hne := ownI_ne_box hok bOk
            have hpB := hB.size
            have hbo := bOk.lt
            have Hsu := Lib.hid (lesTo_succ x zs k)
            go_wp2_with (at_builtin; refine wpList_append_own _ rfl _ _ 22 rfl (w.heap.size + 1 + 1) 2 i0 (.int .i64 0) 1 8 Try.underlying22 hi hz0 hz1 hz2 rfl (by decide) _ _ _ rfl (World.ownsRow.alloc hrow _) ⟨wr.heap.size, 0, none⟩ 1 1 [.int .i64 o] rfl rfl (Go.cell_one_new _ _ _) (by simp [Value.oneCell']) (by unfold maxLen; omega) (by omega) (by simp; omega) ?_)
            intro v' w4 hown' hgrow _
            have ho4 := ownI_snoc (xs := lesTo x zs k) (x := o) (by rw [lesTo_length]; exact hown')
            rw [← Hle.out, ← Hsu.out] at ho4
            obtain ⟨g, c2, rfl, hg1, hg2⟩ := ho4.shape (by rw [lesTo_length]; omega)
            rw [lesTo_length] at ho4
            rw [lesTo_length]
            have b4 := (bOk.alloc (.cells #[.int .i64 o] 2)).kept hgrow (fun e => hne e.symm)
            have t4 := (bTk.alloc (.cells #[.int .i64 o] 2)).kept hgrow (fun e => by have := (hbk _ e.symm).1; omega)
            have q4 := (bQk.alloc (.cells #[.int .i64 o] 2)).kept hgrow (fun e => by have := (hbk _ e.symm).1; omega)
            have hB4 : Below w.heap.size w w4 := (hB.alloc hB.size _).grown hgrow (by simp; omega) (fun j e => by have := (hbk j e).1; omega)
            clear hown' hgrow hrow cO fO cT cQ fQ
            have cO := b4.cell
            have fO := b4.frozen
            have hge : x ≤ nth zs k := by omega
            go_wp2
            go_roundw
            case rel => exact ⟨k + 1, _, by omega, by simp, b4.set _, ho4.kept (grownBy_setCell2 _ _ _ _) (.inr (ownI_ne_box ho4 b4)), fun m hm => by by_cases e : m = k; (subst e; exact hge); exact Hall.out m (by omega), boxed_setFar t4 (by omega), boxed_setFar q4 (by omega), hB4.setCell (p := ⟨w.heap.size + 1 + 1 + 1, 0, none⟩) (by show w.heap.size ≤ w.heap.size + 1 + 1 + 1; omega) _⟩
            case measure => simp [intOf]; omega
    · obtain rfl : k = zs.length := by omega
      have hd := lesOk_yes (by omega) Hall.out
      have Hd := Lib.hid hd
      have Hv := Lib.hid (show lesV zs x = lesTo x zs zs.length by unfold lesV; rw [hd]; rfl)
      clear hd
      go_wp2
      have k1 := (bQk.set (.slice av zs.length cv)).cell
      have ho9 : OwnI w.heap.size (wr.setCell ⟨w.heap.size + 1, 0, none⟩ (.slice av zs.length cv)) (.slice av zs.length cv) (lesTo x zs zs.length) := (hok.kept (grownBy_setCell2 _ _ _ _) (.inr (fun e => by have := (hok.blk _ e).1; omega))).base (by omega)
      exact bodyPost_ret (v := .tuple #[.agg #[.slice av zs.length cv], .bool true]) (by simp [results, Try.f62, go_sem, k1]) rfl ⟨_, ret_tb Hd.out.symm, by rw [Hv.out]; exact ho9, hB.setCell (p := ⟨w.heap.size + 1, 0, none⟩) (by show w.heap.size ≤ w.heap.size + 1; omega) _⟩

end Go.Proofs.Ytjgkdjnpbocnjaa
