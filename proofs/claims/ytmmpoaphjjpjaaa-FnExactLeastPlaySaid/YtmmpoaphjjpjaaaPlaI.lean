/-
  LeastPlay of the program.
  Conditions: lists of at most 1048576 elements.
-/
import Derived.Maps.Views
import Derived.Test.YtmmpoaphjjpjaaaPla
import Derived.Test.YtmmpoaphjjpjaaaKeepI
import Derived.Test.YtmmpoaphjjpjaaaShift
import Derived.Test.YtmmpoaphjjpjaaaSort
import Derived.Test.YtmmpoaphjjpjaaaIts
namespace Go.Proofs.Ytmmpoaphjjpjaaa
open Go.RowKit Go.Shelf Go.Maps
attribute [local go_sem] Oper.semAt_some

/-! ### when each state came -/
/-- the map in the block m tells when each of the first n states came -/
def CMap (W : World) (gs : List Int) (m n : Nat) : Prop :=
  ∃ D : DataW Unit, W.ownsMap Try.prog 73 (plainElem Try.prog 3) m n D ∧ (∀ x, IsSt gs x → (Maps.has D (klit x) = true ↔ ∃ i : Nat, i < n ∧ playS gs i = x)) ∧ ∀ i : Nat, i < n → ∀ z, D.atKey (klit (playS gs i)) z = .lit (.int .i64 (i : Int))
theorem CMap.new {W : World} {m : Nat} (gs : List Int) (h : W.heap[m]? = some (.map #[] 0)) : CMap W gs m 0 := by
  have h0 := World.ownsMap_made (H := Unit) W Try.prog 73 (plainElem Try.prog 3)
  obtain ⟨es, clock, h1, h2⟩ := h0
  have h3 := World.alloc_heap_new W (.map #[] 0)
  rw [h3] at h1
  obtain ⟨rfl, rfl⟩ : #[] = es ∧ 0 = clock := by simpa using h1
  exact ⟨.map [], ⟨_, _, h, h2⟩, fun x _ => by simp [Maps.has], fun i hi => by omega⟩
theorem CMap.kept {W W' : World} {row : Option Nat} {gs : List Int} {m n : Nat} (h : CMap W gs m n) (hg : W.grownBy W' row) (hne : some m ≠ row) : CMap W' gs m n := by
  obtain ⟨D, h, r⟩ := h; exact ⟨D, h.kept hg hne, r⟩
theorem CMap.below {k : Nat} {W W' : World} {gs : List Int} {m n : Nat} (h : CMap W gs m n) (hb : Below k W W') (hn : m < k) : CMap W' gs m n := by
  obtain ⟨D, ⟨es, clock, h1, h2⟩, r⟩ := h
  exact ⟨D, ⟨es, clock, (hb.block m hn).trans h1, h2⟩, r⟩
theorem CMap.lt {W : World} {gs : List Int} {m n : Nat} (h : CMap W gs m n) : m < W.heap.size := by obtain ⟨D, h, _⟩ := h; exact h.lt
theorem wf_nat {n : Nat} (h : n ≤ 1048576) : (Lit.int .i64 (n : Int)).wf = true := by simp [Lit.wf, IntKind.min, IntKind.max, IntKind.signed, IntKind.bits]; omega
theorem CMap.put {w : World} {gs : List Int} {m n : Nat} (ht : tasksOk gs = true) (hc : ∀ i, i ≤ n → IsSt gs (playS gs i)) (h : CMap w gs m n) (hf : Fresh gs (n + 1)) (hn : n ≤ 1048576) :
    ∃ w', (Instr.mapUpdate 71 (.map (some m)) (arrV (playS gs n)) (.int .i64 (n : Int))).run Try.prog w = .ok () w' ∧ CMap w' gs m (n + 1) ∧ w.grownBy w' (some m) := by
  obtain ⟨D, hown, h1, h2⟩ := h
  have hkey := keyOf8 (byt_st ht (hc n (Nat.le_refl n)))
  have hkl := law8.key hkey
  obtain ⟨w', hrun, r1, r2⟩ := hown.update law8 Try.underlying71 (by unfold maxLen; omega) hkey (plainElem_int Try.underlying3 (wf_nat hn))
  refine ⟨w', hrun, ⟨_, r1, fun x hx => ?_, fun i hi z => ?_⟩, r2⟩
  · by_cases e : x = playS gs n
    · subst e
      rw [Maps.has_put_same hown.isMap hkl]
      exact ⟨fun _ => ⟨n, by omega, rfl⟩, fun _ => rfl⟩
    · have hne : klit x ≠ klit (playS gs n) := fun e2 => e (klit_st ht hx (hc n (Nat.le_refl n)) e2)
      rw [Maps.has_put_other hne, h1 x hx]
      constructor
      · rintro ⟨i, hi, he⟩; exact ⟨i, by omega, he⟩
      · rintro ⟨i, hi, he⟩
        by_cases ei : i = n
        · subst ei; exact absurd he.symm e
        · exact ⟨i, by omega, he⟩
  · by_cases ei : i = n
    · subst ei; rw [Maps.atKey_put_same hown.isMap hkl]
    · have hne : klit (playS gs i) ≠ klit (playS gs n) := fun e2 => hf i n (by omega) (by omega) (klit_st ht (hc i (by omega)) (hc n (Nat.le_refl n)) e2)
      rw [Maps.atKey_put_other hne]; exact h2 i (by omega) z
theorem zeroInt (w : World) : (zeroValue 3).run Try.prog w = .ok (.int .i64 0) w := by kernel_rfl
/-- 'at, again := came[state]' -/
theorem CMap.look {w : World} {gs : List Int} {m n : Nat} (ht : tasksOk gs = true) (hc : ∀ i, i ≤ n → IsSt gs (playS gs i)) (h : CMap w gs m n) (hf : Fresh gs n) :
    (∃ a, Again gs a n ∧ (Instr.lookup 71 (.map (some m)) (arrV (playS gs n)) true).run Try.prog w = .ok (.tuple #[.int .i64 (a : Int), .bool true]) w) ∨
    (Fresh gs (n + 1) ∧ (Instr.lookup 71 (.map (some m)) (arrV (playS gs n)) true).run Try.prog w = .ok (.tuple #[.int .i64 0, .bool false]) w) := by
  obtain ⟨D, hown, h1, h2⟩ := h
  have hst := (hc n (Nat.le_refl n))
  obtain ⟨v, ps, hrun, hv⟩ := hown.look_ok law8 Try.underlying71 (zeroInt w) (plainElem_int Try.underlying3 (wf_nat (n := 0) (by omega))) (keyOf8 (byt_st ht hst))
  rw [hrun]
  cases hh : Maps.has D (klit (playS gs n))
  · right
    have hno : ∀ i, i < n → playS gs i ≠ playS gs n := fun i hi e => by rw [(h1 _ hst).2 ⟨i, hi, e⟩] at hh; cases hh
    rw [Maps.atKey_of_not_has hh] at hv
    obtain ⟨a, rfl, ha, _⟩ := plainElem_int_inv Try.underlying3 hv
    simp at ha
    exact ⟨fresh_next hf hno, by rw [ha.1]⟩
  · left
    obtain ⟨i, hi, he⟩ := (h1 _ hst).1 hh
    have ha := h2 i hi (.lit (.int .i64 (0 : Int)))
    rw [he] at ha
    rw [ha] at hv
    obtain ⟨a, rfl, ha2, _⟩ := plainElem_int_inv Try.underlying3 hv
    simp at ha2
    exact ⟨i, ⟨hf, hi, he⟩, by rw [← ha2.1]⟩

/-- the first choice that keeps a state -/
theorem keepN_head {gs st : List Int} {j : Nat} (hno : keepN gs st j = []) (hk : Kpc gs st ((j : Int) - 1)) : ∀ d, (keepN gs st (j + 1 + d)).head? = some ((j : Int) - 1) := by
  intro d
  induction d with
  | zero => rw [Nat.add_zero, keepN_yes hk, hno]; rfl
  | succ d ih =>
    rw [← Nat.add_assoc, keepN_succ]
    cases hkk : keepN gs st (j + 1 + d) with
    | nil => rw [hkk] at ih; cases ih
    | cons x xs => rw [hkk] at ih; exact ih
theorem play_head {gs st : List Int} {j : Nat} (hj : j < gs.length + 1) (hno : keepN gs st j = []) (hk : Kpc gs st ((j : Int) - 1)) : playC1 gs st = (j : Int) - 1 := by
  have := keepN_head hno hk (gs.length - j)
  rw [show j + 1 + (gs.length - j) = gs.length + 1 by omega] at this
  unfold playC1 keepL
  cases hkk : keepN gs st (gs.length + 1) with
  | nil => rw [hkk] at this; cases this
  | cons x xs => rw [hkk] at this; simpa using this

set_option maxRecDepth 100000 in
set_option maxHeartbeats 8000000 in
/-- slices.Clone of a part that may be empty -/
theorem clonePart_c (b off cap : Nat) (zs : List Int) (w : World) (hI : Ints w.heap.size w (.slice (some ⟨b, off, none⟩) zs.length cap) zs) (hl : zs.length ≤ 1048576) :
    Calls Try.prog 71 #[.slice (some ⟨b, off, none⟩) zs.length cap] w (GivesI w zs id) := by
  obtain ⟨i0, hi, hz0, hz1, hz2⟩ := info_parts Try.infoI2
  have hB0 : Below w.heap.size w (w.alloc (.cells #[] 2)) := (Below.refl _ w).alloc (Nat.le_refl _) _
  have hnil : ∀ W, (binOp .eql 22 (.slice (some ⟨b, off, none⟩) zs.length cap) (.slice none 0 0)).run Try.prog W = .ok (.bool false) W := fun W => Lib.run_eql_slice_nil W _ _ _ _ _ _ _ Try.underlying22
  go_enter Try.func71, Try.ntmps71
  go_wp2_with (at_builtin; refine wpList_append_own _ rfl _ _ 22 rfl w.heap.size 2 i0 (.int .i64 0) 1 8 Try.underlying22 hi hz0 hz1 hz2 rfl (by decide) _ _ _ rfl (ownI_empty w) ⟨b, off, none⟩ zs.length cap (zs.map (.int .i64)) rfl (by simp) (cells_src (hI.below hB0)) (cells_one zs) (by unfold maxLen; simp; omega) (by simp; omega) (by simp) ?_)
  intro v' w1 hown' hgrow _
  have ho : OwnI w.heap.size w1 v' zs := by have := ownI_app (xs := []) (ys := zs) (by simpa using hown'); simpa using this
  have hB : Below w.heap.size w w1 := hB0.grown hgrow (by simp) (fun j e => by simp [Value.ownBlock] at e; omega)
  clear hown' hgrow
  go_wp2
  go_ret
  exact ⟨_, rfl, ho, hB⟩

end Go.Proofs.Ytmmpoaphjjpjaaa
