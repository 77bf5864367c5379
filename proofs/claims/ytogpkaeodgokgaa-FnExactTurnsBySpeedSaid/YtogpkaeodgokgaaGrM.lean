/-
  The map by heights in which the days are kept: keys, look-ups and stores.
  Conditions: heights from 0 to 100000.
-/
import Derived.Maps.OwnIn
import Derived.Maps.OwnSet
import Derived.Maps.Views
import Derived.DeepKeys4
import Derived.WideKeyPair
import Derived.Test.YtogpkaeodgokgaaRow
import Derived.Test.YtogpkaeodgokgaaGrA
namespace Go.Proofs.Ytogpkaeodgokgaa
open Go.RowKit Go.Shelf Go.Maps
attribute [local go_sem] Oper.semAt_some

theorem arrKeyI : WideMaps.ArrKey Try.prog 90 2 8 := ⟨Try.underlying90, by kernel_rfl, by kernel_rfl, by kernel_rfl⟩
theorem lawI : Keyed Try.prog 90 := Keyed.of_law (deep_law_laid (m := 100) laidT (by omega) (of_decide_eq_true (by kernel_rfl)) (by kernel_rfl) (by kernel_rfl))
/-- the lits of an array -/
def litsI (xs : List Int) : List Lit := [.int .i64 (nth xs 0), .int .i64 (nth xs 1), .int .i64 (nth xs 2), .int .i64 (nth xs 3), .int .i64 (nth xs 4), .int .i64 (nth xs 5), .int .i64 (nth xs 6), .int .i64 (nth xs 7)]
def klitI (xs : List Int) : Lit := .string (keyBytes (litsI xs))
/-- heights of a garden -/
def GoodI (rs xs : List Int) : Prop := xs.length = rs.length ∧ ∀ i, 0 ≤ nth xs i ∧ nth xs i ≤ 100000
theorem wf_height {x : Int} (h : 0 ≤ x ∧ x ≤ 100000) : (Lit.int .i64 x).wf = true := by simp [Lit.wf, IntKind.min, IntKind.max, IntKind.signed, IntKind.bits]; omega
theorem keyOfI {xs : List Int} (h : ∀ i, 0 ≤ nth xs i ∧ nth xs i ≤ 100000) : keyOf Try.prog 90 (arI xs) = some (klitI xs) := by
  have hsz : ∃ m, Try.prog.types.size = m + 1 := ⟨Try.prog.types.size - 1, by have : 0 < Try.prog.types.size := (by kernel_rfl : decide (0 < Try.prog.types.size) = true) |> of_decide_eq_true; omega⟩
  have hkt := arrKeyI.keyType hsz
  have w0 := wf_height (h 0); have w1 := wf_height (h 1); have w2 := wf_height (h 2); have w3 := wf_height (h 3)
  have w4 := wf_height (h 4); have w5 := wf_height (h 5); have w6 := wf_height (h 6); have w7 := wf_height (h 7)
  obtain ⟨m, hm⟩ := hsz
  unfold keyOf arI ceI klitI litsI
  simp only [arrKeyI.hu]
  rw [if_pos (by simp [hkt, Value.formed, arrKeyI.hu, arrKeyI.size]), hm]
  unfold Program.keyLits
  simp only [arrKeyI.hu, Value.cells]
  rw [if_pos (by rw [arrKeyI.size]; rfl), show List.range 8 = [0, 1, 2, 3, 4, 5, 6, 7] from rfl]
  simp only [List.mapM_cons, List.mapM_nil]
  simp [arrKeyI.one, Program.keyLits, Try.underlying2, w0, w1, w2, w3, w4, w5, w6, w7]
theorem klitI_inj {rs xs ys : List Int} (h8 : rs.length ≤ 8) (hx : GoodI rs xs) (hy : GoodI rs ys) (h : klitI xs = klitI ys) : xs = ys := by
  have h1 := keyOfI hx.2
  have h2 := keyOfI hy.2
  rw [h] at h1
  have := lawI.inj h1 h2
  unfold arI at this
  exact ext_nth (by rw [hx.1, hy.1]) fun i hi => ceI_inj (by simpa using this) (by rw [hx.1] at hi; omega)
theorem good_st {rs : List Int} (hg : gardenOk rs = true) (x : Int) {n : Nat} (hn : n ≤ 300) : GoodI rs (stG rs x n) := ⟨stG_length rs x n, fun i => by have := stG_bd hg x n i; omega⟩

/-- the map in the block m tells when each of the first n heights came -/
def CMapG (W : World) (rs : List Int) (x : Int) (m n : Nat) : Prop :=
  ∃ D : DataW Unit, W.ownsMap Try.prog 90 (plainElem Try.prog 2) m n D ∧ (∀ xs, GoodI rs xs → (Maps.has D (klitI xs) = true ↔ ∃ i : Nat, i < n ∧ stG rs x i = xs)) ∧ ∀ i : Nat, i < n → ∀ z, D.atKey (klitI (stG rs x i)) z = .lit (.int .i64 (i : Int))
theorem CMapG.new {W : World} {m : Nat} (rs : List Int) (x : Int) (h : W.heap[m]? = some (.map #[] 0)) : CMapG W rs x m 0 := by
  have h0 := World.ownsMap_made (H := Unit) W Try.prog 90 (plainElem Try.prog 2)
  obtain ⟨es, clock, h1, h2⟩ := h0
  have h3 := World.alloc_heap_new W (.map #[] 0)
  rw [h3] at h1
  obtain ⟨rfl, rfl⟩ : #[] = es ∧ 0 = clock := by simpa using h1
  exact ⟨.map [], ⟨_, _, h, h2⟩, fun x _ => by simp [Maps.has], fun i hi => by omega⟩
theorem CMapG.kept {W W' : World} {row : Option Nat} {rs : List Int} {x : Int} {m n : Nat} (h : CMapG W rs x m n) (hg : W.grownBy W' row) (hne : some m ≠ row) : CMapG W' rs x m n := by
  obtain ⟨D, h, r⟩ := h; exact ⟨D, h.kept hg hne, r⟩
theorem CMapG.later {W W' : World} {rs : List Int} {x : Int} {m n : Nat} (h : CMapG W rs x m n) (hb : Below W.heap.size W W') : CMapG W' rs x m n := by
  obtain ⟨D, h0, r⟩ := h
  have hlt := h0.lt
  obtain ⟨es, clock, h1, h2⟩ := h0
  exact ⟨D, ⟨es, clock, (hb.block m hlt).trans h1, h2⟩, r⟩
theorem CMapG.lt {W : World} {rs : List Int} {x : Int} {m n : Nat} (h : CMapG W rs x m n) : m < W.heap.size := by obtain ⟨D, h, _⟩ := h; exact h.lt
theorem CMapG.ne_cells {W : World} {rs : List Int} {x : Int} {m n b : Nat} {cs : Array Value} {t : TypeId} {f : Nat × Nat} (h : CMapG W rs x m n) (hb : W.heap[b]? = some (.cells cs t f)) : b ≠ m := by
  rintro rfl
  obtain ⟨D, ⟨es, clock, h1, h2⟩, r⟩ := h
  rw [hb] at h1; cases h1
theorem wf_day {n : Nat} (h : n ≤ 1048576) : (Lit.int .i64 (n : Int)).wf = true := by simp [Lit.wf, IntKind.min, IntKind.max, IntKind.signed, IntKind.bits]; omega
theorem CMapG.put {w : World} {rs : List Int} {x : Int} {m n : Nat} (hg : gardenOk rs = true) (h : CMapG w rs x m n) (hf : ∀ i, i < n → stG rs x i ≠ stG rs x n) (hn : n ≤ 200) :
    ∃ w', (Instr.mapUpdate 132 (.map (some m)) (arI (stG rs x n)) (.int .i64 (n : Int))).run Try.prog w = .ok () w' ∧ CMapG w' rs x m (n + 1) ∧ w.grownBy w' (some m) := by
  obtain ⟨D, hown, h1, h2⟩ := h
  have h8 := (gardenOk_len hg).2
  have hst := good_st hg x (n := n) (by omega)
  have hkey := keyOfI hst.2
  have hkl := lawI.key hkey
  obtain ⟨w', hrun, r1, r2⟩ := hown.update lawI Try.underlying132 (by unfold maxLen; omega) hkey (plainElem_int Try.underlying2 (wf_day (n := n) (by omega)))
  refine ⟨w', hrun, ⟨_, r1, fun xs hx => ?_, fun i hi z => ?_⟩, r2⟩
  · by_cases e : xs = stG rs x n
    · subst e
      rw [Maps.has_put_same hown.isMap hkl]
      exact ⟨fun _ => ⟨n, by omega, rfl⟩, fun _ => rfl⟩
    · have hne : klitI xs ≠ klitI (stG rs x n) := fun e2 => e (klitI_inj h8 hx hst e2)
      rw [Maps.has_put_other hne, h1 xs hx]
      constructor
      · rintro ⟨i, hi, he⟩; exact ⟨i, by omega, he⟩
      · rintro ⟨i, hi, he⟩
        by_cases ei : i = n
        · subst ei; exact absurd he.symm e
        · exact ⟨i, by omega, he⟩
  · by_cases ei : i = n
    · subst ei; rw [Maps.atKey_put_same hown.isMap hkl]
    · have hne : klitI (stG rs x i) ≠ klitI (stG rs x n) := fun e2 => hf i (by omega) (klitI_inj h8 (good_st hg x (by omega)) hst e2)
      rw [Maps.atKey_put_other hne]; exact h2 i (by omega) z
theorem zeroInt64 (w : World) : (zeroValue 2).run Try.prog w = .ok (.int .i64 0) w := by kernel_rfl
/-- 'ahead, again := came[behind]' -/
theorem CMapG.look {w : World} {rs : List Int} {x : Int} {m n : Nat} (hg : gardenOk rs = true) (h : CMapG w rs x m n) (hn : n ≤ 200) :
    (∃ a, a < n ∧ stG rs x a = stG rs x n ∧ (Instr.lookup 132 (.map (some m)) (arI (stG rs x n)) true).run Try.prog w = .ok (.tuple #[.int .i64 (a : Int), .bool true]) w) ∨
    ((∀ i, i < n → stG rs x i ≠ stG rs x n) ∧ (Instr.lookup 132 (.map (some m)) (arI (stG rs x n)) true).run Try.prog w = .ok (.tuple #[.int .i64 0, .bool false]) w) := by
  obtain ⟨D, hown, h1, h2⟩ := h
  have hst := good_st hg x (n := n) (by omega)
  obtain ⟨v, ps, hrun, hv⟩ := hown.look_ok lawI Try.underlying132 (zeroInt64 w) (plainElem_int Try.underlying2 (wf_day (n := 0) (by omega))) (keyOfI hst.2)
  rw [hrun]
  cases hh : Maps.has D (klitI (stG rs x n))
  · right
    have hno : ∀ i, i < n → stG rs x i ≠ stG rs x n := fun i hi e => by rw [(h1 _ hst).2 ⟨i, hi, e⟩] at hh; cases hh
    rw [Maps.atKey_of_not_has hh] at hv
    obtain ⟨a, rfl, ha, _⟩ := plainElem_int_inv Try.underlying2 hv
    simp at ha
    exact ⟨hno, by rw [ha.1]⟩
  · left
    obtain ⟨i, hi, he⟩ := (h1 _ hst).1 hh
    have ha := h2 i hi (.lit (.int .i64 (0 : Int)))
    rw [he] at ha
    rw [ha] at hv
    obtain ⟨a, rfl, ha2, _⟩ := plainElem_int_inv Try.underlying2 hv
    simp at ha2
    exact ⟨i, hi, he, by rw [← ha2.1]⟩

end Go.Proofs.Ytogpkaeodgokgaa
