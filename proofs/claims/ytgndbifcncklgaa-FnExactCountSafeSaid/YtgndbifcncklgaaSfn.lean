/-
  States of a ground and tasks as keys of a map: what the watcher's map knows.
  Conditions: states of tasks.
-/
import Derived.Maps.OwnIn
import Derived.Maps.OwnSet
import Derived.Maps.Views
import Derived.DeepKeys4
import Derived.WideKeyPair
import Derived.Test.YtgndbifcncklgaaRow
import Derived.Test.YtgndbifcncklgaaKnow
import Derived.Test.YtgndbifcncklgaaSfk
namespace Go.Proofs.Ytgndbifcncklgaa
open Go.RowKit Go.Shelf Go.Maps
attribute [local go_sem] Oper.semAt_some

/-- the cells of a state -/
def wC (x : Wst) : Array Value := #[.int .i64 (x.2 : Int), .int .u8 (nth x.1 0), .int .u8 (nth x.1 1), .int .u8 (nth x.1 2), .int .u8 (nth x.1 3), .int .u8 (nth x.1 4), .int .u8 (nth x.1 5), .int .u8 (nth x.1 6), .int .u8 (nth x.1 7)]
def wV (x : Wst) : Value := .agg (wC x)
theorem lawW : Keyed Try.prog 66 := Keyed.of_law (deep_law_laid (m := 100) laidT (by omega) (of_decide_eq_true (by kernel_rfl)) (by kernel_rfl) (by kernel_rfl))
theorem wf_place {n : Nat} (h : n ≤ 1000) : (Lit.int .i64 (n : Int)).wf = true := by simp [Lit.wf, IntKind.min, IntKind.max, IntKind.signed, IntKind.bits]; omega
theorem cellsOfS : Try.prog.cellsOf 64 = 8 := by kernel_rfl
theorem cellsOfW : Try.prog.cellsOf 66 = 9 := by kernel_rfl
theorem cellsOfI : Try.prog.cellsOf 2 = 1 := by kernel_rfl
theorem keyTypeW : Try.prog.keyType 66 = true := by kernel_rfl
def klitW (x : Wst) : Lit := .string (keyBytes (.int .i64 (x.2 : Int) :: lits8 x.1))
theorem keyOfW {x : Wst} (h : Byt x.1) (h2 : x.2 ≤ 1000) : keyOf Try.prog 66 (wV x) = some (klitW x) := by
  have hsz : ∃ m, Try.prog.types.size = m + 2 := ⟨Try.prog.types.size - 2, by have : 2 ≤ Try.prog.types.size := (by kernel_rfl : decide (2 ≤ Try.prog.types.size) = true) |> of_decide_eq_true; omega⟩
  have w0 := wf_byte (h 0 (by omega)); have w1 := wf_byte (h 1 (by omega)); have w2 := wf_byte (h 2 (by omega)); have w3 := wf_byte (h 3 (by omega))
  have w4 := wf_byte (h 4 (by omega)); have w5 := wf_byte (h 5 (by omega)); have w6 := wf_byte (h 6 (by omega)); have w7 := wf_byte (h 7 (by omega))
  have wp := wf_place h2
  obtain ⟨m, hm⟩ := hsz
  have a1 : Try.prog.keyLits (m + 2) 2 [Value.int IntKind.i64 (x.2 : Int)] = some [.int .i64 (x.2 : Int)] := by simp [Program.keyLits, Try.underlying2, wp]
  have a2 : Try.prog.keyLits (m + 2) 64 [Value.int IntKind.u8 (nth x.1 0), Value.int IntKind.u8 (nth x.1 1), Value.int IntKind.u8 (nth x.1 2), Value.int IntKind.u8 (nth x.1 3), Value.int IntKind.u8 (nth x.1 4), Value.int IntKind.u8 (nth x.1 5), Value.int IntKind.u8 (nth x.1 6), Value.int IntKind.u8 (nth x.1 7)] = some (lits8 x.1) := by
    unfold Program.keyLits lits8
    simp only [arrKey8.hu]
    rw [if_pos (by rw [cellsOfS]; rfl), show List.range 8 = [0, 1, 2, 3, 4, 5, 6, 7] from rfl]
    simp only [List.mapM_cons, List.mapM_nil]
    simp [arrKey8.one, Program.keyLits, Try.underlying5, w0, w1, w2, w3, w4, w5, w6, w7]
  unfold keyOf wV wC klitW
  simp only [Try.underlying66]
  rw [if_pos (by simp [keyTypeW, Value.formed, Try.underlying66, cellsOfW]), hm]
  unfold Program.keyLits
  simp only [Try.underlying66, Value.cells]
  rw [if_pos (by rw [cellsOfW]; exact ⟨rfl, by kernel_rfl⟩)]
  simp [cellsOfI, cellsOfS, a1, a2]
theorem klitW_inj {x y : Wst} (hx : Byt x.1) (hx2 : x.2 ≤ 1000) (hy : Byt y.1) (hy2 : y.2 ≤ 1000) (h : klitW x = klitW y) : x.2 = y.2 ∧ ∀ i, i < 8 → nth x.1 i = nth y.1 i := by
  have h1 := keyOfW hx hx2
  have h2 := keyOfW hy hy2
  rw [h] at h1
  have h3 := lawW.inj h1 h2
  unfold wV wC at h3
  simp only [Value.agg.injEq, Array.mk.injEq, List.cons.injEq, Value.int.injEq, true_and, and_true] at h3
  obtain ⟨e, e0, e1, e2, e3, e4, e5, e6, e7⟩ := h3
  refine ⟨by omega, fun i hi => ?_⟩
  have h9 : i = 0 ∨ i = 1 ∨ i = 2 ∨ i = 3 ∨ i = 4 ∨ i = 5 ∨ i = 6 ∨ i = 7 := by omega
  rcases h9 with rfl | rfl | rfl | rfl | rfl | rfl | rfl | rfl <;> assumption
theorem klitW_st {zs : List Int} {x y : Wst} (ht : tasksOk zs = true) (hx : IsW zs x) (hy : IsW zs y) (h : klitW x = klitW y) : x = y := by
  have h8 := (tasksOk_len ht).2
  obtain ⟨e1, e2⟩ := klitW_inj (byt_st ht hx.1) (by have := hx.2.1; omega) (byt_st ht hy.1) (by have := hy.2.1; omega) h
  obtain ⟨xs, xa⟩ := x
  obtain ⟨ys, ya⟩ := y
  simp only at e1 e2
  have hl := hx.1.1
  have hl2 := hy.1.1
  simp only at hl hl2
  have : xs = ys := ext_nth (by rw [hl, hl2]) fun i hi => e2 i (by rw [hl] at hi; omega)
  rw [this, e1]
theorem key_ok {zs : List Int} {x : Wst} (ht : tasksOk zs = true) (hx : IsW zs x) : keyOf Try.prog 66 (wV x) = some (klitW x) :=
  keyOfW (byt_st ht hx.1) (by have := hx.2.1; have := (tasksOk_len ht).2; omega)

/-! ### what the map knows -/
def TellsW (zs : List Int) (D : DataW Unit) (K : KnW) : Prop :=
  (∀ x, ¬ IsW zs x → K x = none) ∧ ∀ x, IsW zs x → (K x = none ∧ Maps.has D (klitW x) = false) ∨ ∃ b, K x = some b ∧ Maps.has D (klitW x) = true ∧ ∀ z, D.atKey (klitW x) z = .lit (.bool b)
/-- the map in the block m; at most B stores are made in all -/
def KMapW (W : World) (zs : List Int) (m B : Nat) (K : KnW) : Prop :=
  ∃ n D, W.ownsMap Try.prog 66 (plainElem Try.prog 4) m n D ∧ n ≤ B ∧ TellsW zs D K
theorem KMapW.lt {W : World} {zs : List Int} {m B : Nat} {K : KnW} (h : KMapW W zs m B K) : m < W.heap.size := by obtain ⟨n, D, h, _⟩ := h; exact h.lt
theorem KMapW.kept {W W' : World} {row : Option Nat} {zs : List Int} {m B : Nat} {K : KnW} (h : KMapW W zs m B K) (hg : W.grownBy W' row) (hne : some m ≠ row) : KMapW W' zs m B K := by
  obtain ⟨n, D, h, r⟩ := h; exact ⟨n, D, h.kept hg hne, r⟩
theorem KMapW.later {W W' : World} {zs : List Int} {m B : Nat} {K : KnW} (h : KMapW W zs m B K) (hb : Below W.heap.size W W') : KMapW W' zs m B K := by
  obtain ⟨k, D, h0, r⟩ := h
  have hlt := h0.lt
  obtain ⟨es, clock, h1, h2⟩ := h0
  exact ⟨k, D, ⟨es, clock, (hb.block m hlt).trans h1, h2⟩, r⟩
theorem KMapW.ne_cells {W : World} {zs : List Int} {m B b : Nat} {K : KnW} {cs : Array Value} {t : TypeId} {f : Nat × Nat} (h : KMapW W zs m B K) (hb : W.heap[b]? = some (.cells cs t f)) : b ≠ m := by
  rintro rfl
  obtain ⟨n, D, ⟨es, clock, h1, h2⟩, r⟩ := h
  rw [hb] at h1; cases h1
theorem KMapW.new {W : World} {zs : List Int} {m : Nat} (h : W.heap[m]? = some (.map #[] 0)) : KMapW W zs m 0 (fun _ => none) := by
  have h0 := World.ownsMap_made (H := Unit) W Try.prog 66 (plainElem Try.prog 4)
  obtain ⟨es, clock, h1, h2⟩ := h0
  have h3 := World.alloc_heap_new W (.map #[] 0)
  rw [h3] at h1
  obtain ⟨rfl, rfl⟩ : #[] = es ∧ 0 = clock := by simpa using h1
  exact ⟨0, .map [], ⟨_, _, h, h2⟩, Nat.le_refl _, fun _ _ => rfl, fun x _ => .inl ⟨rfl, by simp [Maps.has]⟩⟩
theorem tellsW_put {zs : List Int} {D : DataW Unit} {K : KnW} (ht : tasksOk zs = true) (hD : Maps.IsMap D) (h : TellsW zs D K) {x : Wst} (hs : IsW zs x) (r : Bool) : TellsW zs (D.put (klitW x) (.lit (.bool r))) (kputW K x r) := by
  have hkl := lawW.key (key_ok ht hs)
  refine ⟨fun y hy => ?_, fun y hy => ?_⟩
  · have e : y ≠ x := fun e => hy (e ▸ hs)
    rw [kputW_other e]; exact h.1 y hy
  · by_cases e : y = x
    · subst e
      exact .inr ⟨r, kputW_same _ _ _, Maps.has_put_same hD hkl _, fun z => by rw [Maps.atKey_put_same hD hkl]⟩
    · have hne : klitW y ≠ klitW x := fun e2 => e (klitW_st ht hy hs e2)
      rw [kputW_other e, Maps.has_put_other hne]
      rcases h.2 y hy with h1 | ⟨b, h1, h2, h3⟩
      · exact .inl h1
      · exact .inr ⟨b, h1, h2, fun z => by rw [Maps.atKey_put_other hne]; exact h3 z⟩
theorem KMapW.put {w : World} {zs : List Int} {m B : Nat} {K : KnW} (ht : tasksOk zs = true) (h : KMapW w zs m B K) {x : Wst} (hx : IsW zs x) (r : Bool) (hB : B < 1000000000) :
    ∃ w', (Instr.mapUpdate 103 (.map (some m)) (wV x) (.bool r)).run Try.prog w = .ok () w' ∧ KMapW w' zs m (B + 1) (kputW K x r) ∧ w.grownBy w' (some m) := by
  obtain ⟨n, D, hown, hn, hT⟩ := h
  obtain ⟨w', hrun, r1, r2⟩ := hown.update lawW Try.underlying103 (by unfold maxLen; omega) (key_ok ht hx) (plainElem_bool Try.underlying4 r)
  exact ⟨w', hrun, ⟨n + 1, _, r1, by omega, tellsW_put ht hown.isMap hT hx r⟩, r2⟩
theorem plainB_of {P : Program} {e : TypeId} (he : P.underlying e = some .bool) {v : Value} {b : Bool} {ps : List MemPlace} (h : plainElem (H := Unit) P e v = some (.lit (.bool b), ps)) : v = .bool b := by
  unfold plainElem at h
  rw [he] at h
  cases v <;> simp at h
  rw [h.1]
theorem plainB_inv {v : Value} {b : Bool} {ps : List MemPlace} (h : plainElem (H := Unit) Try.prog 4 v = some (.lit (.bool b), ps)) : v = .bool b := plainB_of Try.underlying4 h
theorem zeroBool (w : World) : (zeroValue 4).run Try.prog w = .ok (.bool false) w := by kernel_rfl
theorem KMapW.look {w : World} {zs : List Int} {m B : Nat} {K : KnW} (ht : tasksOk zs = true) (h : KMapW w zs m B K) {x : Wst} (hx : IsW zs x) :
    (Instr.lookup 103 (.map (some m)) (wV x) true).run Try.prog w = .ok (.tuple #[.bool ((K x).getD false), .bool (K x).isSome]) w := by
  obtain ⟨n, D, hown, hn, hT⟩ := h
  obtain ⟨v, ps, hrun, hv⟩ := hown.look_ok lawW Try.underlying103 (zeroBool w) (plainElem_bool Try.underlying4 false) (key_ok ht hx)
  rw [hrun]
  rcases hT.2 x hx with ⟨h1, h2⟩ | ⟨b, h1, h2, h3⟩
  · rw [Maps.atKey_of_not_has h2] at hv
    obtain rfl := plainB_inv hv
    rw [h1, h2]; rfl
  · rw [h3] at hv
    obtain rfl := plainB_inv hv
    rw [h1, h2]; rfl

end Go.Proofs.Ytgndbifcncklgaa
