/-
  FirstMiss: the program's hasMissAt; FirstMiss of both.
  Conditions: lists of at most 1048576 elements.
-/
import Derived.Test.YtnhdfpmjebfjmaaServe
import Derived.Test.YtnhdfpmjebfjmaaReg
namespace Go.Proofs.Ytnhdfpmjebfjmaa
open Go.RowKit Go.Shelf
attribute [local go_sem] Oper.semAt_some

/-- the task i has no turn in the first g slots from the slot s on -/
def missTo (ts : List Int) (s : Nat) (i : Int) (g : Nat) : Bool := (List.range g).all fun (n : Nat) => nth ts ((s + n) % ts.length) != i
theorem missTo_succ (ts : List Int) (s : Nat) (i : Int) (g : Nat) : missTo ts s i (g + 1) = (missTo ts s i g && (nth ts ((s + g) % ts.length) != i)) := by simp [missTo, List.range_succ]
theorem missTo_false {ts : List Int} {s : Nat} {i : Int} {k g : Nat} (hk : k < g) (h : nth ts ((s + k) % ts.length) = i) : missTo ts s i g = false := by
  unfold missTo; rw [List.all_eq_false]; exact ⟨k, by simpa using hk, by simp [h]⟩

def missAt (zs ts : List Int) (s i : Nat) : Bool := missTo ts s (i : Int) (nth zs i).toNat
def missI (zs ts : List Int) (s : Nat) : Option Nat := (List.range zs.length).find? fun i => missAt zs ts s i
def missS (zs ts : List Int) : Option Nat := (List.range ts.length).find? fun s => (missI zs ts s).isSome
def fm0 (zs ts : List Int) : Int := if codeOf zs ts = 0 then ((missS zs ts).getD 0 : Nat) else 0
def fm1 (zs ts : List Int) : Int := if codeOf zs ts = 0 then (((missS zs ts).bind (missI zs ts)).getD 0 : Nat) else 0
def fm2 (zs ts : List Int) : Int := if codeOf zs ts = 0 then if (missS zs ts).isSome then 0 else 4 else codeOf zs ts
theorem OwnFrom.ex {β γ : Type} {B : Nat} {J : β → γ → World → Prop} (h : ∀ c, OwnFrom B (fun s W => J s c W)) : OwnFrom B (fun s W => ∃ c, J s c W) :=
  fun s A X row ⟨c, hc⟩ hg hr => ⟨c, h c s A X row hc hg hr⟩
theorem missI_none {zs ts : List Int} {s : Nat} (h : ∀ i, i < zs.length → missAt zs ts s i = false) : missI zs ts s = none := by
  unfold missI; rw [List.find?_eq_none]; intro i hi; simp [h i (by simpa using hi)]
theorem missI_some {zs ts : List Int} {s i : Nat} (hi : i < zs.length) (h : ∀ j, j < i → missAt zs ts s j = false) (hm : missAt zs ts s i = true) : missI zs ts s = some i := by
  unfold missI; rw [List.find?_range_eq_some]; exact ⟨hm, by simpa using hi, fun j hj => by simp [h j hj]⟩
theorem missS_none {zs ts : List Int} (h : ∀ s, s < ts.length → missI zs ts s = none) : missS zs ts = none := by
  unfold missS; rw [List.find?_eq_none]; intro i hi; simp [h i (by simpa using hi)]
theorem missS_some {zs ts : List Int} {s i : Nat} (hs : s < ts.length) (h : ∀ j, j < s → missI zs ts j = none) (hm : missI zs ts s = some i) : missS zs ts = some s := by
  unfold missS; rw [List.find?_range_eq_some]; exact ⟨by simp [hm], by simpa using hs, fun j hj => by simp [h j hj]⟩

theorem fm_hit {zs ts : List Int} {s i : Nat} (hc : codeOf zs ts = 0) (hs : s < ts.length) (hi : i < zs.length) (hno : ∀ j, j < s → missI zs ts j = none) (hno2 : ∀ j, j < i → missAt zs ts s j = false) (hm : missAt zs ts s i = true) :
    fm0 zs ts = s ∧ fm1 zs ts = i ∧ fm2 zs ts = 0 := by
  have h1 := missI_some hi hno2 hm
  have h2 := missS_some hs hno h1
  unfold fm0 fm1 fm2; rw [if_pos hc, if_pos hc, if_pos hc, h2]; simp [h1]
theorem fm_none {zs ts : List Int} (hc : codeOf zs ts = 0) (hno : ∀ s, s < ts.length → missI zs ts s = none) : fm0 zs ts = 0 ∧ fm1 zs ts = 0 ∧ fm2 zs ts = 4 := by
  have h2 := missS_none hno
  unfold fm0 fm1 fm2; rw [if_pos hc, if_pos hc, if_pos hc, h2]; simp
theorem fm_err {zs ts : List Int} (hc : codeOf zs ts ≠ 0) : fm0 zs ts = 0 ∧ fm1 zs ts = 0 ∧ fm2 zs ts = codeOf zs ts := by
  unfold fm0 fm1 fm2; rw [if_neg hc, if_neg hc, if_neg hc]; simp
theorem below_set3 {B : Nat} {a W : World} (h : Below B a W) {x y z : Nat} {u v t : Value} (hx : B ≤ x) (hy : B ≤ y) (hz : B ≤ z) :
    Below B a (((W.setCell ⟨x, 0, none⟩ u).setCell ⟨y, 0, none⟩ v).setCell ⟨z, 0, none⟩ t) := ((h.setCell (p := ⟨x, 0, none⟩) hx u).setCell (p := ⟨y, 0, none⟩) hy v).setCell (p := ⟨z, 0, none⟩) hz t
theorem held3 {W : World} {x y z D : Nat} {u v t : Value} (hK : W.heap[D]? = some (.deferred (some []))) :
    (((W.setCell ⟨x, 0, none⟩ u).setCell ⟨y, 0, none⟩ v).setCell ⟨z, 0, none⟩ t).heap[D]? = some (.deferred (some [])) :=
  (KeepsOthers.setCell _ ⟨z, 0, none⟩ t).same D _ ((KeepsOthers.setCell _ ⟨y, 0, none⟩ v).same D _ ((KeepsOthers.setCell W ⟨x, 0, none⟩ u).same D _ hK rfl) rfl) rfl
theorem box3 {W : World} {x y z : Nat} {tx ty tz : TypeId} {u0 v0 t0 u v t : Value} (hx : Boxed W x tx u0) (hy : Boxed W y ty v0) (hz : Boxed W z tz t0) (h1 : x ≠ y) (h2 : x ≠ z) (h3 : y ≠ z) :
    Boxed (((W.setCell ⟨x, 0, none⟩ u).setCell ⟨y, 0, none⟩ v).setCell ⟨z, 0, none⟩ t) x tx u ∧ Boxed (((W.setCell ⟨x, 0, none⟩ u).setCell ⟨y, 0, none⟩ v).setCell ⟨z, 0, none⟩ t) y ty v ∧ Boxed (((W.setCell ⟨x, 0, none⟩ u).setCell ⟨y, 0, none⟩ v).setCell ⟨z, 0, none⟩ t) z tz t :=
  ⟨((hx.set u).other (by omega) _).other (by omega) _, ((hy.other (by omega) _).set v).other (by omega) _, ((hz.other (by omega) _).other (by omega) _).set t⟩
theorem ret_i3 {a b c a' b' c' : Int} (h1 : a = a') (h2 : b = b') (h3 : c = c') : Ending.returned (.tuple #[.int .i64 a, .int .i64 b, .int .i64 c]) = .returned (.tuple #[.int .i64 a', .int .i64 b', .int .i64 c']) := by rw [h1, h2, h3]

end Go.Proofs.Ytnhdfpmjebfjmaa
