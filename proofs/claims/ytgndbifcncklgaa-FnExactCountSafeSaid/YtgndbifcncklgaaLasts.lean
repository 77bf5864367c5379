/-
  The program's search for lasting states: keep, keeping, lasts.
  Conditions: states of tasks.
-/
import Derived.Test.YtgndbifcncklgaaKnow
namespace Go.Proofs.Ytgndbifcncklgaa
open Go.RowKit Go.Shelf Go.Maps
attribute [local go_sem] Oper.semAt_some

theorem grown_of_below {w w' : World} {row : Option Nat} (h : Below w.heap.size w w') : w.grownBy w' row := ⟨h.os, h.tape, h.output, h.size, fun k hk _ => h.block k hk⟩
/-- what the search hands back -/
def LastPost (gs : List Int) (m B : Nat) (K : Known) (st : List Int) (w : World) (e : Ending) (w' : World) : Prop :=
  ∃ r K', e = .returned (.bool r) ∧ KMap w' gs m B K' ∧ KDone gs K st r K' ∧ w.grownBy w' (some m)
/-- what keep hands back -/
def KeepPost (gs : List Int) (m B : Nat) (K : Known) (st : List Int) (c : Int) (w : World) (e : Ending) (w' : World) : Prop :=
  w.grownBy w' (some m) ∧ ((¬ Opn st c ∧ e = .returned (.tuple #[arrV [], .bool false]) ∧ KMap w' gs m B K) ∨
    (Opn st c ∧ ∃ r K', e = .returned (.tuple #[arrV (stepL gs st c), .bool r]) ∧ KMap w' gs m B K' ∧ KDone gs K (stepL gs st c) r K'))

theorem grown_drew (W : World) (row : Option Nat) : W.grownBy W.drew row := ⟨rfl, rfl, rfl, Nat.le_refl _, fun _ _ _ => rfl⟩
theorem outl_ne {w : World} {bO m B : Nat} {gs : List Int} {K : Known} (hO : Outl w bO gs m) (hM : KMap w gs m B K) : bO ≠ m := by
  rintro rfl
  obtain ⟨n, D, ⟨es, cl, h, _⟩, _⟩ := hM
  rw [show w.heap[bO]? = _ from hO] at h
  cases h
theorem Outl.grown {w w' : World} {bO m B : Nat} {gs : List Int} {K : Known} (hO : Outl w bO gs m) (hM : KMap w gs m B K) (hg : w.grownBy w' (some m)) : Outl w' bO gs m :=
  hO.kept hg (fun e => outl_ne hO hM (by simpa using e))

end Go.Proofs.Ytgndbifcncklgaa
