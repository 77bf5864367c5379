/-
  Functions in which a loop holds a range over a function: each round leaves a record of deferred calls; a return shuts them all.
  Conditions: none.
-/
import Derived.Test.YtlgjnceedjbakaaSortK
namespace Go.Proofs.Ytlgjnceedjbakaa
open Go.RowKit Go.Shelf
attribute [local go_sem] Oper.semAt_some

/-- the record of deferred calls in the block D -/
def recD (D : Nat) : Deferred := { target := .collected D, args := #[] }
/-- all of ds are shut -/
def shutAll (W : World) : List Nat → World
  | [] => W
  | D :: ds => shutAll (W.putObj D (.deferred none)) ds
/-- ds are open records, each once -/
structure Opens (W : World) (ds : List Nat) : Prop where
  nodup : ds.Nodup
  all : ∀ D ∈ ds, W.heap[D]? = some (.deferred (some []))
theorem Opens.nil (W : World) : Opens W [] := ⟨List.nodup_nil, by simp⟩
theorem Opens.lt {W : World} {ds : List Nat} (h : Opens W ds) {D : Nat} (hD : D ∈ ds) : D < W.heap.size := (Array.getElem?_eq_some_iff.1 (h.all D hD)).1
theorem Opens.tail {W : World} {D : Nat} {ds : List Nat} (h : Opens W (D :: ds)) : Opens (W.putObj D (.deferred none)) ds := by
  obtain ⟨h1, h2⟩ := List.nodup_cons.1 h.nodup
  exact ⟨h2, fun E hE => (World.putObj_heap_other (by rintro rfl; exact h1 hE)).trans (h.all E (by simp [hE]))⟩
theorem Opens.cons {W : World} {D lo : Nat} {ds : List Nat} (h : Opens W ds) (hD : W.heap[D]? = some (.deferred (some []))) (hn : ∀ E ∈ ds, E < lo) (hlo : lo ≤ D) : Opens W (D :: ds) := by
  refine ⟨List.nodup_cons.2 ⟨fun hm => by have := hn D hm; omega, h.nodup⟩, fun E hE => ?_⟩
  rcases List.mem_cons.1 hE with rfl | hE
  · exact hD
  · exact h.all E hE
theorem Opens.below {W W' : World} {ds : List Nat} (h : Opens W ds) (hb : Below W.heap.size W W') : Opens W' ds := ⟨h.nodup, fun D hD => (hb.block D (h.lt hD)).trans (h.all D hD)⟩
theorem Opens.setCell {W : World} {ds : List Nat} (h : Opens W ds) (a : Addr) (v : Value) : Opens (W.setCell a v) ds := ⟨h.nodup, fun D hD => (KeepsOthers.setCell W a v).same D _ (h.all D hD) rfl⟩
theorem Opens.alloc {W : World} {ds : List Nat} (h : Opens W ds) (o : Obj) : Opens (W.alloc o) ds := h.below ((Below.refl _ _).alloc (Nat.le_refl _) _)
theorem opens_own {β : Type} {B : Nat} {ds : List Nat} (h : ∀ D ∈ ds, D < B) : OwnFrom B (fun (_ : β) W => Opens W ds) := fun s W W' row hs hg hr =>
  ⟨hs.nodup, fun D hD => ownFrom_deferred (β := β) (h D hD) s W W' row (hs.all D hD) hg hr⟩
theorem retMs {F : Fence} {n : Nat} {P : Program} {fn : Func} {R : Ending → World → Prop} {tmps : Array Value} {W : World} {ds : List Nat} (h : Opens W ds)
    (hR : ∃ v, (results fn tmps).run P (shutAll W ds) = .ok v (shutAll W ds) ∧ R (.returned v) (shutAll W ds)) :
    bodyPostM F n P fn R .ret { tmps := tmps, defers := ds.map recD } W := by
  show LeavesInM F n P fn tmps R (ds.map recD) .returning W
  induction ds generalizing W with
  | nil => exact hR
  | cons D ds ih => exact ⟨by simp, .inl ⟨_, _, rfl, run_takeDeferred (h.all D (by simp)), ih h.tail hR⟩⟩
theorem below_shutAll {B : Nat} {w W : World} {ds : List Nat} (h : Below B w W) (hd : ∀ D ∈ ds, B ≤ D) : Below B w (shutAll W ds) := by
  induction ds generalizing W with
  | nil => exact h
  | cons D ds ih => exact ih (below_shut h (hd D (by simp))) (fun E hE => hd E (by simp [hE]))
theorem OwnI.shutAll {B : Nat} {W : World} {ds : List Nat} {v : Value} {zs : List Int} (h : OwnI B W v zs) (ho : Opens W ds) : OwnI B (shutAll W ds) v zs := by
  induction ds generalizing W with
  | nil => exact h
  | cons D ds ih => exact ih (h.shut (ho.all D (by simp))) ho.tail
theorem size_shutAll (W : World) (ds : List Nat) : (shutAll W ds).heap.size = W.heap.size := by
  induction ds generalizing W with
  | nil => rfl
  | cons D ds ih => rw [Go.Proofs.Ytlgjnceedjbakaa.shutAll, ih]; simp [World.putObj]

end Go.Proofs.Ytlgjnceedjbakaa
