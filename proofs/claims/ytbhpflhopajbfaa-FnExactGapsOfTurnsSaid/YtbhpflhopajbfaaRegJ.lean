/-
  A region within a round of which two operations may come up next.
  Conditions: no operation of the region defers.
-/
import Derived.Test.YtbhpflhopajbfaaRegI
namespace Go.Proofs.Ytbhpflhopajbfaa
open Go.RowKit Go.Shelf
section
variable {P : Program} {ops : Array Oper} {Q : Exit → Act → World → Prop} {md : Region.Mode} {S : World → Prop} {l n : Nat}
theorem anyIH_two {i j : Nat} {o o' : Oper} {fuel : Nat} {listed : Array Bool} {a : Act} {w : World} (hr : Region.ready md ops listed = [i, j]) (ho : ops[i]? = some o) (ho' : ops[j]? = some o')
    (h : ∀ K' : Act → World → Prop, Shut (∀ a w, S w → (S w → wpAnyIH l n P md ops Q S fuel (listed.setIfInBounds i true) a w) → K' a w) → if Region.wanted o (yielded ops a.tmps) = true then Oper.wpIn (Fence.wide.inRound l) n P o a w K' Q else K' (a.put o.dst undef) w)
    (h' : ∀ K' : Act → World → Prop, Shut (∀ a w, S w → (S w → wpAnyIH l n P md ops Q S fuel (listed.setIfInBounds j true) a w) → K' a w) → if Region.wanted o' (yielded ops a.tmps) = true then Oper.wpIn (Fence.wide.inRound l) n P o' a w K' Q else K' (a.put o'.dst undef) w) :
    wpAnyIH l n P md ops Q S (fuel + 1) listed a w :=
  ⟨fun h0 => absurd (hr ▸ h0) (by simp), by
    rw [hr]
    intro k hk
    rcases List.mem_cons.1 hk with rfl | hk
    · exact opIn_step ho fun K' hK => h K' (fun a w hS hW => hK a w ⟨hS, hW hS⟩)
    · obtain rfl : k = j := by simpa using hk
      exact opIn_step ho' fun K' hK => h' K' (fun a w hS hW => hK a w ⟨hS, hW hS⟩)⟩
end

end Go.Proofs.Ytbhpflhopajbfaa
