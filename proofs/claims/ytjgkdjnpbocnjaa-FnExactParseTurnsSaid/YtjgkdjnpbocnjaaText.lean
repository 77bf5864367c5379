/-
  TurnsText of the program: the letter of a turn.
  Conditions: turns from -1 to 7.
-/
import Derived.Test.YtjgkdjnpbocnjaaClone
namespace Go.Proofs.Ytjgkdjnpbocnjaa
open Go.RowKit Go.Shelf
attribute [local go_sem] Oper.semAt_some

/-- the byte of a turn, and its text -/
def letB (x : Int) : UInt8 := if x < 0 then 46 else UInt8.ofNat (97 + x.toNat)
def letT (x : Int) : ByteArray := ⟨#[letB x]⟩

set_option maxRecDepth 100000 in
set_option maxHeartbeats 4000000 in
theorem letterOf_c (x : Int) (w : World) (h0 : -1 ≤ x) (h1 : x < 8) : Calls Try.prog 72 #[.int .i64 x] w fun e w' => e = .returned (.string (letT x)) ∧ w = w' := by
  obtain rfl | rfl | rfl | rfl | rfl | rfl | rfl | rfl | rfl : x = -1 ∨ x = 0 ∨ x = 1 ∨ x = 2 ∨ x = 3 ∨ x = 4 ∨ x = 5 ∨ x = 6 ∨ x = 7 := by omega
  all_goals
    go_enter Try.func72, Try.ntmps72
    go_wp2
    go_ret
    exact ⟨rfl, rfl⟩

end Go.Proofs.Ytjgkdjnpbocnjaa
