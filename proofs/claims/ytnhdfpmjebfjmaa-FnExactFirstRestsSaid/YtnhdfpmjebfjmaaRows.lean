/-
  No cell of these rows narrows 'for every input' (looked for: loops, veiled, ifaces, maps, wideKeys, modest, calm, conditions, laid).
  DERIVED. THE GIVEN ROWS OF THIS SEAT. 10 by the template 'for every input the law returns true; each argument reads behind the call as it read before'; 0 by the template 'total and deterministic' (their statements: YtnhdfpmjebfjmaaTotals.lean).
  GIVEN WITH THE SEED: the statements are not yours to turn. If you find one false, say at which input.
  Laid BY PROGRAM, IN A SANDBOX (cutbox-rows.mjs): the forced cells as the released guide's own fill.sh prints them over the translation a0f0de9cdbbec987… (all of the seat's roots in one cut). By AI agents, Wed Nov 11 2026. No macro, syntax, notation, axiom, sorry.
-/
import Derived.Test.YtnhdfpmjebfjmaaChecked
import GoSem.Claim
import GoSem.ClaimJoined
import GoSem.ClaimMapViews
import Derived.JoinedTies
import Derived.KernelRfl
namespace Go.Proofs.Ytnhdfpmjebfjmaa
/- THE CELL 'sum', in the pinned program and in every row, IS THE sha256 OF THE DUMP (.gsa) THAT YtnhdfpmjebfjmaaProg.lean LOADS. Nothing in Lean hashes anything: it is a label: what it is worth is what the hold of that sum in a sandbox is worth. -/
noncomputable def Try.pinned : Pinned := { name := "ytnhdfpmjebfjmaa", sum := "a0f0de9cdbbec9877dc40fafab6ab854bf44819a1203b8f638175ae37e41ed13", checked := Try.checked }
namespace Rows
def none {H : Type} : Left H := { results := [], args := [] }

/-- 'laws.FnExactFirstRests': WHATEVER THE INPUT: true; the input reads as it did. -/
def fnExactFirstRestsSpec : ChangeSpec := { name := "fnExactFirstRests", fn := fun _ => fun
  | [d] => { results := [.lit (.bool true)], args := [d] }
  | _ => none }
def fnExactFirstRestsRow : OpenClaim := { program := "ytnhdfpmjebfjmaa", sum := "a0f0de9cdbbec9877dc40fafab6ab854bf44819a1203b8f638175ae37e41ed13", func := "loop.example/g01404/laws.FnExactFirstRests", spec := "fnExactFirstRests", unfollowed := true, recurses := true, apart := false }
def FnExactFirstRestsSaid : Prop := fnExactFirstRestsRow.holds Try.pinned (OpenSpec.ofChange fnExactFirstRestsSpec)

/-- ITS FALSE NEIGHBOUR: 'it returns false'. Refute it at one input. -/
def fnExactFirstRestsWrong : ChangeSpec := { name := "fnExactFirstRests", fn := fun _ => fun
  | [d] => { results := [.lit (.bool false)], args := [d] }
  | _ => none }
def FnExactFirstRestsWrongFalsely : Prop := fnExactFirstRestsRow.holds Try.pinned (OpenSpec.ofChange fnExactFirstRestsWrong)

/-- 'laws.FnExactCountRests': WHATEVER THE INPUT: true; the input reads as it did. -/
def fnExactCountRestsSpec : ChangeSpec := { name := "fnExactCountRests", fn := fun _ => fun
  | [d] => { results := [.lit (.bool true)], args := [d] }
  | _ => none }
def fnExactCountRestsRow : OpenClaim := { program := "ytnhdfpmjebfjmaa", sum := "a0f0de9cdbbec9877dc40fafab6ab854bf44819a1203b8f638175ae37e41ed13", func := "loop.example/g01404/laws.FnExactCountRests", spec := "fnExactCountRests", unfollowed := true, recurses := true, apart := false }
def FnExactCountRestsSaid : Prop := fnExactCountRestsRow.holds Try.pinned (OpenSpec.ofChange fnExactCountRestsSpec)

/-- ITS FALSE NEIGHBOUR: 'it returns false'. Refute it at one input. -/
def fnExactCountRestsWrong : ChangeSpec := { name := "fnExactCountRests", fn := fun _ => fun
  | [d] => { results := [.lit (.bool false)], args := [d] }
  | _ => none }
def FnExactCountRestsWrongFalsely : Prop := fnExactCountRestsRow.holds Try.pinned (OpenSpec.ofChange fnExactCountRestsWrong)

/-- 'laws.FnExactAreNatural': WHATEVER THE INPUT: true; the input reads as it did. -/
def fnExactAreNaturalSpec : ChangeSpec := { name := "fnExactAreNatural", fn := fun _ => fun
  | [d] => { results := [.lit (.bool true)], args := [d] }
  | _ => none }
def fnExactAreNaturalRow : OpenClaim := { program := "ytnhdfpmjebfjmaa", sum := "a0f0de9cdbbec9877dc40fafab6ab854bf44819a1203b8f638175ae37e41ed13", func := "loop.example/g01404/laws.FnExactAreNatural", spec := "fnExactAreNatural", recurses := true, apart := false }
def FnExactAreNaturalSaid : Prop := fnExactAreNaturalRow.holds Try.pinned (OpenSpec.ofChange fnExactAreNaturalSpec)

/-- ITS FALSE NEIGHBOUR: 'it returns false'. Refute it at one input. -/
def fnExactAreNaturalWrong : ChangeSpec := { name := "fnExactAreNatural", fn := fun _ => fun
  | [d] => { results := [.lit (.bool false)], args := [d] }
  | _ => none }
def FnExactAreNaturalWrongFalsely : Prop := fnExactAreNaturalRow.holds Try.pinned (OpenSpec.ofChange fnExactAreNaturalWrong)

/-- 'laws.FnExactGreedyTurns': WHATEVER THE INPUT: true; the input reads as it did. -/
def fnExactGreedyTurnsSpec : ChangeSpec := { name := "fnExactGreedyTurns", fn := fun _ => fun
  | [d] => { results := [.lit (.bool true)], args := [d] }
  | _ => none }
def fnExactGreedyTurnsRow : OpenClaim := { program := "ytnhdfpmjebfjmaa", sum := "a0f0de9cdbbec9877dc40fafab6ab854bf44819a1203b8f638175ae37e41ed13", func := "loop.example/g01404/laws.FnExactGreedyTurns", spec := "fnExactGreedyTurns", unfollowed := true, recurses := true, apart := false }
def FnExactGreedyTurnsSaid : Prop := fnExactGreedyTurnsRow.holds Try.pinned (OpenSpec.ofChange fnExactGreedyTurnsSpec)

/-- ITS FALSE NEIGHBOUR: 'it returns false'. Refute it at one input. -/
def fnExactGreedyTurnsWrong : ChangeSpec := { name := "fnExactGreedyTurns", fn := fun _ => fun
  | [d] => { results := [.lit (.bool false)], args := [d] }
  | _ => none }
def FnExactGreedyTurnsWrongFalsely : Prop := fnExactGreedyTurnsRow.holds Try.pinned (OpenSpec.ofChange fnExactGreedyTurnsWrong)

/-- 'laws.FnExactDeadlineTurns': WHATEVER THE INPUT: true; the input reads as it did. -/
def fnExactDeadlineTurnsSpec : ChangeSpec := { name := "fnExactDeadlineTurns", fn := fun _ => fun
  | [d1, d2] => { results := [.lit (.bool true)], args := [d1, d2] }
  | _ => none }
def fnExactDeadlineTurnsRow : OpenClaim := { program := "ytnhdfpmjebfjmaa", sum := "a0f0de9cdbbec9877dc40fafab6ab854bf44819a1203b8f638175ae37e41ed13", func := "loop.example/g01404/laws.FnExactDeadlineTurns", spec := "fnExactDeadlineTurns", unfollowed := true, recurses := true, apart := false }
def FnExactDeadlineTurnsSaid : Prop := fnExactDeadlineTurnsRow.holds Try.pinned (OpenSpec.ofChange fnExactDeadlineTurnsSpec)

/-- ITS FALSE NEIGHBOUR: 'it returns false'. Refute it at one input. -/
def fnExactDeadlineTurnsWrong : ChangeSpec := { name := "fnExactDeadlineTurns", fn := fun _ => fun
  | [d1, d2] => { results := [.lit (.bool false)], args := [d1, d2] }
  | _ => none }
def FnExactDeadlineTurnsWrongFalsely : Prop := fnExactDeadlineTurnsRow.holds Try.pinned (OpenSpec.ofChange fnExactDeadlineTurnsWrong)

/-- 'laws.FnExactLeastDifference': WHATEVER THE INPUT: true; the input reads as it did. -/
def fnExactLeastDifferenceSpec : ChangeSpec := { name := "fnExactLeastDifference", fn := fun _ => fun
  | [d] => { results := [.lit (.bool true)], args := [d] }
  | _ => none }
def fnExactLeastDifferenceRow : OpenClaim := { program := "ytnhdfpmjebfjmaa", sum := "a0f0de9cdbbec9877dc40fafab6ab854bf44819a1203b8f638175ae37e41ed13", func := "loop.example/g01404/laws.FnExactLeastDifference", spec := "fnExactLeastDifference", unfollowed := true, recurses := true, apart := false }
def FnExactLeastDifferenceSaid : Prop := fnExactLeastDifferenceRow.holds Try.pinned (OpenSpec.ofChange fnExactLeastDifferenceSpec)

/-- ITS FALSE NEIGHBOUR: 'it returns false'. Refute it at one input. -/
def fnExactLeastDifferenceWrong : ChangeSpec := { name := "fnExactLeastDifference", fn := fun _ => fun
  | [d] => { results := [.lit (.bool false)], args := [d] }
  | _ => none }
def FnExactLeastDifferenceWrongFalsely : Prop := fnExactLeastDifferenceRow.holds Try.pinned (OpenSpec.ofChange fnExactLeastDifferenceWrong)

/-- 'laws.FnExactDoubledTurns': WHATEVER THE INPUT: true; the input reads as it did. -/
def fnExactDoubledTurnsSpec : ChangeSpec := { name := "fnExactDoubledTurns", fn := fun _ => fun
  | [d] => { results := [.lit (.bool true)], args := [d] }
  | _ => none }
def fnExactDoubledTurnsRow : OpenClaim := { program := "ytnhdfpmjebfjmaa", sum := "a0f0de9cdbbec9877dc40fafab6ab854bf44819a1203b8f638175ae37e41ed13", func := "loop.example/g01404/laws.FnExactDoubledTurns", spec := "fnExactDoubledTurns", recurses := true, apart := false }
def FnExactDoubledTurnsSaid : Prop := fnExactDoubledTurnsRow.holds Try.pinned (OpenSpec.ofChange fnExactDoubledTurnsSpec)

/-- ITS FALSE NEIGHBOUR: 'it returns false'. Refute it at one input. -/
def fnExactDoubledTurnsWrong : ChangeSpec := { name := "fnExactDoubledTurns", fn := fun _ => fun
  | [d] => { results := [.lit (.bool false)], args := [d] }
  | _ => none }
def FnExactDoubledTurnsWrongFalsely : Prop := fnExactDoubledTurnsRow.holds Try.pinned (OpenSpec.ofChange fnExactDoubledTurnsWrong)

/-- 'laws.FnExactAreBalanced': WHATEVER THE INPUT: true; the input reads as it did. -/
def fnExactAreBalancedSpec : ChangeSpec := { name := "fnExactAreBalanced", fn := fun _ => fun
  | [d] => { results := [.lit (.bool true)], args := [d] }
  | _ => none }
def fnExactAreBalancedRow : OpenClaim := { program := "ytnhdfpmjebfjmaa", sum := "a0f0de9cdbbec9877dc40fafab6ab854bf44819a1203b8f638175ae37e41ed13", func := "loop.example/g01404/laws.FnExactAreBalanced", spec := "fnExactAreBalanced", unfollowed := true, recurses := true, apart := false }
def FnExactAreBalancedSaid : Prop := fnExactAreBalancedRow.holds Try.pinned (OpenSpec.ofChange fnExactAreBalancedSpec)

/-- ITS FALSE NEIGHBOUR: 'it returns false'. Refute it at one input. -/
def fnExactAreBalancedWrong : ChangeSpec := { name := "fnExactAreBalanced", fn := fun _ => fun
  | [d] => { results := [.lit (.bool false)], args := [d] }
  | _ => none }
def FnExactAreBalancedWrongFalsely : Prop := fnExactAreBalancedRow.holds Try.pinned (OpenSpec.ofChange fnExactAreBalancedWrong)

/-- 'laws.FnExactSpreadsOf': WHATEVER THE INPUT: true; the input reads as it did. -/
def fnExactSpreadsOfSpec : ChangeSpec := { name := "fnExactSpreadsOf", fn := fun _ => fun
  | [d] => { results := [.lit (.bool true)], args := [d] }
  | _ => none }
def fnExactSpreadsOfRow : OpenClaim := { program := "ytnhdfpmjebfjmaa", sum := "a0f0de9cdbbec9877dc40fafab6ab854bf44819a1203b8f638175ae37e41ed13", func := "loop.example/g01404/laws.FnExactSpreadsOf", spec := "fnExactSpreadsOf", unfollowed := true, recurses := true, apart := false }
def FnExactSpreadsOfSaid : Prop := fnExactSpreadsOfRow.holds Try.pinned (OpenSpec.ofChange fnExactSpreadsOfSpec)

/-- ITS FALSE NEIGHBOUR: 'it returns false'. Refute it at one input. -/
def fnExactSpreadsOfWrong : ChangeSpec := { name := "fnExactSpreadsOf", fn := fun _ => fun
  | [d] => { results := [.lit (.bool false)], args := [d] }
  | _ => none }
def FnExactSpreadsOfWrongFalsely : Prop := fnExactSpreadsOfRow.holds Try.pinned (OpenSpec.ofChange fnExactSpreadsOfWrong)

/-- 'laws.FnExactExchangeSlots': WHATEVER THE INPUT: true; the input reads as it did. -/
def fnExactExchangeSlotsSpec : ChangeSpec := { name := "fnExactExchangeSlots", fn := fun _ => fun
  | [d1, d2, d3] => { results := [.lit (.bool true)], args := [d1, d2, d3] }
  | _ => none }
def fnExactExchangeSlotsRow : OpenClaim := { program := "ytnhdfpmjebfjmaa", sum := "a0f0de9cdbbec9877dc40fafab6ab854bf44819a1203b8f638175ae37e41ed13", func := "loop.example/g01404/laws.FnExactExchangeSlots", spec := "fnExactExchangeSlots", unfollowed := true, recurses := true, apart := false }
def FnExactExchangeSlotsSaid : Prop := fnExactExchangeSlotsRow.holds Try.pinned (OpenSpec.ofChange fnExactExchangeSlotsSpec)

/-- ITS FALSE NEIGHBOUR: 'it returns false'. Refute it at one input. -/
def fnExactExchangeSlotsWrong : ChangeSpec := { name := "fnExactExchangeSlots", fn := fun _ => fun
  | [d1, d2, d3] => { results := [.lit (.bool false)], args := [d1, d2, d3] }
  | _ => none }
def FnExactExchangeSlotsWrongFalsely : Prop := fnExactExchangeSlotsRow.holds Try.pinned (OpenSpec.ofChange fnExactExchangeSlotsWrong)

/- THE SECOND FORM. 'bulk': how many values and letters a reading holds, each counted each time it is reached (what is shared counts as often as it is met; a slice's spare places count too). A statement '..UptoSaid' is the law's where the arguments, and the package variables that the reading takes, are together of bulk at most 1048576: NARROWER than '..Said'. Prove '..Said' where nothing that the law and all that it calls make is longer than what came in: it says more and counts as full. Else prove '..UptoSaid'. A law counts once. -/
mutual
def uptoBulk {H : Type} : DataW H → Nat
  | .lit (.string bytes) => bytes.length + 1
  | .lit _ => 1
  | .nil => 1
  | .ptr d => uptoBulk d + 1
  | .slice elems spare => uptoBulkAll elems + uptoBulkAll spare + 1
  | .agg parts => uptoBulkAll parts + 1
  | .iface _ d => uptoBulk d + 1
  | .map entries => uptoBulkEntries entries + 1
  | .held _ => 1
def uptoBulkAll {H : Type} : List (DataW H) → Nat
  | [] => 0
  | d :: r => uptoBulk d + uptoBulkAll r
def uptoBulkEntries {H : Type} : List (Lit × DataW H) → Nat
  | [] => 0
  | x :: r => uptoBulkEntry x + uptoBulkEntries r
def uptoBulkEntry {H : Type} : Lit × DataW H → Nat
  | (.string bytes, d) => bytes.length + uptoBulk d + 1
  | (_, d) => uptoBulk d + 1
 end
def uptoSmall : (H : Type) → List (DataW H) → Bool := fun _ ds => decide (uptoBulkAll ds ≤ 1048576)
def OpenSpec.upto (s : _root_.Go.ChangeSpec) : _root_.Go.OpenSpec := { _root_.Go.OpenSpec.ofChange s with cond := some uptoSmall }

/-- 'laws.FnExactFirstRests', WHERE WHAT IT READS IS OF BULK AT MOST 1048576: true; the input reads as it did. -/
def fnExactFirstRestsUptoRow : OpenClaim := { program := "ytnhdfpmjebfjmaa", sum := "a0f0de9cdbbec9877dc40fafab6ab854bf44819a1203b8f638175ae37e41ed13", func := "loop.example/g01404/laws.FnExactFirstRests", spec := "fnExactFirstRests", unfollowed := true, recurses := true, apart := false, narrowed := true }
def FnExactFirstRestsUptoSaid : Prop := fnExactFirstRestsUptoRow.holds Try.pinned (OpenSpec.upto fnExactFirstRestsSpec)

/-- 'laws.FnExactCountRests', WHERE WHAT IT READS IS OF BULK AT MOST 1048576: true; the input reads as it did. -/
def fnExactCountRestsUptoRow : OpenClaim := { program := "ytnhdfpmjebfjmaa", sum := "a0f0de9cdbbec9877dc40fafab6ab854bf44819a1203b8f638175ae37e41ed13", func := "loop.example/g01404/laws.FnExactCountRests", spec := "fnExactCountRests", unfollowed := true, recurses := true, apart := false, narrowed := true }
def FnExactCountRestsUptoSaid : Prop := fnExactCountRestsUptoRow.holds Try.pinned (OpenSpec.upto fnExactCountRestsSpec)

/-- 'laws.FnExactAreNatural', WHERE WHAT IT READS IS OF BULK AT MOST 1048576: true; the input reads as it did. -/
def fnExactAreNaturalUptoRow : OpenClaim := { program := "ytnhdfpmjebfjmaa", sum := "a0f0de9cdbbec9877dc40fafab6ab854bf44819a1203b8f638175ae37e41ed13", func := "loop.example/g01404/laws.FnExactAreNatural", spec := "fnExactAreNatural", recurses := true, apart := false, narrowed := true }
def FnExactAreNaturalUptoSaid : Prop := fnExactAreNaturalUptoRow.holds Try.pinned (OpenSpec.upto fnExactAreNaturalSpec)

/-- 'laws.FnExactGreedyTurns', WHERE WHAT IT READS IS OF BULK AT MOST 1048576: true; the input reads as it did. -/
def fnExactGreedyTurnsUptoRow : OpenClaim := { program := "ytnhdfpmjebfjmaa", sum := "a0f0de9cdbbec9877dc40fafab6ab854bf44819a1203b8f638175ae37e41ed13", func := "loop.example/g01404/laws.FnExactGreedyTurns", spec := "fnExactGreedyTurns", unfollowed := true, recurses := true, apart := false, narrowed := true }
def FnExactGreedyTurnsUptoSaid : Prop := fnExactGreedyTurnsUptoRow.holds Try.pinned (OpenSpec.upto fnExactGreedyTurnsSpec)

/-- 'laws.FnExactDeadlineTurns', WHERE WHAT IT READS IS OF BULK AT MOST 1048576: true; the input reads as it did. -/
def fnExactDeadlineTurnsUptoRow : OpenClaim := { program := "ytnhdfpmjebfjmaa", sum := "a0f0de9cdbbec9877dc40fafab6ab854bf44819a1203b8f638175ae37e41ed13", func := "loop.example/g01404/laws.FnExactDeadlineTurns", spec := "fnExactDeadlineTurns", unfollowed := true, recurses := true, apart := false, narrowed := true }
def FnExactDeadlineTurnsUptoSaid : Prop := fnExactDeadlineTurnsUptoRow.holds Try.pinned (OpenSpec.upto fnExactDeadlineTurnsSpec)

/-- 'laws.FnExactLeastDifference', WHERE WHAT IT READS IS OF BULK AT MOST 1048576: true; the input reads as it did. -/
def fnExactLeastDifferenceUptoRow : OpenClaim := { program := "ytnhdfpmjebfjmaa", sum := "a0f0de9cdbbec9877dc40fafab6ab854bf44819a1203b8f638175ae37e41ed13", func := "loop.example/g01404/laws.FnExactLeastDifference", spec := "fnExactLeastDifference", unfollowed := true, recurses := true, apart := false, narrowed := true }
def FnExactLeastDifferenceUptoSaid : Prop := fnExactLeastDifferenceUptoRow.holds Try.pinned (OpenSpec.upto fnExactLeastDifferenceSpec)

/-- 'laws.FnExactDoubledTurns', WHERE WHAT IT READS IS OF BULK AT MOST 1048576: true; the input reads as it did. -/
def fnExactDoubledTurnsUptoRow : OpenClaim := { program := "ytnhdfpmjebfjmaa", sum := "a0f0de9cdbbec9877dc40fafab6ab854bf44819a1203b8f638175ae37e41ed13", func := "loop.example/g01404/laws.FnExactDoubledTurns", spec := "fnExactDoubledTurns", recurses := true, apart := false, narrowed := true }
def FnExactDoubledTurnsUptoSaid : Prop := fnExactDoubledTurnsUptoRow.holds Try.pinned (OpenSpec.upto fnExactDoubledTurnsSpec)

/-- 'laws.FnExactAreBalanced', WHERE WHAT IT READS IS OF BULK AT MOST 1048576: true; the input reads as it did. -/
def fnExactAreBalancedUptoRow : OpenClaim := { program := "ytnhdfpmjebfjmaa", sum := "a0f0de9cdbbec9877dc40fafab6ab854bf44819a1203b8f638175ae37e41ed13", func := "loop.example/g01404/laws.FnExactAreBalanced", spec := "fnExactAreBalanced", unfollowed := true, recurses := true, apart := false, narrowed := true }
def FnExactAreBalancedUptoSaid : Prop := fnExactAreBalancedUptoRow.holds Try.pinned (OpenSpec.upto fnExactAreBalancedSpec)

/-- 'laws.FnExactSpreadsOf', WHERE WHAT IT READS IS OF BULK AT MOST 1048576: true; the input reads as it did. -/
def fnExactSpreadsOfUptoRow : OpenClaim := { program := "ytnhdfpmjebfjmaa", sum := "a0f0de9cdbbec9877dc40fafab6ab854bf44819a1203b8f638175ae37e41ed13", func := "loop.example/g01404/laws.FnExactSpreadsOf", spec := "fnExactSpreadsOf", unfollowed := true, recurses := true, apart := false, narrowed := true }
def FnExactSpreadsOfUptoSaid : Prop := fnExactSpreadsOfUptoRow.holds Try.pinned (OpenSpec.upto fnExactSpreadsOfSpec)

/-- 'laws.FnExactExchangeSlots', WHERE WHAT IT READS IS OF BULK AT MOST 1048576: true; the input reads as it did. -/
def fnExactExchangeSlotsUptoRow : OpenClaim := { program := "ytnhdfpmjebfjmaa", sum := "a0f0de9cdbbec9877dc40fafab6ab854bf44819a1203b8f638175ae37e41ed13", func := "loop.example/g01404/laws.FnExactExchangeSlots", spec := "fnExactExchangeSlots", unfollowed := true, recurses := true, apart := false, narrowed := true }
def FnExactExchangeSlotsUptoSaid : Prop := fnExactExchangeSlotsUptoRow.holds Try.pinned (OpenSpec.upto fnExactExchangeSlotsSpec)

end Rows
end Go.Proofs.Ytnhdfpmjebfjmaa
