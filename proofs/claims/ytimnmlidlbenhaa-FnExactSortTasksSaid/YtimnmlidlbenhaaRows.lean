/-
  No cell of these rows narrows 'for every input' (looked for: loops, veiled, ifaces, maps, wideKeys, modest, calm, conditions, laid).
  DERIVED. THE GIVEN ROWS OF THIS SEAT. 12 by the template 'for every input the law returns true; each argument reads behind the call as it read before'; 0 by the template 'total and deterministic' (their statements: YtimnmlidlbenhaaTotals.lean).
  GIVEN WITH THE SEED: the statements are not yours to turn. If you find one false, say at which input.
  Laid BY PROGRAM, IN A SANDBOX (cutbox-rows.mjs): the forced cells as the released guide's own fill.sh prints them over the translation f4950074f941433c… (all of the seat's roots in one cut). By AI agents, Wed Nov 11 2026. No macro, syntax, notation, axiom, sorry.
-/
import Derived.Test.YtimnmlidlbenhaaChecked
import GoSem.Claim
import GoSem.ClaimJoined
import GoSem.ClaimMapViews
import Derived.JoinedTies
import Derived.KernelRfl
namespace Go.Proofs.Ytimnmlidlbenhaa
/- THE CELL 'sum', in the pinned program and in every row, IS THE sha256 OF THE DUMP (.gsa) THAT YtimnmlidlbenhaaProg.lean LOADS. Nothing in Lean hashes anything: it is a label: what it is worth is what the hold of that sum in a sandbox is worth. -/
noncomputable def Try.pinned : Pinned := { name := "ytimnmlidlbenhaa", sum := "f4950074f941433cf45fe61c21f6af7d343e4e0e0bbe99d8b85f96485213f3a8", checked := Try.checked }
namespace Rows
def none {H : Type} : Left H := { results := [], args := [] }

/-- 'laws.FnExactDensityOf': WHATEVER THE INPUT: true; the input reads as it did. -/
def fnExactDensityOfSpec : ChangeSpec := { name := "fnExactDensityOf", fn := fun _ => fun
  | [d] => { results := [.lit (.bool true)], args := [d] }
  | _ => none }
def fnExactDensityOfRow : OpenClaim := { program := "ytimnmlidlbenhaa", sum := "f4950074f941433cf45fe61c21f6af7d343e4e0e0bbe99d8b85f96485213f3a8", func := "loop.example/g01404/laws.FnExactDensityOf", spec := "fnExactDensityOf", unfollowed := true, recurses := true, apart := false }
def FnExactDensityOfSaid : Prop := fnExactDensityOfRow.holds Try.pinned (OpenSpec.ofChange fnExactDensityOfSpec)

/-- ITS FALSE NEIGHBOUR: 'it returns false'. Refute it at one input. -/
def fnExactDensityOfWrong : ChangeSpec := { name := "fnExactDensityOf", fn := fun _ => fun
  | [d] => { results := [.lit (.bool false)], args := [d] }
  | _ => none }
def FnExactDensityOfWrongFalsely : Prop := fnExactDensityOfRow.holds Try.pinned (OpenSpec.ofChange fnExactDensityOfWrong)

/-- 'laws.FnExactFirstMiss': WHATEVER THE INPUT: true; the input reads as it did. -/
def fnExactFirstMissSpec : ChangeSpec := { name := "fnExactFirstMiss", fn := fun _ => fun
  | [d1, d2] => { results := [.lit (.bool true)], args := [d1, d2] }
  | _ => none }
def fnExactFirstMissRow : OpenClaim := { program := "ytimnmlidlbenhaa", sum := "f4950074f941433cf45fe61c21f6af7d343e4e0e0bbe99d8b85f96485213f3a8", func := "loop.example/g01404/laws.FnExactFirstMiss", spec := "fnExactFirstMiss", unfollowed := true, recurses := true, apart := false }
def FnExactFirstMissSaid : Prop := fnExactFirstMissRow.holds Try.pinned (OpenSpec.ofChange fnExactFirstMissSpec)

/-- ITS FALSE NEIGHBOUR: 'it returns false'. Refute it at one input. -/
def fnExactFirstMissWrong : ChangeSpec := { name := "fnExactFirstMiss", fn := fun _ => fun
  | [d1, d2] => { results := [.lit (.bool false)], args := [d1, d2] }
  | _ => none }
def FnExactFirstMissWrongFalsely : Prop := fnExactFirstMissRow.holds Try.pinned (OpenSpec.ofChange fnExactFirstMissWrong)

/-- 'laws.FnExactShiftTurns': WHATEVER THE INPUT: true; the input reads as it did. -/
def fnExactShiftTurnsSpec : ChangeSpec := { name := "fnExactShiftTurns", fn := fun _ => fun
  | [d1, d2] => { results := [.lit (.bool true)], args := [d1, d2] }
  | _ => none }
def fnExactShiftTurnsRow : OpenClaim := { program := "ytimnmlidlbenhaa", sum := "f4950074f941433cf45fe61c21f6af7d343e4e0e0bbe99d8b85f96485213f3a8", func := "loop.example/g01404/laws.FnExactShiftTurns", spec := "fnExactShiftTurns", unfollowed := true, recurses := true, apart := false }
def FnExactShiftTurnsSaid : Prop := fnExactShiftTurnsRow.holds Try.pinned (OpenSpec.ofChange fnExactShiftTurnsSpec)

/-- ITS FALSE NEIGHBOUR: 'it returns false'. Refute it at one input. -/
def fnExactShiftTurnsWrong : ChangeSpec := { name := "fnExactShiftTurns", fn := fun _ => fun
  | [d1, d2] => { results := [.lit (.bool false)], args := [d1, d2] }
  | _ => none }
def FnExactShiftTurnsWrongFalsely : Prop := fnExactShiftTurnsRow.holds Try.pinned (OpenSpec.ofChange fnExactShiftTurnsWrong)

/-- 'laws.FnExactRepeatTurns': WHATEVER THE INPUT: true; the input reads as it did. -/
def fnExactRepeatTurnsSpec : ChangeSpec := { name := "fnExactRepeatTurns", fn := fun _ => fun
  | [d1, d2] => { results := [.lit (.bool true)], args := [d1, d2] }
  | _ => none }
def fnExactRepeatTurnsRow : OpenClaim := { program := "ytimnmlidlbenhaa", sum := "f4950074f941433cf45fe61c21f6af7d343e4e0e0bbe99d8b85f96485213f3a8", func := "loop.example/g01404/laws.FnExactRepeatTurns", spec := "fnExactRepeatTurns", unfollowed := true, recurses := true, apart := false }
def FnExactRepeatTurnsSaid : Prop := fnExactRepeatTurnsRow.holds Try.pinned (OpenSpec.ofChange fnExactRepeatTurnsSpec)

/-- ITS FALSE NEIGHBOUR: 'it returns false'. Refute it at one input. -/
def fnExactRepeatTurnsWrong : ChangeSpec := { name := "fnExactRepeatTurns", fn := fun _ => fun
  | [d1, d2] => { results := [.lit (.bool false)], args := [d1, d2] }
  | _ => none }
def FnExactRepeatTurnsWrongFalsely : Prop := fnExactRepeatTurnsRow.holds Try.pinned (OpenSpec.ofChange fnExactRepeatTurnsWrong)

/-- 'laws.FnExactPeriodOf': WHATEVER THE INPUT: true; the input reads as it did. -/
def fnExactPeriodOfSpec : ChangeSpec := { name := "fnExactPeriodOf", fn := fun _ => fun
  | [d] => { results := [.lit (.bool true)], args := [d] }
  | _ => none }
def fnExactPeriodOfRow : OpenClaim := { program := "ytimnmlidlbenhaa", sum := "f4950074f941433cf45fe61c21f6af7d343e4e0e0bbe99d8b85f96485213f3a8", func := "loop.example/g01404/laws.FnExactPeriodOf", spec := "fnExactPeriodOf", inPlace := ["internal/abi.NoEscape"], unfollowed := true, recurses := true, apart := false }
def FnExactPeriodOfSaid : Prop := fnExactPeriodOfRow.holds Try.pinned (OpenSpec.ofChange fnExactPeriodOfSpec)

/-- ITS FALSE NEIGHBOUR: 'it returns false'. Refute it at one input. -/
def fnExactPeriodOfWrong : ChangeSpec := { name := "fnExactPeriodOf", fn := fun _ => fun
  | [d] => { results := [.lit (.bool false)], args := [d] }
  | _ => none }
def FnExactPeriodOfWrongFalsely : Prop := fnExactPeriodOfRow.holds Try.pinned (OpenSpec.ofChange fnExactPeriodOfWrong)

/-- 'laws.FnExactLeastTurns': WHATEVER THE INPUT: true; the input reads as it did. -/
def fnExactLeastTurnsSpec : ChangeSpec := { name := "fnExactLeastTurns", fn := fun _ => fun
  | [d] => { results := [.lit (.bool true)], args := [d] }
  | _ => none }
def fnExactLeastTurnsRow : OpenClaim := { program := "ytimnmlidlbenhaa", sum := "f4950074f941433cf45fe61c21f6af7d343e4e0e0bbe99d8b85f96485213f3a8", func := "loop.example/g01404/laws.FnExactLeastTurns", spec := "fnExactLeastTurns", unfollowed := true, recurses := true, apart := false }
def FnExactLeastTurnsSaid : Prop := fnExactLeastTurnsRow.holds Try.pinned (OpenSpec.ofChange fnExactLeastTurnsSpec)

/-- ITS FALSE NEIGHBOUR: 'it returns false'. Refute it at one input. -/
def fnExactLeastTurnsWrong : ChangeSpec := { name := "fnExactLeastTurns", fn := fun _ => fun
  | [d] => { results := [.lit (.bool false)], args := [d] }
  | _ => none }
def FnExactLeastTurnsWrongFalsely : Prop := fnExactLeastTurnsRow.holds Try.pinned (OpenSpec.ofChange fnExactLeastTurnsWrong)

/-- 'laws.FnExactFillIdle': WHATEVER THE INPUT: true; the input reads as it did. -/
def fnExactFillIdleSpec : ChangeSpec := { name := "fnExactFillIdle", fn := fun _ => fun
  | [d1, d2] => { results := [.lit (.bool true)], args := [d1, d2] }
  | _ => none }
def fnExactFillIdleRow : OpenClaim := { program := "ytimnmlidlbenhaa", sum := "f4950074f941433cf45fe61c21f6af7d343e4e0e0bbe99d8b85f96485213f3a8", func := "loop.example/g01404/laws.FnExactFillIdle", spec := "fnExactFillIdle", unfollowed := true, recurses := true, apart := false }
def FnExactFillIdleSaid : Prop := fnExactFillIdleRow.holds Try.pinned (OpenSpec.ofChange fnExactFillIdleSpec)

/-- ITS FALSE NEIGHBOUR: 'it returns false'. Refute it at one input. -/
def fnExactFillIdleWrong : ChangeSpec := { name := "fnExactFillIdle", fn := fun _ => fun
  | [d1, d2] => { results := [.lit (.bool false)], args := [d1, d2] }
  | _ => none }
def FnExactFillIdleWrongFalsely : Prop := fnExactFillIdleRow.holds Try.pinned (OpenSpec.ofChange fnExactFillIdleWrong)

/-- 'laws.FnExactRenumberTasks': WHATEVER THE INPUT: true; the input reads as it did. -/
def fnExactRenumberTasksSpec : ChangeSpec := { name := "fnExactRenumberTasks", fn := fun _ => fun
  | [d1, d2] => { results := [.lit (.bool true)], args := [d1, d2] }
  | _ => none }
def fnExactRenumberTasksRow : OpenClaim := { program := "ytimnmlidlbenhaa", sum := "f4950074f941433cf45fe61c21f6af7d343e4e0e0bbe99d8b85f96485213f3a8", func := "loop.example/g01404/laws.FnExactRenumberTasks", spec := "fnExactRenumberTasks", unfollowed := true, recurses := true, apart := false }
def FnExactRenumberTasksSaid : Prop := fnExactRenumberTasksRow.holds Try.pinned (OpenSpec.ofChange fnExactRenumberTasksSpec)

/-- ITS FALSE NEIGHBOUR: 'it returns false'. Refute it at one input. -/
def fnExactRenumberTasksWrong : ChangeSpec := { name := "fnExactRenumberTasks", fn := fun _ => fun
  | [d1, d2] => { results := [.lit (.bool false)], args := [d1, d2] }
  | _ => none }
def FnExactRenumberTasksWrongFalsely : Prop := fnExactRenumberTasksRow.holds Try.pinned (OpenSpec.ofChange fnExactRenumberTasksWrong)

/-- 'laws.FnExactSortTasks': WHATEVER THE INPUT: true; the input reads as it did. -/
def fnExactSortTasksSpec : ChangeSpec := { name := "fnExactSortTasks", fn := fun _ => fun
  | [d] => { results := [.lit (.bool true)], args := [d] }
  | _ => none }
def fnExactSortTasksRow : OpenClaim := { program := "ytimnmlidlbenhaa", sum := "f4950074f941433cf45fe61c21f6af7d343e4e0e0bbe99d8b85f96485213f3a8", func := "loop.example/g01404/laws.FnExactSortTasks", spec := "fnExactSortTasks", unfollowed := true, recurses := true, apart := false }
def FnExactSortTasksSaid : Prop := fnExactSortTasksRow.holds Try.pinned (OpenSpec.ofChange fnExactSortTasksSpec)

/-- ITS FALSE NEIGHBOUR: 'it returns false'. Refute it at one input. -/
def fnExactSortTasksWrong : ChangeSpec := { name := "fnExactSortTasks", fn := fun _ => fun
  | [d] => { results := [.lit (.bool false)], args := [d] }
  | _ => none }
def FnExactSortTasksWrongFalsely : Prop := fnExactSortTasksRow.holds Try.pinned (OpenSpec.ofChange fnExactSortTasksWrong)

/-- 'laws.FnExactTurnsText': WHATEVER THE INPUT: true; the input reads as it did. -/
def fnExactTurnsTextSpec : ChangeSpec := { name := "fnExactTurnsText", fn := fun _ => fun
  | [d] => { results := [.lit (.bool true)], args := [d] }
  | _ => none }
def fnExactTurnsTextRow : OpenClaim := { program := "ytimnmlidlbenhaa", sum := "f4950074f941433cf45fe61c21f6af7d343e4e0e0bbe99d8b85f96485213f3a8", func := "loop.example/g01404/laws.FnExactTurnsText", spec := "fnExactTurnsText", inPlace := ["internal/abi.NoEscape"], unfollowed := true, recurses := true, apart := false }
def FnExactTurnsTextSaid : Prop := fnExactTurnsTextRow.holds Try.pinned (OpenSpec.ofChange fnExactTurnsTextSpec)

/-- ITS FALSE NEIGHBOUR: 'it returns false'. Refute it at one input. -/
def fnExactTurnsTextWrong : ChangeSpec := { name := "fnExactTurnsText", fn := fun _ => fun
  | [d] => { results := [.lit (.bool false)], args := [d] }
  | _ => none }
def FnExactTurnsTextWrongFalsely : Prop := fnExactTurnsTextRow.holds Try.pinned (OpenSpec.ofChange fnExactTurnsTextWrong)

/-- 'laws.FnExactParseTurns': WHATEVER THE INPUT: true; the input reads as it did. -/
def fnExactParseTurnsSpec : ChangeSpec := { name := "fnExactParseTurns", fn := fun _ => fun
  | [d] => { results := [.lit (.bool true)], args := [d] }
  | _ => none }
def fnExactParseTurnsRow : OpenClaim := { program := "ytimnmlidlbenhaa", sum := "f4950074f941433cf45fe61c21f6af7d343e4e0e0bbe99d8b85f96485213f3a8", func := "loop.example/g01404/laws.FnExactParseTurns", spec := "fnExactParseTurns", apart := false }
def FnExactParseTurnsSaid : Prop := fnExactParseTurnsRow.holds Try.pinned (OpenSpec.ofChange fnExactParseTurnsSpec)

/-- ITS FALSE NEIGHBOUR: 'it returns false'. Refute it at one input. -/
def fnExactParseTurnsWrong : ChangeSpec := { name := "fnExactParseTurns", fn := fun _ => fun
  | [d] => { results := [.lit (.bool false)], args := [d] }
  | _ => none }
def FnExactParseTurnsWrongFalsely : Prop := fnExactParseTurnsRow.holds Try.pinned (OpenSpec.ofChange fnExactParseTurnsWrong)

/-- 'laws.FnShifts': WHATEVER THE INPUT: true; the input reads as it did. -/
def fnShiftsSpec : ChangeSpec := { name := "fnShifts", fn := fun _ => fun
  | [d] => { results := [.lit (.bool true)], args := [d] }
  | _ => none }
def fnShiftsRow : OpenClaim := { program := "ytimnmlidlbenhaa", sum := "f4950074f941433cf45fe61c21f6af7d343e4e0e0bbe99d8b85f96485213f3a8", func := "loop.example/g01404/laws.FnShifts", spec := "fnShifts", inPlace := ["internal/abi.NoEscape"], unfollowed := true, recurses := true, apart := false }
def FnShiftsSaid : Prop := fnShiftsRow.holds Try.pinned (OpenSpec.ofChange fnShiftsSpec)

/-- ITS FALSE NEIGHBOUR: 'it returns false'. Refute it at one input. -/
def fnShiftsWrong : ChangeSpec := { name := "fnShifts", fn := fun _ => fun
  | [d] => { results := [.lit (.bool false)], args := [d] }
  | _ => none }
def FnShiftsWrongFalsely : Prop := fnShiftsRow.holds Try.pinned (OpenSpec.ofChange fnShiftsWrong)

/- THE SECOND FORM. 'bulk': how many values and letters a reading holds, each counted each time it is reached (what is shared counts as often as it is met; a slice's spare places count too). A statement '..UptoSaid' is the law's where the arguments, and the package variables that the reading takes, are together of bulk at most 1048576: NARROWER than '..Said'. Prove '..Said' where nothing that the law and all that it calls make is longer than what came in: it says more and counts as full. Else prove '..UptoSaid'. A law counts once. -/
mutual
def uptoBulk {H : Type} : DataW H → Nat
  | .lit (.string bytes) => bytes.length + 1
  | .lit _ => 1
  | .nil => 1
  | .ptr d => uptoBulk d + 1
  | .slice elems spare => uptoBulkAll elems + uptoBulkAll spare + 1
  | .agg parts => uptoBulkAll parts + 1
  | .iface _ d => uptoBulk d + 1
  | .map entries => uptoBulkEntries entries + 1
  | .held _ => 1
def uptoBulkAll {H : Type} : List (DataW H) → Nat
  | [] => 0
  | d :: r => uptoBulk d + uptoBulkAll r
def uptoBulkEntries {H : Type} : List (Lit × DataW H) → Nat
  | [] => 0
  | x :: r => uptoBulkEntry x + uptoBulkEntries r
def uptoBulkEntry {H : Type} : Lit × DataW H → Nat
  | (.string bytes, d) => bytes.length + uptoBulk d + 1
  | (_, d) => uptoBulk d + 1
 end
def uptoSmall : (H : Type) → List (DataW H) → Bool := fun _ ds => decide (uptoBulkAll ds ≤ 1048576)
def OpenSpec.upto (s : _root_.Go.ChangeSpec) : _root_.Go.OpenSpec := { _root_.Go.OpenSpec.ofChange s with cond := some uptoSmall }

/-- 'laws.FnExactDensityOf', WHERE WHAT IT READS IS OF BULK AT MOST 1048576: true; the input reads as it did. -/
def fnExactDensityOfUptoRow : OpenClaim := { program := "ytimnmlidlbenhaa", sum := "f4950074f941433cf45fe61c21f6af7d343e4e0e0bbe99d8b85f96485213f3a8", func := "loop.example/g01404/laws.FnExactDensityOf", spec := "fnExactDensityOf", unfollowed := true, recurses := true, apart := false, narrowed := true }
def FnExactDensityOfUptoSaid : Prop := fnExactDensityOfUptoRow.holds Try.pinned (OpenSpec.upto fnExactDensityOfSpec)

/-- 'laws.FnExactFirstMiss', WHERE WHAT IT READS IS OF BULK AT MOST 1048576: true; the input reads as it did. -/
def fnExactFirstMissUptoRow : OpenClaim := { program := "ytimnmlidlbenhaa", sum := "f4950074f941433cf45fe61c21f6af7d343e4e0e0bbe99d8b85f96485213f3a8", func := "loop.example/g01404/laws.FnExactFirstMiss", spec := "fnExactFirstMiss", unfollowed := true, recurses := true, apart := false, narrowed := true }
def FnExactFirstMissUptoSaid : Prop := fnExactFirstMissUptoRow.holds Try.pinned (OpenSpec.upto fnExactFirstMissSpec)

/-- 'laws.FnExactShiftTurns', WHERE WHAT IT READS IS OF BULK AT MOST 1048576: true; the input reads as it did. -/
def fnExactShiftTurnsUptoRow : OpenClaim := { program := "ytimnmlidlbenhaa", sum := "f4950074f941433cf45fe61c21f6af7d343e4e0e0bbe99d8b85f96485213f3a8", func := "loop.example/g01404/laws.FnExactShiftTurns", spec := "fnExactShiftTurns", unfollowed := true, recurses := true, apart := false, narrowed := true }
def FnExactShiftTurnsUptoSaid : Prop := fnExactShiftTurnsUptoRow.holds Try.pinned (OpenSpec.upto fnExactShiftTurnsSpec)

/-- 'laws.FnExactRepeatTurns', WHERE WHAT IT READS IS OF BULK AT MOST 1048576: true; the input reads as it did. -/
def fnExactRepeatTurnsUptoRow : OpenClaim := { program := "ytimnmlidlbenhaa", sum := "f4950074f941433cf45fe61c21f6af7d343e4e0e0bbe99d8b85f96485213f3a8", func := "loop.example/g01404/laws.FnExactRepeatTurns", spec := "fnExactRepeatTurns", unfollowed := true, recurses := true, apart := false, narrowed := true }
def FnExactRepeatTurnsUptoSaid : Prop := fnExactRepeatTurnsUptoRow.holds Try.pinned (OpenSpec.upto fnExactRepeatTurnsSpec)

/-- 'laws.FnExactPeriodOf', WHERE WHAT IT READS IS OF BULK AT MOST 1048576: true; the input reads as it did. -/
def fnExactPeriodOfUptoRow : OpenClaim := { program := "ytimnmlidlbenhaa", sum := "f4950074f941433cf45fe61c21f6af7d343e4e0e0bbe99d8b85f96485213f3a8", func := "loop.example/g01404/laws.FnExactPeriodOf", spec := "fnExactPeriodOf", inPlace := ["internal/abi.NoEscape"], unfollowed := true, recurses := true, apart := false, narrowed := true }
def FnExactPeriodOfUptoSaid : Prop := fnExactPeriodOfUptoRow.holds Try.pinned (OpenSpec.upto fnExactPeriodOfSpec)

/-- 'laws.FnExactLeastTurns', WHERE WHAT IT READS IS OF BULK AT MOST 1048576: true; the input reads as it did. -/
def fnExactLeastTurnsUptoRow : OpenClaim := { program := "ytimnmlidlbenhaa", sum := "f4950074f941433cf45fe61c21f6af7d343e4e0e0bbe99d8b85f96485213f3a8", func := "loop.example/g01404/laws.FnExactLeastTurns", spec := "fnExactLeastTurns", unfollowed := true, recurses := true, apart := false, narrowed := true }
def FnExactLeastTurnsUptoSaid : Prop := fnExactLeastTurnsUptoRow.holds Try.pinned (OpenSpec.upto fnExactLeastTurnsSpec)

/-- 'laws.FnExactFillIdle', WHERE WHAT IT READS IS OF BULK AT MOST 1048576: true; the input reads as it did. -/
def fnExactFillIdleUptoRow : OpenClaim := { program := "ytimnmlidlbenhaa", sum := "f4950074f941433cf45fe61c21f6af7d343e4e0e0bbe99d8b85f96485213f3a8", func := "loop.example/g01404/laws.FnExactFillIdle", spec := "fnExactFillIdle", unfollowed := true, recurses := true, apart := false, narrowed := true }
def FnExactFillIdleUptoSaid : Prop := fnExactFillIdleUptoRow.holds Try.pinned (OpenSpec.upto fnExactFillIdleSpec)

/-- 'laws.FnExactRenumberTasks', WHERE WHAT IT READS IS OF BULK AT MOST 1048576: true; the input reads as it did. -/
def fnExactRenumberTasksUptoRow : OpenClaim := { program := "ytimnmlidlbenhaa", sum := "f4950074f941433cf45fe61c21f6af7d343e4e0e0bbe99d8b85f96485213f3a8", func := "loop.example/g01404/laws.FnExactRenumberTasks", spec := "fnExactRenumberTasks", unfollowed := true, recurses := true, apart := false, narrowed := true }
def FnExactRenumberTasksUptoSaid : Prop := fnExactRenumberTasksUptoRow.holds Try.pinned (OpenSpec.upto fnExactRenumberTasksSpec)

/-- 'laws.FnExactSortTasks', WHERE WHAT IT READS IS OF BULK AT MOST 1048576: true; the input reads as it did. -/
def fnExactSortTasksUptoRow : OpenClaim := { program := "ytimnmlidlbenhaa", sum := "f4950074f941433cf45fe61c21f6af7d343e4e0e0bbe99d8b85f96485213f3a8", func := "loop.example/g01404/laws.FnExactSortTasks", spec := "fnExactSortTasks", unfollowed := true, recurses := true, apart := false, narrowed := true }
def FnExactSortTasksUptoSaid : Prop := fnExactSortTasksUptoRow.holds Try.pinned (OpenSpec.upto fnExactSortTasksSpec)

/-- 'laws.FnExactTurnsText', WHERE WHAT IT READS IS OF BULK AT MOST 1048576: true; the input reads as it did. -/
def fnExactTurnsTextUptoRow : OpenClaim := { program := "ytimnmlidlbenhaa", sum := "f4950074f941433cf45fe61c21f6af7d343e4e0e0bbe99d8b85f96485213f3a8", func := "loop.example/g01404/laws.FnExactTurnsText", spec := "fnExactTurnsText", inPlace := ["internal/abi.NoEscape"], unfollowed := true, recurses := true, apart := false, narrowed := true }
def FnExactTurnsTextUptoSaid : Prop := fnExactTurnsTextUptoRow.holds Try.pinned (OpenSpec.upto fnExactTurnsTextSpec)

/-- 'laws.FnExactParseTurns', WHERE WHAT IT READS IS OF BULK AT MOST 1048576: true; the input reads as it did. -/
def fnExactParseTurnsUptoRow : OpenClaim := { program := "ytimnmlidlbenhaa", sum := "f4950074f941433cf45fe61c21f6af7d343e4e0e0bbe99d8b85f96485213f3a8", func := "loop.example/g01404/laws.FnExactParseTurns", spec := "fnExactParseTurns", apart := false, narrowed := true }
def FnExactParseTurnsUptoSaid : Prop := fnExactParseTurnsUptoRow.holds Try.pinned (OpenSpec.upto fnExactParseTurnsSpec)

/-- 'laws.FnShifts', WHERE WHAT IT READS IS OF BULK AT MOST 1048576: true; the input reads as it did. -/
def fnShiftsUptoRow : OpenClaim := { program := "ytimnmlidlbenhaa", sum := "f4950074f941433cf45fe61c21f6af7d343e4e0e0bbe99d8b85f96485213f3a8", func := "loop.example/g01404/laws.FnShifts", spec := "fnShifts", inPlace := ["internal/abi.NoEscape"], unfollowed := true, recurses := true, apart := false, narrowed := true }
def FnShiftsUptoSaid : Prop := fnShiftsUptoRow.holds Try.pinned (OpenSpec.upto fnShiftsSpec)

end Rows
end Go.Proofs.Ytimnmlidlbenhaa
