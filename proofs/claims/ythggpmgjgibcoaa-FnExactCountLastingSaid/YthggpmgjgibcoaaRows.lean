/-
  No cell of these rows narrows 'for every input' (looked for: loops, veiled, ifaces, maps, wideKeys, modest, calm, conditions, laid).
  DERIVED. THE GIVEN ROWS OF THIS SEAT. 16 by the template 'for every input the law returns true; each argument reads behind the call as it read before'; 0 by the template 'total and deterministic' (their statements: YthggpmgjgibcoaaTotals.lean).
  GIVEN WITH THE SEED: the statements are not yours to turn. If you find one false, say at which input.
  Laid BY PROGRAM, IN A SANDBOX (cutbox-rows.mjs): the forced cells as the released guide's own fill.sh prints them over the translation fcf8724a470c37d2… (all of the seat's roots in one cut). By AI agents, Wed Nov 11 2026. No macro, syntax, notation, axiom, sorry.
-/
import Derived.Test.YthggpmgjgibcoaaChecked
import GoSem.Claim
import GoSem.ClaimJoined
import GoSem.ClaimMapViews
import Derived.JoinedTies
import Derived.KernelRfl
namespace Go.Proofs.Ythggpmgjgibcoaa
/- THE CELL 'sum', in the pinned program and in every row, IS THE sha256 OF THE DUMP (.gsa) THAT YthggpmgjgibcoaaProg.lean LOADS. Nothing in Lean hashes anything: it is a label: what it is worth is what the hold of that sum in a sandbox is worth. -/
noncomputable def Try.pinned : Pinned := { name := "ythggpmgjgibcoaa", sum := "fcf8724a470c37d28da833fe70b03e4d015b4ee80f277e14698ae6642bd88dbd", checked := Try.checked }
namespace Rows
def none {H : Type} : Left H := { results := [], args := [] }

/-- 'laws.FnShifts': WHATEVER THE INPUT: true; the input reads as it did. -/
def fnShiftsSpec : ChangeSpec := { name := "fnShifts", fn := fun _ => fun
  | [d] => { results := [.lit (.bool true)], args := [d] }
  | _ => none }
def fnShiftsRow : OpenClaim := { program := "ythggpmgjgibcoaa", sum := "fcf8724a470c37d28da833fe70b03e4d015b4ee80f277e14698ae6642bd88dbd", func := "loop.example/g01404/laws.FnShifts", spec := "fnShifts", inPlace := ["internal/abi.NoEscape"], unfollowed := true, recurses := true, plainKeys := false, apart := false }
def FnShiftsSaid : Prop := fnShiftsRow.holds Try.pinned (OpenSpec.ofChange fnShiftsSpec)

/-- ITS FALSE NEIGHBOUR: 'it returns false'. Refute it at one input. -/
def fnShiftsWrong : ChangeSpec := { name := "fnShifts", fn := fun _ => fun
  | [d] => { results := [.lit (.bool false)], args := [d] }
  | _ => none }
def FnShiftsWrongFalsely : Prop := fnShiftsRow.holds Try.pinned (OpenSpec.ofChange fnShiftsWrong)

/-- 'laws.FnStates': WHATEVER THE INPUT: true; the input reads as it did. -/
def fnStatesSpec : ChangeSpec := { name := "fnStates", fn := fun _ => fun
  | [d] => { results := [.lit (.bool true)], args := [d] }
  | _ => none }
def fnStatesRow : OpenClaim := { program := "ythggpmgjgibcoaa", sum := "fcf8724a470c37d28da833fe70b03e4d015b4ee80f277e14698ae6642bd88dbd", func := "loop.example/g01404/laws.FnStates", spec := "fnStates", unfollowed := true, recurses := true, plainKeys := false, apart := false }
def FnStatesSaid : Prop := fnStatesRow.holds Try.pinned (OpenSpec.ofChange fnStatesSpec)

/-- ITS FALSE NEIGHBOUR: 'it returns false'. Refute it at one input. -/
def fnStatesWrong : ChangeSpec := { name := "fnStates", fn := fun _ => fun
  | [d] => { results := [.lit (.bool false)], args := [d] }
  | _ => none }
def FnStatesWrongFalsely : Prop := fnStatesRow.holds Try.pinned (OpenSpec.ofChange fnStatesWrong)

/-- 'laws.FnPlays': WHATEVER THE INPUT: true; the input reads as it did. -/
def fnPlaysSpec : ChangeSpec := { name := "fnPlays", fn := fun _ => fun
  | [d] => { results := [.lit (.bool true)], args := [d] }
  | _ => none }
def fnPlaysRow : OpenClaim := { program := "ythggpmgjgibcoaa", sum := "fcf8724a470c37d28da833fe70b03e4d015b4ee80f277e14698ae6642bd88dbd", func := "loop.example/g01404/laws.FnPlays", spec := "fnPlays", unfollowed := true, recurses := true, plainKeys := false, apart := false }
def FnPlaysSaid : Prop := fnPlaysRow.holds Try.pinned (OpenSpec.ofChange fnPlaysSpec)

/-- ITS FALSE NEIGHBOUR: 'it returns false'. Refute it at one input. -/
def fnPlaysWrong : ChangeSpec := { name := "fnPlays", fn := fun _ => fun
  | [d] => { results := [.lit (.bool false)], args := [d] }
  | _ => none }
def FnPlaysWrongFalsely : Prop := fnPlaysRow.holds Try.pinned (OpenSpec.ofChange fnPlaysWrong)

/-- 'laws.FnExactPeriodOf': WHATEVER THE INPUT: true; the input reads as it did. -/
def fnExactPeriodOfSpec : ChangeSpec := { name := "fnExactPeriodOf", fn := fun _ => fun
  | [d] => { results := [.lit (.bool true)], args := [d] }
  | _ => none }
def fnExactPeriodOfRow : OpenClaim := { program := "ythggpmgjgibcoaa", sum := "fcf8724a470c37d28da833fe70b03e4d015b4ee80f277e14698ae6642bd88dbd", func := "loop.example/g01404/laws.FnExactPeriodOf", spec := "fnExactPeriodOf", inPlace := ["internal/abi.NoEscape"], unfollowed := true, recurses := true, plainKeys := false, apart := false }
def FnExactPeriodOfSaid : Prop := fnExactPeriodOfRow.holds Try.pinned (OpenSpec.ofChange fnExactPeriodOfSpec)

/-- ITS FALSE NEIGHBOUR: 'it returns false'. Refute it at one input. -/
def fnExactPeriodOfWrong : ChangeSpec := { name := "fnExactPeriodOf", fn := fun _ => fun
  | [d] => { results := [.lit (.bool false)], args := [d] }
  | _ => none }
def FnExactPeriodOfWrongFalsely : Prop := fnExactPeriodOfRow.holds Try.pinned (OpenSpec.ofChange fnExactPeriodOfWrong)

/-- 'laws.FnExactTurnsText': WHATEVER THE INPUT: true; the input reads as it did. -/
def fnExactTurnsTextSpec : ChangeSpec := { name := "fnExactTurnsText", fn := fun _ => fun
  | [d] => { results := [.lit (.bool true)], args := [d] }
  | _ => none }
def fnExactTurnsTextRow : OpenClaim := { program := "ythggpmgjgibcoaa", sum := "fcf8724a470c37d28da833fe70b03e4d015b4ee80f277e14698ae6642bd88dbd", func := "loop.example/g01404/laws.FnExactTurnsText", spec := "fnExactTurnsText", inPlace := ["internal/abi.NoEscape"], unfollowed := true, recurses := true, plainKeys := false, apart := false }
def FnExactTurnsTextSaid : Prop := fnExactTurnsTextRow.holds Try.pinned (OpenSpec.ofChange fnExactTurnsTextSpec)

/-- ITS FALSE NEIGHBOUR: 'it returns false'. Refute it at one input. -/
def fnExactTurnsTextWrong : ChangeSpec := { name := "fnExactTurnsText", fn := fun _ => fun
  | [d] => { results := [.lit (.bool false)], args := [d] }
  | _ => none }
def FnExactTurnsTextWrongFalsely : Prop := fnExactTurnsTextRow.holds Try.pinned (OpenSpec.ofChange fnExactTurnsTextWrong)

/-- 'laws.FnExactParseTurns': WHATEVER THE INPUT: true; the input reads as it did. -/
def fnExactParseTurnsSpec : ChangeSpec := { name := "fnExactParseTurns", fn := fun _ => fun
  | [d] => { results := [.lit (.bool true)], args := [d] }
  | _ => none }
def fnExactParseTurnsRow : OpenClaim := { program := "ythggpmgjgibcoaa", sum := "fcf8724a470c37d28da833fe70b03e4d015b4ee80f277e14698ae6642bd88dbd", func := "loop.example/g01404/laws.FnExactParseTurns", spec := "fnExactParseTurns", plainKeys := false, apart := false }
def FnExactParseTurnsSaid : Prop := fnExactParseTurnsRow.holds Try.pinned (OpenSpec.ofChange fnExactParseTurnsSpec)

/-- ITS FALSE NEIGHBOUR: 'it returns false'. Refute it at one input. -/
def fnExactParseTurnsWrong : ChangeSpec := { name := "fnExactParseTurns", fn := fun _ => fun
  | [d] => { results := [.lit (.bool false)], args := [d] }
  | _ => none }
def FnExactParseTurnsWrongFalsely : Prop := fnExactParseTurnsRow.holds Try.pinned (OpenSpec.ofChange fnExactParseTurnsWrong)

/-- 'laws.FnExactCountStates': WHATEVER THE INPUT: true; the input reads as it did. -/
def fnExactCountStatesSpec : ChangeSpec := { name := "fnExactCountStates", fn := fun _ => fun
  | [d] => { results := [.lit (.bool true)], args := [d] }
  | _ => none }
def fnExactCountStatesRow : OpenClaim := { program := "ythggpmgjgibcoaa", sum := "fcf8724a470c37d28da833fe70b03e4d015b4ee80f277e14698ae6642bd88dbd", func := "loop.example/g01404/laws.FnExactCountStates", spec := "fnExactCountStates", unfollowed := true, recurses := true, plainKeys := false, apart := false }
def FnExactCountStatesSaid : Prop := fnExactCountStatesRow.holds Try.pinned (OpenSpec.ofChange fnExactCountStatesSpec)

/-- ITS FALSE NEIGHBOUR: 'it returns false'. Refute it at one input. -/
def fnExactCountStatesWrong : ChangeSpec := { name := "fnExactCountStates", fn := fun _ => fun
  | [d] => { results := [.lit (.bool false)], args := [d] }
  | _ => none }
def FnExactCountStatesWrongFalsely : Prop := fnExactCountStatesRow.holds Try.pinned (OpenSpec.ofChange fnExactCountStatesWrong)

/-- 'laws.FnExactStepState': WHATEVER THE INPUT: true; the input reads as it did. -/
def fnExactStepStateSpec : ChangeSpec := { name := "fnExactStepState", fn := fun _ => fun
  | [d1, d2, d3] => { results := [.lit (.bool true)], args := [d1, d2, d3] }
  | _ => none }
def fnExactStepStateRow : OpenClaim := { program := "ythggpmgjgibcoaa", sum := "fcf8724a470c37d28da833fe70b03e4d015b4ee80f277e14698ae6642bd88dbd", func := "loop.example/g01404/laws.FnExactStepState", spec := "fnExactStepState", unfollowed := true, recurses := true, plainKeys := false, apart := false }
def FnExactStepStateSaid : Prop := fnExactStepStateRow.holds Try.pinned (OpenSpec.ofChange fnExactStepStateSpec)

/-- ITS FALSE NEIGHBOUR: 'it returns false'. Refute it at one input. -/
def fnExactStepStateWrong : ChangeSpec := { name := "fnExactStepState", fn := fun _ => fun
  | [d1, d2, d3] => { results := [.lit (.bool false)], args := [d1, d2, d3] }
  | _ => none }
def FnExactStepStateWrongFalsely : Prop := fnExactStepStateRow.holds Try.pinned (OpenSpec.ofChange fnExactStepStateWrong)

/-- 'laws.FnExactIsLasting': WHATEVER THE INPUT: true; the input reads as it did. -/
def fnExactIsLastingSpec : ChangeSpec := { name := "fnExactIsLasting", fn := fun _ => fun
  | [d1, d2] => { results := [.lit (.bool true)], args := [d1, d2] }
  | _ => none }
def fnExactIsLastingRow : OpenClaim := { program := "ythggpmgjgibcoaa", sum := "fcf8724a470c37d28da833fe70b03e4d015b4ee80f277e14698ae6642bd88dbd", func := "loop.example/g01404/laws.FnExactIsLasting", spec := "fnExactIsLasting", unfollowed := true, recurses := true, plainKeys := false, apart := false }
def FnExactIsLastingSaid : Prop := fnExactIsLastingRow.holds Try.pinned (OpenSpec.ofChange fnExactIsLastingSpec)

/-- ITS FALSE NEIGHBOUR: 'it returns false'. Refute it at one input. -/
def fnExactIsLastingWrong : ChangeSpec := { name := "fnExactIsLasting", fn := fun _ => fun
  | [d1, d2] => { results := [.lit (.bool false)], args := [d1, d2] }
  | _ => none }
def FnExactIsLastingWrongFalsely : Prop := fnExactIsLastingRow.holds Try.pinned (OpenSpec.ofChange fnExactIsLastingWrong)

/-- 'laws.FnExactCanServe': WHATEVER THE INPUT: true; the input reads as it did. -/
def fnExactCanServeSpec : ChangeSpec := { name := "fnExactCanServe", fn := fun _ => fun
  | [d] => { results := [.lit (.bool true)], args := [d] }
  | _ => none }
def fnExactCanServeRow : OpenClaim := { program := "ythggpmgjgibcoaa", sum := "fcf8724a470c37d28da833fe70b03e4d015b4ee80f277e14698ae6642bd88dbd", func := "loop.example/g01404/laws.FnExactCanServe", spec := "fnExactCanServe", unfollowed := true, recurses := true, plainKeys := false, apart := false }
def FnExactCanServeSaid : Prop := fnExactCanServeRow.holds Try.pinned (OpenSpec.ofChange fnExactCanServeSpec)

/-- ITS FALSE NEIGHBOUR: 'it returns false'. Refute it at one input. -/
def fnExactCanServeWrong : ChangeSpec := { name := "fnExactCanServe", fn := fun _ => fun
  | [d] => { results := [.lit (.bool false)], args := [d] }
  | _ => none }
def FnExactCanServeWrongFalsely : Prop := fnExactCanServeRow.holds Try.pinned (OpenSpec.ofChange fnExactCanServeWrong)

/-- 'laws.FnExactCountLasting': WHATEVER THE INPUT: true; the input reads as it did. -/
def fnExactCountLastingSpec : ChangeSpec := { name := "fnExactCountLasting", fn := fun _ => fun
  | [d] => { results := [.lit (.bool true)], args := [d] }
  | _ => none }
def fnExactCountLastingRow : OpenClaim := { program := "ythggpmgjgibcoaa", sum := "fcf8724a470c37d28da833fe70b03e4d015b4ee80f277e14698ae6642bd88dbd", func := "loop.example/g01404/laws.FnExactCountLasting", spec := "fnExactCountLasting", unfollowed := true, recurses := true, plainKeys := false, apart := false }
def FnExactCountLastingSaid : Prop := fnExactCountLastingRow.holds Try.pinned (OpenSpec.ofChange fnExactCountLastingSpec)

/-- ITS FALSE NEIGHBOUR: 'it returns false'. Refute it at one input. -/
def fnExactCountLastingWrong : ChangeSpec := { name := "fnExactCountLasting", fn := fun _ => fun
  | [d] => { results := [.lit (.bool false)], args := [d] }
  | _ => none }
def FnExactCountLastingWrongFalsely : Prop := fnExactCountLastingRow.holds Try.pinned (OpenSpec.ofChange fnExactCountLastingWrong)

/-- 'laws.FnExactKeepingChoices': WHATEVER THE INPUT: true; the input reads as it did. -/
def fnExactKeepingChoicesSpec : ChangeSpec := { name := "fnExactKeepingChoices", fn := fun _ => fun
  | [d1, d2] => { results := [.lit (.bool true)], args := [d1, d2] }
  | _ => none }
def fnExactKeepingChoicesRow : OpenClaim := { program := "ythggpmgjgibcoaa", sum := "fcf8724a470c37d28da833fe70b03e4d015b4ee80f277e14698ae6642bd88dbd", func := "loop.example/g01404/laws.FnExactKeepingChoices", spec := "fnExactKeepingChoices", unfollowed := true, recurses := true, plainKeys := false, apart := false }
def FnExactKeepingChoicesSaid : Prop := fnExactKeepingChoicesRow.holds Try.pinned (OpenSpec.ofChange fnExactKeepingChoicesSpec)

/-- ITS FALSE NEIGHBOUR: 'it returns false'. Refute it at one input. -/
def fnExactKeepingChoicesWrong : ChangeSpec := { name := "fnExactKeepingChoices", fn := fun _ => fun
  | [d1, d2] => { results := [.lit (.bool false)], args := [d1, d2] }
  | _ => none }
def FnExactKeepingChoicesWrongFalsely : Prop := fnExactKeepingChoicesRow.holds Try.pinned (OpenSpec.ofChange fnExactKeepingChoicesWrong)

/-- 'laws.FnExactLeastPlay': WHATEVER THE INPUT: true; the input reads as it did. -/
def fnExactLeastPlaySpec : ChangeSpec := { name := "fnExactLeastPlay", fn := fun _ => fun
  | [d] => { results := [.lit (.bool true)], args := [d] }
  | _ => none }
def fnExactLeastPlayRow : OpenClaim := { program := "ythggpmgjgibcoaa", sum := "fcf8724a470c37d28da833fe70b03e4d015b4ee80f277e14698ae6642bd88dbd", func := "loop.example/g01404/laws.FnExactLeastPlay", spec := "fnExactLeastPlay", unfollowed := true, recurses := true, plainKeys := false, apart := false }
def FnExactLeastPlaySaid : Prop := fnExactLeastPlayRow.holds Try.pinned (OpenSpec.ofChange fnExactLeastPlaySpec)

/-- ITS FALSE NEIGHBOUR: 'it returns false'. Refute it at one input. -/
def fnExactLeastPlayWrong : ChangeSpec := { name := "fnExactLeastPlay", fn := fun _ => fun
  | [d] => { results := [.lit (.bool false)], args := [d] }
  | _ => none }
def FnExactLeastPlayWrongFalsely : Prop := fnExactLeastPlayRow.holds Try.pinned (OpenSpec.ofChange fnExactLeastPlayWrong)

/-- 'laws.FnExactFewestSlots': WHATEVER THE INPUT: true; the input reads as it did. -/
def fnExactFewestSlotsSpec : ChangeSpec := { name := "fnExactFewestSlots", fn := fun _ => fun
  | [d] => { results := [.lit (.bool true)], args := [d] }
  | _ => none }
def fnExactFewestSlotsRow : OpenClaim := { program := "ythggpmgjgibcoaa", sum := "fcf8724a470c37d28da833fe70b03e4d015b4ee80f277e14698ae6642bd88dbd", func := "loop.example/g01404/laws.FnExactFewestSlots", spec := "fnExactFewestSlots", unfollowed := true, recurses := true, plainKeys := false, apart := false }
def FnExactFewestSlotsSaid : Prop := fnExactFewestSlotsRow.holds Try.pinned (OpenSpec.ofChange fnExactFewestSlotsSpec)

/-- ITS FALSE NEIGHBOUR: 'it returns false'. Refute it at one input. -/
def fnExactFewestSlotsWrong : ChangeSpec := { name := "fnExactFewestSlots", fn := fun _ => fun
  | [d] => { results := [.lit (.bool false)], args := [d] }
  | _ => none }
def FnExactFewestSlotsWrongFalsely : Prop := fnExactFewestSlotsRow.holds Try.pinned (OpenSpec.ofChange fnExactFewestSlotsWrong)

/-- 'laws.FnExactLeastGap': WHATEVER THE INPUT: true; the input reads as it did. -/
def fnExactLeastGapSpec : ChangeSpec := { name := "fnExactLeastGap", fn := fun _ => fun
  | [d1, d2] => { results := [.lit (.bool true)], args := [d1, d2] }
  | _ => none }
def fnExactLeastGapRow : OpenClaim := { program := "ythggpmgjgibcoaa", sum := "fcf8724a470c37d28da833fe70b03e4d015b4ee80f277e14698ae6642bd88dbd", func := "loop.example/g01404/laws.FnExactLeastGap", spec := "fnExactLeastGap", unfollowed := true, recurses := true, plainKeys := false, apart := false }
def FnExactLeastGapSaid : Prop := fnExactLeastGapRow.holds Try.pinned (OpenSpec.ofChange fnExactLeastGapSpec)

/-- ITS FALSE NEIGHBOUR: 'it returns false'. Refute it at one input. -/
def fnExactLeastGapWrong : ChangeSpec := { name := "fnExactLeastGap", fn := fun _ => fun
  | [d1, d2] => { results := [.lit (.bool false)], args := [d1, d2] }
  | _ => none }
def FnExactLeastGapWrongFalsely : Prop := fnExactLeastGapRow.holds Try.pinned (OpenSpec.ofChange fnExactLeastGapWrong)

/-- 'laws.FnExactFirstKept': WHATEVER THE INPUT: true; the input reads as it did. -/
def fnExactFirstKeptSpec : ChangeSpec := { name := "fnExactFirstKept", fn := fun _ => fun
  | [d1, d2, d3] => { results := [.lit (.bool true)], args := [d1, d2, d3] }
  | _ => none }
def fnExactFirstKeptRow : OpenClaim := { program := "ythggpmgjgibcoaa", sum := "fcf8724a470c37d28da833fe70b03e4d015b4ee80f277e14698ae6642bd88dbd", func := "loop.example/g01404/laws.FnExactFirstKept", spec := "fnExactFirstKept", unfollowed := true, recurses := true, plainKeys := false, apart := false }
def FnExactFirstKeptSaid : Prop := fnExactFirstKeptRow.holds Try.pinned (OpenSpec.ofChange fnExactFirstKeptSpec)

/-- ITS FALSE NEIGHBOUR: 'it returns false'. Refute it at one input. -/
def fnExactFirstKeptWrong : ChangeSpec := { name := "fnExactFirstKept", fn := fun _ => fun
  | [d1, d2, d3] => { results := [.lit (.bool false)], args := [d1, d2, d3] }
  | _ => none }
def FnExactFirstKeptWrongFalsely : Prop := fnExactFirstKeptRow.holds Try.pinned (OpenSpec.ofChange fnExactFirstKeptWrong)

/- THE SECOND FORM. 'bulk': how many values and letters a reading holds, each counted each time it is reached (what is shared counts as often as it is met; a slice's spare places count too). A statement '..UptoSaid' is the law's where the arguments, and the package variables that the reading takes, are together of bulk at most 1048576: NARROWER than '..Said'. Prove '..Said' where nothing that the law and all that it calls make is longer than what came in: it says more and counts as full. Else prove '..UptoSaid'. A law counts once. -/
mutual
def uptoBulk {H : Type} : DataW H → Nat
  | .lit (.string bytes) => bytes.length + 1
  | .lit _ => 1
  | .nil => 1
  | .ptr d => uptoBulk d + 1
  | .slice elems spare => uptoBulkAll elems + uptoBulkAll spare + 1
  | .agg parts => uptoBulkAll parts + 1
  | .iface _ d => uptoBulk d + 1
  | .map entries => uptoBulkEntries entries + 1
  | .held _ => 1
def uptoBulkAll {H : Type} : List (DataW H) → Nat
  | [] => 0
  | d :: r => uptoBulk d + uptoBulkAll r
def uptoBulkEntries {H : Type} : List (Lit × DataW H) → Nat
  | [] => 0
  | x :: r => uptoBulkEntry x + uptoBulkEntries r
def uptoBulkEntry {H : Type} : Lit × DataW H → Nat
  | (.string bytes, d) => bytes.length + uptoBulk d + 1
  | (_, d) => uptoBulk d + 1
 end
def uptoSmall : (H : Type) → List (DataW H) → Bool := fun _ ds => decide (uptoBulkAll ds ≤ 1048576)
def OpenSpec.upto (s : _root_.Go.ChangeSpec) : _root_.Go.OpenSpec := { _root_.Go.OpenSpec.ofChange s with cond := some uptoSmall }

/-- 'laws.FnShifts', WHERE WHAT IT READS IS OF BULK AT MOST 1048576: true; the input reads as it did. -/
def fnShiftsUptoRow : OpenClaim := { program := "ythggpmgjgibcoaa", sum := "fcf8724a470c37d28da833fe70b03e4d015b4ee80f277e14698ae6642bd88dbd", func := "loop.example/g01404/laws.FnShifts", spec := "fnShifts", inPlace := ["internal/abi.NoEscape"], unfollowed := true, recurses := true, plainKeys := false, apart := false, narrowed := true }
def FnShiftsUptoSaid : Prop := fnShiftsUptoRow.holds Try.pinned (OpenSpec.upto fnShiftsSpec)

/-- 'laws.FnStates', WHERE WHAT IT READS IS OF BULK AT MOST 1048576: true; the input reads as it did. -/
def fnStatesUptoRow : OpenClaim := { program := "ythggpmgjgibcoaa", sum := "fcf8724a470c37d28da833fe70b03e4d015b4ee80f277e14698ae6642bd88dbd", func := "loop.example/g01404/laws.FnStates", spec := "fnStates", unfollowed := true, recurses := true, plainKeys := false, apart := false, narrowed := true }
def FnStatesUptoSaid : Prop := fnStatesUptoRow.holds Try.pinned (OpenSpec.upto fnStatesSpec)

/-- 'laws.FnPlays', WHERE WHAT IT READS IS OF BULK AT MOST 1048576: true; the input reads as it did. -/
def fnPlaysUptoRow : OpenClaim := { program := "ythggpmgjgibcoaa", sum := "fcf8724a470c37d28da833fe70b03e4d015b4ee80f277e14698ae6642bd88dbd", func := "loop.example/g01404/laws.FnPlays", spec := "fnPlays", unfollowed := true, recurses := true, plainKeys := false, apart := false, narrowed := true }
def FnPlaysUptoSaid : Prop := fnPlaysUptoRow.holds Try.pinned (OpenSpec.upto fnPlaysSpec)

/-- 'laws.FnExactPeriodOf', WHERE WHAT IT READS IS OF BULK AT MOST 1048576: true; the input reads as it did. -/
def fnExactPeriodOfUptoRow : OpenClaim := { program := "ythggpmgjgibcoaa", sum := "fcf8724a470c37d28da833fe70b03e4d015b4ee80f277e14698ae6642bd88dbd", func := "loop.example/g01404/laws.FnExactPeriodOf", spec := "fnExactPeriodOf", inPlace := ["internal/abi.NoEscape"], unfollowed := true, recurses := true, plainKeys := false, apart := false, narrowed := true }
def FnExactPeriodOfUptoSaid : Prop := fnExactPeriodOfUptoRow.holds Try.pinned (OpenSpec.upto fnExactPeriodOfSpec)

/-- 'laws.FnExactTurnsText', WHERE WHAT IT READS IS OF BULK AT MOST 1048576: true; the input reads as it did. -/
def fnExactTurnsTextUptoRow : OpenClaim := { program := "ythggpmgjgibcoaa", sum := "fcf8724a470c37d28da833fe70b03e4d015b4ee80f277e14698ae6642bd88dbd", func := "loop.example/g01404/laws.FnExactTurnsText", spec := "fnExactTurnsText", inPlace := ["internal/abi.NoEscape"], unfollowed := true, recurses := true, plainKeys := false, apart := false, narrowed := true }
def FnExactTurnsTextUptoSaid : Prop := fnExactTurnsTextUptoRow.holds Try.pinned (OpenSpec.upto fnExactTurnsTextSpec)

/-- 'laws.FnExactParseTurns', WHERE WHAT IT READS IS OF BULK AT MOST 1048576: true; the input reads as it did. -/
def fnExactParseTurnsUptoRow : OpenClaim := { program := "ythggpmgjgibcoaa", sum := "fcf8724a470c37d28da833fe70b03e4d015b4ee80f277e14698ae6642bd88dbd", func := "loop.example/g01404/laws.FnExactParseTurns", spec := "fnExactParseTurns", plainKeys := false, apart := false, narrowed := true }
def FnExactParseTurnsUptoSaid : Prop := fnExactParseTurnsUptoRow.holds Try.pinned (OpenSpec.upto fnExactParseTurnsSpec)

/-- 'laws.FnExactCountStates', WHERE WHAT IT READS IS OF BULK AT MOST 1048576: true; the input reads as it did. -/
def fnExactCountStatesUptoRow : OpenClaim := { program := "ythggpmgjgibcoaa", sum := "fcf8724a470c37d28da833fe70b03e4d015b4ee80f277e14698ae6642bd88dbd", func := "loop.example/g01404/laws.FnExactCountStates", spec := "fnExactCountStates", unfollowed := true, recurses := true, plainKeys := false, apart := false, narrowed := true }
def FnExactCountStatesUptoSaid : Prop := fnExactCountStatesUptoRow.holds Try.pinned (OpenSpec.upto fnExactCountStatesSpec)

/-- 'laws.FnExactStepState', WHERE WHAT IT READS IS OF BULK AT MOST 1048576: true; the input reads as it did. -/
def fnExactStepStateUptoRow : OpenClaim := { program := "ythggpmgjgibcoaa", sum := "fcf8724a470c37d28da833fe70b03e4d015b4ee80f277e14698ae6642bd88dbd", func := "loop.example/g01404/laws.FnExactStepState", spec := "fnExactStepState", unfollowed := true, recurses := true, plainKeys := false, apart := false, narrowed := true }
def FnExactStepStateUptoSaid : Prop := fnExactStepStateUptoRow.holds Try.pinned (OpenSpec.upto fnExactStepStateSpec)

/-- 'laws.FnExactIsLasting', WHERE WHAT IT READS IS OF BULK AT MOST 1048576: true; the input reads as it did. -/
def fnExactIsLastingUptoRow : OpenClaim := { program := "ythggpmgjgibcoaa", sum := "fcf8724a470c37d28da833fe70b03e4d015b4ee80f277e14698ae6642bd88dbd", func := "loop.example/g01404/laws.FnExactIsLasting", spec := "fnExactIsLasting", unfollowed := true, recurses := true, plainKeys := false, apart := false, narrowed := true }
def FnExactIsLastingUptoSaid : Prop := fnExactIsLastingUptoRow.holds Try.pinned (OpenSpec.upto fnExactIsLastingSpec)

/-- 'laws.FnExactCanServe', WHERE WHAT IT READS IS OF BULK AT MOST 1048576: true; the input reads as it did. -/
def fnExactCanServeUptoRow : OpenClaim := { program := "ythggpmgjgibcoaa", sum := "fcf8724a470c37d28da833fe70b03e4d015b4ee80f277e14698ae6642bd88dbd", func := "loop.example/g01404/laws.FnExactCanServe", spec := "fnExactCanServe", unfollowed := true, recurses := true, plainKeys := false, apart := false, narrowed := true }
def FnExactCanServeUptoSaid : Prop := fnExactCanServeUptoRow.holds Try.pinned (OpenSpec.upto fnExactCanServeSpec)

/-- 'laws.FnExactCountLasting', WHERE WHAT IT READS IS OF BULK AT MOST 1048576: true; the input reads as it did. -/
def fnExactCountLastingUptoRow : OpenClaim := { program := "ythggpmgjgibcoaa", sum := "fcf8724a470c37d28da833fe70b03e4d015b4ee80f277e14698ae6642bd88dbd", func := "loop.example/g01404/laws.FnExactCountLasting", spec := "fnExactCountLasting", unfollowed := true, recurses := true, plainKeys := false, apart := false, narrowed := true }
def FnExactCountLastingUptoSaid : Prop := fnExactCountLastingUptoRow.holds Try.pinned (OpenSpec.upto fnExactCountLastingSpec)

/-- 'laws.FnExactKeepingChoices', WHERE WHAT IT READS IS OF BULK AT MOST 1048576: true; the input reads as it did. -/
def fnExactKeepingChoicesUptoRow : OpenClaim := { program := "ythggpmgjgibcoaa", sum := "fcf8724a470c37d28da833fe70b03e4d015b4ee80f277e14698ae6642bd88dbd", func := "loop.example/g01404/laws.FnExactKeepingChoices", spec := "fnExactKeepingChoices", unfollowed := true, recurses := true, plainKeys := false, apart := false, narrowed := true }
def FnExactKeepingChoicesUptoSaid : Prop := fnExactKeepingChoicesUptoRow.holds Try.pinned (OpenSpec.upto fnExactKeepingChoicesSpec)

/-- 'laws.FnExactLeastPlay', WHERE WHAT IT READS IS OF BULK AT MOST 1048576: true; the input reads as it did. -/
def fnExactLeastPlayUptoRow : OpenClaim := { program := "ythggpmgjgibcoaa", sum := "fcf8724a470c37d28da833fe70b03e4d015b4ee80f277e14698ae6642bd88dbd", func := "loop.example/g01404/laws.FnExactLeastPlay", spec := "fnExactLeastPlay", unfollowed := true, recurses := true, plainKeys := false, apart := false, narrowed := true }
def FnExactLeastPlayUptoSaid : Prop := fnExactLeastPlayUptoRow.holds Try.pinned (OpenSpec.upto fnExactLeastPlaySpec)

/-- 'laws.FnExactFewestSlots', WHERE WHAT IT READS IS OF BULK AT MOST 1048576: true; the input reads as it did. -/
def fnExactFewestSlotsUptoRow : OpenClaim := { program := "ythggpmgjgibcoaa", sum := "fcf8724a470c37d28da833fe70b03e4d015b4ee80f277e14698ae6642bd88dbd", func := "loop.example/g01404/laws.FnExactFewestSlots", spec := "fnExactFewestSlots", unfollowed := true, recurses := true, plainKeys := false, apart := false, narrowed := true }
def FnExactFewestSlotsUptoSaid : Prop := fnExactFewestSlotsUptoRow.holds Try.pinned (OpenSpec.upto fnExactFewestSlotsSpec)

/-- 'laws.FnExactLeastGap', WHERE WHAT IT READS IS OF BULK AT MOST 1048576: true; the input reads as it did. -/
def fnExactLeastGapUptoRow : OpenClaim := { program := "ythggpmgjgibcoaa", sum := "fcf8724a470c37d28da833fe70b03e4d015b4ee80f277e14698ae6642bd88dbd", func := "loop.example/g01404/laws.FnExactLeastGap", spec := "fnExactLeastGap", unfollowed := true, recurses := true, plainKeys := false, apart := false, narrowed := true }
def FnExactLeastGapUptoSaid : Prop := fnExactLeastGapUptoRow.holds Try.pinned (OpenSpec.upto fnExactLeastGapSpec)

/-- 'laws.FnExactFirstKept', WHERE WHAT IT READS IS OF BULK AT MOST 1048576: true; the input reads as it did. -/
def fnExactFirstKeptUptoRow : OpenClaim := { program := "ythggpmgjgibcoaa", sum := "fcf8724a470c37d28da833fe70b03e4d015b4ee80f277e14698ae6642bd88dbd", func := "loop.example/g01404/laws.FnExactFirstKept", spec := "fnExactFirstKept", unfollowed := true, recurses := true, plainKeys := false, apart := false, narrowed := true }
def FnExactFirstKeptUptoSaid : Prop := fnExactFirstKeptUptoRow.holds Try.pinned (OpenSpec.upto fnExactFirstKeptSpec)

end Rows
end Go.Proofs.Ythggpmgjgibcoaa
