/-
  No cell of these rows narrows 'for every input' (looked for: loops, veiled, ifaces, maps, wideKeys, modest, calm, conditions, laid).
  DERIVED. THE GIVEN ROWS OF THIS SEAT. 15 by the template 'for every input the law returns true; each argument reads behind the call as it read before'; 0 by the template 'total and deterministic' (their statements: YtieobjoijalijaaTotals.lean).
  GIVEN WITH THE SEED: the statements are not yours to turn. If you find one false, say at which input.
  Laid BY PROGRAM, IN A SANDBOX (cutbox-rows.mjs): the forced cells as the released guide's own fill.sh prints them over the translation 9fd73a0cf0471ead… (all of the seat's roots in one cut). By AI agents, Wed Nov 11 2026. No macro, syntax, notation, axiom, sorry.
-/
import Derived.Test.YtieobjoijalijaaChecked
import GoSem.Claim
import GoSem.ClaimJoined
import GoSem.ClaimMapViews
import Derived.JoinedTies
import Derived.KernelRfl
namespace Go.Proofs.Ytieobjoijalijaa
/- THE CELL 'sum', in the pinned program and in every row, IS THE sha256 OF THE DUMP (.gsa) THAT YtieobjoijalijaaProg.lean LOADS. Nothing in Lean hashes anything: it is a label: what it is worth is what the hold of that sum in a sandbox is worth. -/
noncomputable def Try.pinned : Pinned := { name := "ytieobjoijalijaa", sum := "9fd73a0cf0471ead260c1479e1e070c426a2689f4ab743b7c14d9ca0cf791199", checked := Try.checked }
namespace Rows
def none {H : Type} : Left H := { results := [], args := [] }

/-- 'laws.FnExactFewestSlots': WHATEVER THE INPUT: true; the input reads as it did. -/
def fnExactFewestSlotsSpec : ChangeSpec := { name := "fnExactFewestSlots", fn := fun _ => fun
  | [d] => { results := [.lit (.bool true)], args := [d] }
  | _ => none }
def fnExactFewestSlotsRow : OpenClaim := { program := "ytieobjoijalijaa", sum := "9fd73a0cf0471ead260c1479e1e070c426a2689f4ab743b7c14d9ca0cf791199", func := "loop.example/g01404/laws.FnExactFewestSlots", spec := "fnExactFewestSlots", unfollowed := true, recurses := true, plainKeys := false, apart := false }
def FnExactFewestSlotsSaid : Prop := fnExactFewestSlotsRow.holds Try.pinned (OpenSpec.ofChange fnExactFewestSlotsSpec)

/-- ITS FALSE NEIGHBOUR: 'it returns false'. Refute it at one input. -/
def fnExactFewestSlotsWrong : ChangeSpec := { name := "fnExactFewestSlots", fn := fun _ => fun
  | [d] => { results := [.lit (.bool false)], args := [d] }
  | _ => none }
def FnExactFewestSlotsWrongFalsely : Prop := fnExactFewestSlotsRow.holds Try.pinned (OpenSpec.ofChange fnExactFewestSlotsWrong)

/-- 'laws.FnExactAreNatural': WHATEVER THE INPUT: true; the input reads as it did. -/
def fnExactAreNaturalSpec : ChangeSpec := { name := "fnExactAreNatural", fn := fun _ => fun
  | [d] => { results := [.lit (.bool true)], args := [d] }
  | _ => none }
def fnExactAreNaturalRow : OpenClaim := { program := "ytieobjoijalijaa", sum := "9fd73a0cf0471ead260c1479e1e070c426a2689f4ab743b7c14d9ca0cf791199", func := "loop.example/g01404/laws.FnExactAreNatural", spec := "fnExactAreNatural", recurses := true, plainKeys := false, apart := false }
def FnExactAreNaturalSaid : Prop := fnExactAreNaturalRow.holds Try.pinned (OpenSpec.ofChange fnExactAreNaturalSpec)

/-- ITS FALSE NEIGHBOUR: 'it returns false'. Refute it at one input. -/
def fnExactAreNaturalWrong : ChangeSpec := { name := "fnExactAreNatural", fn := fun _ => fun
  | [d] => { results := [.lit (.bool false)], args := [d] }
  | _ => none }
def FnExactAreNaturalWrongFalsely : Prop := fnExactAreNaturalRow.holds Try.pinned (OpenSpec.ofChange fnExactAreNaturalWrong)

/-- 'laws.FnExactLeastPlayOn': WHATEVER THE INPUT: true; the input reads as it did. -/
def fnExactLeastPlayOnSpec : ChangeSpec := { name := "fnExactLeastPlayOn", fn := fun _ => fun
  | [d1, d2] => { results := [.lit (.bool true)], args := [d1, d2] }
  | _ => none }
def fnExactLeastPlayOnRow : OpenClaim := { program := "ytieobjoijalijaa", sum := "9fd73a0cf0471ead260c1479e1e070c426a2689f4ab743b7c14d9ca0cf791199", func := "loop.example/g01404/laws.FnExactLeastPlayOn", spec := "fnExactLeastPlayOn", unfollowed := true, recurses := true, plainKeys := false, apart := false }
def FnExactLeastPlayOnSaid : Prop := fnExactLeastPlayOnRow.holds Try.pinned (OpenSpec.ofChange fnExactLeastPlayOnSpec)

/-- ITS FALSE NEIGHBOUR: 'it returns false'. Refute it at one input. -/
def fnExactLeastPlayOnWrong : ChangeSpec := { name := "fnExactLeastPlayOn", fn := fun _ => fun
  | [d1, d2] => { results := [.lit (.bool false)], args := [d1, d2] }
  | _ => none }
def FnExactLeastPlayOnWrongFalsely : Prop := fnExactLeastPlayOnRow.holds Try.pinned (OpenSpec.ofChange fnExactLeastPlayOnWrong)

/-- 'laws.FnExactPutSets': WHATEVER THE INPUT: true; the input reads as it did. -/
def fnExactPutSetsSpec : ChangeSpec := { name := "fnExactPutSets", fn := fun _ => fun
  | [d1, d2, d3] => { results := [.lit (.bool true)], args := [d1, d2, d3] }
  | _ => none }
def fnExactPutSetsRow : OpenClaim := { program := "ytieobjoijalijaa", sum := "9fd73a0cf0471ead260c1479e1e070c426a2689f4ab743b7c14d9ca0cf791199", func := "loop.example/g01404/laws.FnExactPutSets", spec := "fnExactPutSets", unfollowed := true, recurses := true, plainKeys := false, apart := false }
def FnExactPutSetsSaid : Prop := fnExactPutSetsRow.holds Try.pinned (OpenSpec.ofChange fnExactPutSetsSpec)

/-- ITS FALSE NEIGHBOUR: 'it returns false'. Refute it at one input. -/
def fnExactPutSetsWrong : ChangeSpec := { name := "fnExactPutSets", fn := fun _ => fun
  | [d1, d2, d3] => { results := [.lit (.bool false)], args := [d1, d2, d3] }
  | _ => none }
def FnExactPutSetsWrongFalsely : Prop := fnExactPutSetsRow.holds Try.pinned (OpenSpec.ofChange fnExactPutSetsWrong)

/-- 'laws.FnExactIsGround': WHATEVER THE INPUT: true; the input reads as it did. -/
def fnExactIsGroundSpec : ChangeSpec := { name := "fnExactIsGround", fn := fun _ => fun
  | [d] => { results := [.lit (.bool true)], args := [d] }
  | _ => none }
def fnExactIsGroundRow : OpenClaim := { program := "ytieobjoijalijaa", sum := "9fd73a0cf0471ead260c1479e1e070c426a2689f4ab743b7c14d9ca0cf791199", func := "loop.example/g01404/laws.FnExactIsGround", spec := "fnExactIsGround", plainKeys := false, apart := false }
def FnExactIsGroundSaid : Prop := fnExactIsGroundRow.holds Try.pinned (OpenSpec.ofChange fnExactIsGroundSpec)

/-- ITS FALSE NEIGHBOUR: 'it returns false'. Refute it at one input. -/
def fnExactIsGroundWrong : ChangeSpec := { name := "fnExactIsGround", fn := fun _ => fun
  | [d] => { results := [.lit (.bool false)], args := [d] }
  | _ => none }
def FnExactIsGroundWrongFalsely : Prop := fnExactIsGroundRow.holds Try.pinned (OpenSpec.ofChange fnExactIsGroundWrong)

/-- 'laws.FnExactLineGround': WHATEVER THE INPUT: true; the input reads as it did. -/
def fnExactLineGroundSpec : ChangeSpec := { name := "fnExactLineGround", fn := fun _ => fun
  | [d] => { results := [.lit (.bool true)], args := [d] }
  | _ => none }
def fnExactLineGroundRow : OpenClaim := { program := "ytieobjoijalijaa", sum := "9fd73a0cf0471ead260c1479e1e070c426a2689f4ab743b7c14d9ca0cf791199", func := "loop.example/g01404/laws.FnExactLineGround", spec := "fnExactLineGround", plainKeys := false, apart := false }
def FnExactLineGroundSaid : Prop := fnExactLineGroundRow.holds Try.pinned (OpenSpec.ofChange fnExactLineGroundSpec)

/-- ITS FALSE NEIGHBOUR: 'it returns false'. Refute it at one input. -/
def fnExactLineGroundWrong : ChangeSpec := { name := "fnExactLineGround", fn := fun _ => fun
  | [d] => { results := [.lit (.bool false)], args := [d] }
  | _ => none }
def FnExactLineGroundWrongFalsely : Prop := fnExactLineGroundRow.holds Try.pinned (OpenSpec.ofChange fnExactLineGroundWrong)

/-- 'laws.FnExactRingGround': WHATEVER THE INPUT: true; the input reads as it did. -/
def fnExactRingGroundSpec : ChangeSpec := { name := "fnExactRingGround", fn := fun _ => fun
  | [d] => { results := [.lit (.bool true)], args := [d] }
  | _ => none }
def fnExactRingGroundRow : OpenClaim := { program := "ytieobjoijalijaa", sum := "9fd73a0cf0471ead260c1479e1e070c426a2689f4ab743b7c14d9ca0cf791199", func := "loop.example/g01404/laws.FnExactRingGround", spec := "fnExactRingGround", plainKeys := false, apart := false }
def FnExactRingGroundSaid : Prop := fnExactRingGroundRow.holds Try.pinned (OpenSpec.ofChange fnExactRingGroundSpec)

/-- ITS FALSE NEIGHBOUR: 'it returns false'. Refute it at one input. -/
def fnExactRingGroundWrong : ChangeSpec := { name := "fnExactRingGround", fn := fun _ => fun
  | [d] => { results := [.lit (.bool false)], args := [d] }
  | _ => none }
def FnExactRingGroundWrongFalsely : Prop := fnExactRingGroundRow.holds Try.pinned (OpenSpec.ofChange fnExactRingGroundWrong)

/-- 'laws.FnExactStarGround': WHATEVER THE INPUT: true; the input reads as it did. -/
def fnExactStarGroundSpec : ChangeSpec := { name := "fnExactStarGround", fn := fun _ => fun
  | [d] => { results := [.lit (.bool true)], args := [d] }
  | _ => none }
def fnExactStarGroundRow : OpenClaim := { program := "ytieobjoijalijaa", sum := "9fd73a0cf0471ead260c1479e1e070c426a2689f4ab743b7c14d9ca0cf791199", func := "loop.example/g01404/laws.FnExactStarGround", spec := "fnExactStarGround", plainKeys := false, apart := false }
def FnExactStarGroundSaid : Prop := fnExactStarGroundRow.holds Try.pinned (OpenSpec.ofChange fnExactStarGroundSpec)

/-- ITS FALSE NEIGHBOUR: 'it returns false'. Refute it at one input. -/
def fnExactStarGroundWrong : ChangeSpec := { name := "fnExactStarGround", fn := fun _ => fun
  | [d] => { results := [.lit (.bool false)], args := [d] }
  | _ => none }
def FnExactStarGroundWrongFalsely : Prop := fnExactStarGroundRow.holds Try.pinned (OpenSpec.ofChange fnExactStarGroundWrong)

/-- 'laws.FnExactAreNear': WHATEVER THE INPUT: true; the input reads as it did. -/
def fnExactAreNearSpec : ChangeSpec := { name := "fnExactAreNear", fn := fun _ => fun
  | [d1, d2, d3] => { results := [.lit (.bool true)], args := [d1, d2, d3] }
  | _ => none }
def fnExactAreNearRow : OpenClaim := { program := "ytieobjoijalijaa", sum := "9fd73a0cf0471ead260c1479e1e070c426a2689f4ab743b7c14d9ca0cf791199", func := "loop.example/g01404/laws.FnExactAreNear", spec := "fnExactAreNear", plainKeys := false, apart := false }
def FnExactAreNearSaid : Prop := fnExactAreNearRow.holds Try.pinned (OpenSpec.ofChange fnExactAreNearSpec)

/-- ITS FALSE NEIGHBOUR: 'it returns false'. Refute it at one input. -/
def fnExactAreNearWrong : ChangeSpec := { name := "fnExactAreNear", fn := fun _ => fun
  | [d1, d2, d3] => { results := [.lit (.bool false)], args := [d1, d2, d3] }
  | _ => none }
def FnExactAreNearWrongFalsely : Prop := fnExactAreNearRow.holds Try.pinned (OpenSpec.ofChange fnExactAreNearWrong)

/-- 'laws.FnExactDistancesFrom': WHATEVER THE INPUT: true; the input reads as it did. -/
def fnExactDistancesFromSpec : ChangeSpec := { name := "fnExactDistancesFrom", fn := fun _ => fun
  | [d1, d2] => { results := [.lit (.bool true)], args := [d1, d2] }
  | _ => none }
def fnExactDistancesFromRow : OpenClaim := { program := "ytieobjoijalijaa", sum := "9fd73a0cf0471ead260c1479e1e070c426a2689f4ab743b7c14d9ca0cf791199", func := "loop.example/g01404/laws.FnExactDistancesFrom", spec := "fnExactDistancesFrom", unfollowed := true, recurses := true, plainKeys := false, apart := false }
def FnExactDistancesFromSaid : Prop := fnExactDistancesFromRow.holds Try.pinned (OpenSpec.ofChange fnExactDistancesFromSpec)

/-- ITS FALSE NEIGHBOUR: 'it returns false'. Refute it at one input. -/
def fnExactDistancesFromWrong : ChangeSpec := { name := "fnExactDistancesFrom", fn := fun _ => fun
  | [d1, d2] => { results := [.lit (.bool false)], args := [d1, d2] }
  | _ => none }
def FnExactDistancesFromWrongFalsely : Prop := fnExactDistancesFromRow.holds Try.pinned (OpenSpec.ofChange fnExactDistancesFromWrong)

/-- 'laws.FnExactIsRoute': WHATEVER THE INPUT: true; the input reads as it did. -/
def fnExactIsRouteSpec : ChangeSpec := { name := "fnExactIsRoute", fn := fun _ => fun
  | [d1, d2] => { results := [.lit (.bool true)], args := [d1, d2] }
  | _ => none }
def fnExactIsRouteRow : OpenClaim := { program := "ytieobjoijalijaa", sum := "9fd73a0cf0471ead260c1479e1e070c426a2689f4ab743b7c14d9ca0cf791199", func := "loop.example/g01404/laws.FnExactIsRoute", spec := "fnExactIsRoute", unfollowed := true, recurses := true, plainKeys := false, apart := false }
def FnExactIsRouteSaid : Prop := fnExactIsRouteRow.holds Try.pinned (OpenSpec.ofChange fnExactIsRouteSpec)

/-- ITS FALSE NEIGHBOUR: 'it returns false'. Refute it at one input. -/
def fnExactIsRouteWrong : ChangeSpec := { name := "fnExactIsRoute", fn := fun _ => fun
  | [d1, d2] => { results := [.lit (.bool false)], args := [d1, d2] }
  | _ => none }
def FnExactIsRouteWrongFalsely : Prop := fnExactIsRouteRow.holds Try.pinned (OpenSpec.ofChange fnExactIsRouteWrong)

/-- 'laws.FnExactCountSafe': WHATEVER THE INPUT: true; the input reads as it did. -/
def fnExactCountSafeSpec : ChangeSpec := { name := "fnExactCountSafe", fn := fun _ => fun
  | [d1, d2] => { results := [.lit (.bool true)], args := [d1, d2] }
  | _ => none }
def fnExactCountSafeRow : OpenClaim := { program := "ytieobjoijalijaa", sum := "9fd73a0cf0471ead260c1479e1e070c426a2689f4ab743b7c14d9ca0cf791199", func := "loop.example/g01404/laws.FnExactCountSafe", spec := "fnExactCountSafe", unfollowed := true, recurses := true, plainKeys := false, apart := false }
def FnExactCountSafeSaid : Prop := fnExactCountSafeRow.holds Try.pinned (OpenSpec.ofChange fnExactCountSafeSpec)

/-- ITS FALSE NEIGHBOUR: 'it returns false'. Refute it at one input. -/
def fnExactCountSafeWrong : ChangeSpec := { name := "fnExactCountSafe", fn := fun _ => fun
  | [d1, d2] => { results := [.lit (.bool false)], args := [d1, d2] }
  | _ => none }
def FnExactCountSafeWrongFalsely : Prop := fnExactCountSafeRow.holds Try.pinned (OpenSpec.ofChange fnExactCountSafeWrong)

/-- 'laws.FnExactCanWatch': WHATEVER THE INPUT: true; the input reads as it did. -/
def fnExactCanWatchSpec : ChangeSpec := { name := "fnExactCanWatch", fn := fun _ => fun
  | [d1, d2] => { results := [.lit (.bool true)], args := [d1, d2] }
  | _ => none }
def fnExactCanWatchRow : OpenClaim := { program := "ytieobjoijalijaa", sum := "9fd73a0cf0471ead260c1479e1e070c426a2689f4ab743b7c14d9ca0cf791199", func := "loop.example/g01404/laws.FnExactCanWatch", spec := "fnExactCanWatch", unfollowed := true, recurses := true, plainKeys := false, apart := false }
def FnExactCanWatchSaid : Prop := fnExactCanWatchRow.holds Try.pinned (OpenSpec.ofChange fnExactCanWatchSpec)

/-- ITS FALSE NEIGHBOUR: 'it returns false'. Refute it at one input. -/
def fnExactCanWatchWrong : ChangeSpec := { name := "fnExactCanWatch", fn := fun _ => fun
  | [d1, d2] => { results := [.lit (.bool false)], args := [d1, d2] }
  | _ => none }
def FnExactCanWatchWrongFalsely : Prop := fnExactCanWatchRow.holds Try.pinned (OpenSpec.ofChange fnExactCanWatchWrong)

/-- 'laws.FnExactFirstRoute': WHATEVER THE INPUT: true; the input reads as it did. -/
def fnExactFirstRouteSpec : ChangeSpec := { name := "fnExactFirstRoute", fn := fun _ => fun
  | [d1, d2] => { results := [.lit (.bool true)], args := [d1, d2] }
  | _ => none }
def fnExactFirstRouteRow : OpenClaim := { program := "ytieobjoijalijaa", sum := "9fd73a0cf0471ead260c1479e1e070c426a2689f4ab743b7c14d9ca0cf791199", func := "loop.example/g01404/laws.FnExactFirstRoute", spec := "fnExactFirstRoute", unfollowed := true, recurses := true, plainKeys := false, apart := false }
def FnExactFirstRouteSaid : Prop := fnExactFirstRouteRow.holds Try.pinned (OpenSpec.ofChange fnExactFirstRouteSpec)

/-- ITS FALSE NEIGHBOUR: 'it returns false'. Refute it at one input. -/
def fnExactFirstRouteWrong : ChangeSpec := { name := "fnExactFirstRoute", fn := fun _ => fun
  | [d1, d2] => { results := [.lit (.bool false)], args := [d1, d2] }
  | _ => none }
def FnExactFirstRouteWrongFalsely : Prop := fnExactFirstRouteRow.holds Try.pinned (OpenSpec.ofChange fnExactFirstRouteWrong)

/-- 'laws.FnExactShortestRound': WHATEVER THE INPUT: true; the input reads as it did. -/
def fnExactShortestRoundSpec : ChangeSpec := { name := "fnExactShortestRound", fn := fun _ => fun
  | [d] => { results := [.lit (.bool true)], args := [d] }
  | _ => none }
def fnExactShortestRoundRow : OpenClaim := { program := "ytieobjoijalijaa", sum := "9fd73a0cf0471ead260c1479e1e070c426a2689f4ab743b7c14d9ca0cf791199", func := "loop.example/g01404/laws.FnExactShortestRound", spec := "fnExactShortestRound", unfollowed := true, recurses := true, plainKeys := false, apart := false }
def FnExactShortestRoundSaid : Prop := fnExactShortestRoundRow.holds Try.pinned (OpenSpec.ofChange fnExactShortestRoundSpec)

/-- ITS FALSE NEIGHBOUR: 'it returns false'. Refute it at one input. -/
def fnExactShortestRoundWrong : ChangeSpec := { name := "fnExactShortestRound", fn := fun _ => fun
  | [d] => { results := [.lit (.bool false)], args := [d] }
  | _ => none }
def FnExactShortestRoundWrongFalsely : Prop := fnExactShortestRoundRow.holds Try.pinned (OpenSpec.ofChange fnExactShortestRoundWrong)

/- THE SECOND FORM. 'bulk': how many values and letters a reading holds, each counted each time it is reached (what is shared counts as often as it is met; a slice's spare places count too). A statement '..UptoSaid' is the law's where the arguments, and the package variables that the reading takes, are together of bulk at most 1048576: NARROWER than '..Said'. Prove '..Said' where nothing that the law and all that it calls make is longer than what came in: it says more and counts as full. Else prove '..UptoSaid'. A law counts once. -/
mutual
def uptoBulk {H : Type} : DataW H → Nat
  | .lit (.string bytes) => bytes.length + 1
  | .lit _ => 1
  | .nil => 1
  | .ptr d => uptoBulk d + 1
  | .slice elems spare => uptoBulkAll elems + uptoBulkAll spare + 1
  | .agg parts => uptoBulkAll parts + 1
  | .iface _ d => uptoBulk d + 1
  | .map entries => uptoBulkEntries entries + 1
  | .held _ => 1
def uptoBulkAll {H : Type} : List (DataW H) → Nat
  | [] => 0
  | d :: r => uptoBulk d + uptoBulkAll r
def uptoBulkEntries {H : Type} : List (Lit × DataW H) → Nat
  | [] => 0
  | x :: r => uptoBulkEntry x + uptoBulkEntries r
def uptoBulkEntry {H : Type} : Lit × DataW H → Nat
  | (.string bytes, d) => bytes.length + uptoBulk d + 1
  | (_, d) => uptoBulk d + 1
 end
def uptoSmall : (H : Type) → List (DataW H) → Bool := fun _ ds => decide (uptoBulkAll ds ≤ 1048576)
def OpenSpec.upto (s : _root_.Go.ChangeSpec) : _root_.Go.OpenSpec := { _root_.Go.OpenSpec.ofChange s with cond := some uptoSmall }

/-- 'laws.FnExactFewestSlots', WHERE WHAT IT READS IS OF BULK AT MOST 1048576: true; the input reads as it did. -/
def fnExactFewestSlotsUptoRow : OpenClaim := { program := "ytieobjoijalijaa", sum := "9fd73a0cf0471ead260c1479e1e070c426a2689f4ab743b7c14d9ca0cf791199", func := "loop.example/g01404/laws.FnExactFewestSlots", spec := "fnExactFewestSlots", unfollowed := true, recurses := true, plainKeys := false, apart := false, narrowed := true }
def FnExactFewestSlotsUptoSaid : Prop := fnExactFewestSlotsUptoRow.holds Try.pinned (OpenSpec.upto fnExactFewestSlotsSpec)

/-- 'laws.FnExactAreNatural', WHERE WHAT IT READS IS OF BULK AT MOST 1048576: true; the input reads as it did. -/
def fnExactAreNaturalUptoRow : OpenClaim := { program := "ytieobjoijalijaa", sum := "9fd73a0cf0471ead260c1479e1e070c426a2689f4ab743b7c14d9ca0cf791199", func := "loop.example/g01404/laws.FnExactAreNatural", spec := "fnExactAreNatural", recurses := true, plainKeys := false, apart := false, narrowed := true }
def FnExactAreNaturalUptoSaid : Prop := fnExactAreNaturalUptoRow.holds Try.pinned (OpenSpec.upto fnExactAreNaturalSpec)

/-- 'laws.FnExactLeastPlayOn', WHERE WHAT IT READS IS OF BULK AT MOST 1048576: true; the input reads as it did. -/
def fnExactLeastPlayOnUptoRow : OpenClaim := { program := "ytieobjoijalijaa", sum := "9fd73a0cf0471ead260c1479e1e070c426a2689f4ab743b7c14d9ca0cf791199", func := "loop.example/g01404/laws.FnExactLeastPlayOn", spec := "fnExactLeastPlayOn", unfollowed := true, recurses := true, plainKeys := false, apart := false, narrowed := true }
def FnExactLeastPlayOnUptoSaid : Prop := fnExactLeastPlayOnUptoRow.holds Try.pinned (OpenSpec.upto fnExactLeastPlayOnSpec)

/-- 'laws.FnExactPutSets', WHERE WHAT IT READS IS OF BULK AT MOST 1048576: true; the input reads as it did. -/
def fnExactPutSetsUptoRow : OpenClaim := { program := "ytieobjoijalijaa", sum := "9fd73a0cf0471ead260c1479e1e070c426a2689f4ab743b7c14d9ca0cf791199", func := "loop.example/g01404/laws.FnExactPutSets", spec := "fnExactPutSets", unfollowed := true, recurses := true, plainKeys := false, apart := false, narrowed := true }
def FnExactPutSetsUptoSaid : Prop := fnExactPutSetsUptoRow.holds Try.pinned (OpenSpec.upto fnExactPutSetsSpec)

/-- 'laws.FnExactIsGround', WHERE WHAT IT READS IS OF BULK AT MOST 1048576: true; the input reads as it did. -/
def fnExactIsGroundUptoRow : OpenClaim := { program := "ytieobjoijalijaa", sum := "9fd73a0cf0471ead260c1479e1e070c426a2689f4ab743b7c14d9ca0cf791199", func := "loop.example/g01404/laws.FnExactIsGround", spec := "fnExactIsGround", plainKeys := false, apart := false, narrowed := true }
def FnExactIsGroundUptoSaid : Prop := fnExactIsGroundUptoRow.holds Try.pinned (OpenSpec.upto fnExactIsGroundSpec)

/-- 'laws.FnExactLineGround', WHERE WHAT IT READS IS OF BULK AT MOST 1048576: true; the input reads as it did. -/
def fnExactLineGroundUptoRow : OpenClaim := { program := "ytieobjoijalijaa", sum := "9fd73a0cf0471ead260c1479e1e070c426a2689f4ab743b7c14d9ca0cf791199", func := "loop.example/g01404/laws.FnExactLineGround", spec := "fnExactLineGround", plainKeys := false, apart := false, narrowed := true }
def FnExactLineGroundUptoSaid : Prop := fnExactLineGroundUptoRow.holds Try.pinned (OpenSpec.upto fnExactLineGroundSpec)

/-- 'laws.FnExactRingGround', WHERE WHAT IT READS IS OF BULK AT MOST 1048576: true; the input reads as it did. -/
def fnExactRingGroundUptoRow : OpenClaim := { program := "ytieobjoijalijaa", sum := "9fd73a0cf0471ead260c1479e1e070c426a2689f4ab743b7c14d9ca0cf791199", func := "loop.example/g01404/laws.FnExactRingGround", spec := "fnExactRingGround", plainKeys := false, apart := false, narrowed := true }
def FnExactRingGroundUptoSaid : Prop := fnExactRingGroundUptoRow.holds Try.pinned (OpenSpec.upto fnExactRingGroundSpec)

/-- 'laws.FnExactStarGround', WHERE WHAT IT READS IS OF BULK AT MOST 1048576: true; the input reads as it did. -/
def fnExactStarGroundUptoRow : OpenClaim := { program := "ytieobjoijalijaa", sum := "9fd73a0cf0471ead260c1479e1e070c426a2689f4ab743b7c14d9ca0cf791199", func := "loop.example/g01404/laws.FnExactStarGround", spec := "fnExactStarGround", plainKeys := false, apart := false, narrowed := true }
def FnExactStarGroundUptoSaid : Prop := fnExactStarGroundUptoRow.holds Try.pinned (OpenSpec.upto fnExactStarGroundSpec)

/-- 'laws.FnExactAreNear', WHERE WHAT IT READS IS OF BULK AT MOST 1048576: true; the input reads as it did. -/
def fnExactAreNearUptoRow : OpenClaim := { program := "ytieobjoijalijaa", sum := "9fd73a0cf0471ead260c1479e1e070c426a2689f4ab743b7c14d9ca0cf791199", func := "loop.example/g01404/laws.FnExactAreNear", spec := "fnExactAreNear", plainKeys := false, apart := false, narrowed := true }
def FnExactAreNearUptoSaid : Prop := fnExactAreNearUptoRow.holds Try.pinned (OpenSpec.upto fnExactAreNearSpec)

/-- 'laws.FnExactDistancesFrom', WHERE WHAT IT READS IS OF BULK AT MOST 1048576: true; the input reads as it did. -/
def fnExactDistancesFromUptoRow : OpenClaim := { program := "ytieobjoijalijaa", sum := "9fd73a0cf0471ead260c1479e1e070c426a2689f4ab743b7c14d9ca0cf791199", func := "loop.example/g01404/laws.FnExactDistancesFrom", spec := "fnExactDistancesFrom", unfollowed := true, recurses := true, plainKeys := false, apart := false, narrowed := true }
def FnExactDistancesFromUptoSaid : Prop := fnExactDistancesFromUptoRow.holds Try.pinned (OpenSpec.upto fnExactDistancesFromSpec)

/-- 'laws.FnExactIsRoute', WHERE WHAT IT READS IS OF BULK AT MOST 1048576: true; the input reads as it did. -/
def fnExactIsRouteUptoRow : OpenClaim := { program := "ytieobjoijalijaa", sum := "9fd73a0cf0471ead260c1479e1e070c426a2689f4ab743b7c14d9ca0cf791199", func := "loop.example/g01404/laws.FnExactIsRoute", spec := "fnExactIsRoute", unfollowed := true, recurses := true, plainKeys := false, apart := false, narrowed := true }
def FnExactIsRouteUptoSaid : Prop := fnExactIsRouteUptoRow.holds Try.pinned (OpenSpec.upto fnExactIsRouteSpec)

/-- 'laws.FnExactCountSafe', WHERE WHAT IT READS IS OF BULK AT MOST 1048576: true; the input reads as it did. -/
def fnExactCountSafeUptoRow : OpenClaim := { program := "ytieobjoijalijaa", sum := "9fd73a0cf0471ead260c1479e1e070c426a2689f4ab743b7c14d9ca0cf791199", func := "loop.example/g01404/laws.FnExactCountSafe", spec := "fnExactCountSafe", unfollowed := true, recurses := true, plainKeys := false, apart := false, narrowed := true }
def FnExactCountSafeUptoSaid : Prop := fnExactCountSafeUptoRow.holds Try.pinned (OpenSpec.upto fnExactCountSafeSpec)

/-- 'laws.FnExactCanWatch', WHERE WHAT IT READS IS OF BULK AT MOST 1048576: true; the input reads as it did. -/
def fnExactCanWatchUptoRow : OpenClaim := { program := "ytieobjoijalijaa", sum := "9fd73a0cf0471ead260c1479e1e070c426a2689f4ab743b7c14d9ca0cf791199", func := "loop.example/g01404/laws.FnExactCanWatch", spec := "fnExactCanWatch", unfollowed := true, recurses := true, plainKeys := false, apart := false, narrowed := true }
def FnExactCanWatchUptoSaid : Prop := fnExactCanWatchUptoRow.holds Try.pinned (OpenSpec.upto fnExactCanWatchSpec)

/-- 'laws.FnExactFirstRoute', WHERE WHAT IT READS IS OF BULK AT MOST 1048576: true; the input reads as it did. -/
def fnExactFirstRouteUptoRow : OpenClaim := { program := "ytieobjoijalijaa", sum := "9fd73a0cf0471ead260c1479e1e070c426a2689f4ab743b7c14d9ca0cf791199", func := "loop.example/g01404/laws.FnExactFirstRoute", spec := "fnExactFirstRoute", unfollowed := true, recurses := true, plainKeys := false, apart := false, narrowed := true }
def FnExactFirstRouteUptoSaid : Prop := fnExactFirstRouteUptoRow.holds Try.pinned (OpenSpec.upto fnExactFirstRouteSpec)

/-- 'laws.FnExactShortestRound', WHERE WHAT IT READS IS OF BULK AT MOST 1048576: true; the input reads as it did. -/
def fnExactShortestRoundUptoRow : OpenClaim := { program := "ytieobjoijalijaa", sum := "9fd73a0cf0471ead260c1479e1e070c426a2689f4ab743b7c14d9ca0cf791199", func := "loop.example/g01404/laws.FnExactShortestRound", spec := "fnExactShortestRound", unfollowed := true, recurses := true, plainKeys := false, apart := false, narrowed := true }
def FnExactShortestRoundUptoSaid : Prop := fnExactShortestRoundUptoRow.holds Try.pinned (OpenSpec.upto fnExactShortestRoundSpec)

end Rows
end Go.Proofs.Ytieobjoijalijaa
