/-
  No cell of these rows narrows 'for every input' (looked for: loops, veiled, ifaces, maps, wideKeys, modest, calm, conditions, laid).
  DERIVED. THE GIVEN ROWS OF THIS SEAT. 15 by the template 'for every input the law returns true; each argument reads behind the call as it read before'; 0 by the template 'total and deterministic' (their statements: YtogpkaeodgokgaaTotals.lean).
  GIVEN WITH THE SEED: the statements are not yours to turn. If you find one false, say at which input.
  Laid BY PROGRAM, IN A SANDBOX (cutbox-rows.mjs): the forced cells as the released guide's own fill.sh prints them over the translation 0d7190ece1ab44cf… (all of the seat's roots in one cut). By AI agents, Wed Nov 11 2026. No macro, syntax, notation, axiom, sorry.
-/
import Derived.Test.YtogpkaeodgokgaaChecked
import GoSem.Claim
import GoSem.ClaimJoined
import GoSem.ClaimMapViews
import Derived.JoinedTies
import Derived.KernelRfl
namespace Go.Proofs.Ytogpkaeodgokgaa
/- THE CELL 'sum', in the pinned program and in every row, IS THE sha256 OF THE DUMP (.gsa) THAT YtogpkaeodgokgaaProg.lean LOADS. Nothing in Lean hashes anything: it is a label: what it is worth is what the hold of that sum in a sandbox is worth. -/
noncomputable def Try.pinned : Pinned := { name := "ytogpkaeodgokgaa", sum := "0d7190ece1ab44cf52a0b44b8dae1d732c8b2abeb4204d7a464f7cd0797b4759", checked := Try.checked }
namespace Rows
def none {H : Type} : Left H := { results := [], args := [] }

/-- 'laws.FnExactFirstRests': WHATEVER THE INPUT: true; the input reads as it did. -/
def fnExactFirstRestsSpec : ChangeSpec := { name := "fnExactFirstRests", fn := fun _ => fun
  | [d] => { results := [.lit (.bool true)], args := [d] }
  | _ => none }
def fnExactFirstRestsRow : OpenClaim := { program := "ytogpkaeodgokgaa", sum := "0d7190ece1ab44cf52a0b44b8dae1d732c8b2abeb4204d7a464f7cd0797b4759", func := "loop.example/g01404/laws.FnExactFirstRests", spec := "fnExactFirstRests", unfollowed := true, recurses := true, plainKeys := false, apart := false }
def FnExactFirstRestsSaid : Prop := fnExactFirstRestsRow.holds Try.pinned (OpenSpec.ofChange fnExactFirstRestsSpec)

/-- ITS FALSE NEIGHBOUR: 'it returns false'. Refute it at one input. -/
def fnExactFirstRestsWrong : ChangeSpec := { name := "fnExactFirstRests", fn := fun _ => fun
  | [d] => { results := [.lit (.bool false)], args := [d] }
  | _ => none }
def FnExactFirstRestsWrongFalsely : Prop := fnExactFirstRestsRow.holds Try.pinned (OpenSpec.ofChange fnExactFirstRestsWrong)

/-- 'laws.FnExactCountRests': WHATEVER THE INPUT: true; the input reads as it did. -/
def fnExactCountRestsSpec : ChangeSpec := { name := "fnExactCountRests", fn := fun _ => fun
  | [d] => { results := [.lit (.bool true)], args := [d] }
  | _ => none }
def fnExactCountRestsRow : OpenClaim := { program := "ytogpkaeodgokgaa", sum := "0d7190ece1ab44cf52a0b44b8dae1d732c8b2abeb4204d7a464f7cd0797b4759", func := "loop.example/g01404/laws.FnExactCountRests", spec := "fnExactCountRests", unfollowed := true, recurses := true, plainKeys := false, apart := false }
def FnExactCountRestsSaid : Prop := fnExactCountRestsRow.holds Try.pinned (OpenSpec.ofChange fnExactCountRestsSpec)

/-- ITS FALSE NEIGHBOUR: 'it returns false'. Refute it at one input. -/
def fnExactCountRestsWrong : ChangeSpec := { name := "fnExactCountRests", fn := fun _ => fun
  | [d] => { results := [.lit (.bool false)], args := [d] }
  | _ => none }
def FnExactCountRestsWrongFalsely : Prop := fnExactCountRestsRow.holds Try.pinned (OpenSpec.ofChange fnExactCountRestsWrong)

/-- 'laws.FnExactAreNatural': WHATEVER THE INPUT: true; the input reads as it did. -/
def fnExactAreNaturalSpec : ChangeSpec := { name := "fnExactAreNatural", fn := fun _ => fun
  | [d] => { results := [.lit (.bool true)], args := [d] }
  | _ => none }
def fnExactAreNaturalRow : OpenClaim := { program := "ytogpkaeodgokgaa", sum := "0d7190ece1ab44cf52a0b44b8dae1d732c8b2abeb4204d7a464f7cd0797b4759", func := "loop.example/g01404/laws.FnExactAreNatural", spec := "fnExactAreNatural", recurses := true, plainKeys := false, apart := false }
def FnExactAreNaturalSaid : Prop := fnExactAreNaturalRow.holds Try.pinned (OpenSpec.ofChange fnExactAreNaturalSpec)

/-- ITS FALSE NEIGHBOUR: 'it returns false'. Refute it at one input. -/
def fnExactAreNaturalWrong : ChangeSpec := { name := "fnExactAreNatural", fn := fun _ => fun
  | [d] => { results := [.lit (.bool false)], args := [d] }
  | _ => none }
def FnExactAreNaturalWrongFalsely : Prop := fnExactAreNaturalRow.holds Try.pinned (OpenSpec.ofChange fnExactAreNaturalWrong)

/-- 'laws.FnExactIsGarden': WHATEVER THE INPUT: true; the input reads as it did. -/
def fnExactIsGardenSpec : ChangeSpec := { name := "fnExactIsGarden", fn := fun _ => fun
  | [d] => { results := [.lit (.bool true)], args := [d] }
  | _ => none }
def fnExactIsGardenRow : OpenClaim := { program := "ytogpkaeodgokgaa", sum := "0d7190ece1ab44cf52a0b44b8dae1d732c8b2abeb4204d7a464f7cd0797b4759", func := "loop.example/g01404/laws.FnExactIsGarden", spec := "fnExactIsGarden", unfollowed := true, recurses := true, plainKeys := false, apart := false }
def FnExactIsGardenSaid : Prop := fnExactIsGardenRow.holds Try.pinned (OpenSpec.ofChange fnExactIsGardenSpec)

/-- ITS FALSE NEIGHBOUR: 'it returns false'. Refute it at one input. -/
def fnExactIsGardenWrong : ChangeSpec := { name := "fnExactIsGarden", fn := fun _ => fun
  | [d] => { results := [.lit (.bool false)], args := [d] }
  | _ => none }
def FnExactIsGardenWrongFalsely : Prop := fnExactIsGardenRow.holds Try.pinned (OpenSpec.ofChange fnExactIsGardenWrong)

/-- 'laws.FnExactGrowDays': WHATEVER THE INPUT: true; the input reads as it did. -/
def fnExactGrowDaysSpec : ChangeSpec := { name := "fnExactGrowDays", fn := fun _ => fun
  | [d1, d2, d3] => { results := [.lit (.bool true)], args := [d1, d2, d3] }
  | _ => none }
def fnExactGrowDaysRow : OpenClaim := { program := "ytogpkaeodgokgaa", sum := "0d7190ece1ab44cf52a0b44b8dae1d732c8b2abeb4204d7a464f7cd0797b4759", func := "loop.example/g01404/laws.FnExactGrowDays", spec := "fnExactGrowDays", unfollowed := true, recurses := true, plainKeys := false, apart := false }
def FnExactGrowDaysSaid : Prop := fnExactGrowDaysRow.holds Try.pinned (OpenSpec.ofChange fnExactGrowDaysSpec)

/-- ITS FALSE NEIGHBOUR: 'it returns false'. Refute it at one input. -/
def fnExactGrowDaysWrong : ChangeSpec := { name := "fnExactGrowDays", fn := fun _ => fun
  | [d1, d2, d3] => { results := [.lit (.bool false)], args := [d1, d2, d3] }
  | _ => none }
def FnExactGrowDaysWrongFalsely : Prop := fnExactGrowDaysRow.holds Try.pinned (OpenSpec.ofChange fnExactGrowDaysWrong)

/-- 'laws.FnExactCutByHeight': WHATEVER THE INPUT: true; the input reads as it did. -/
def fnExactCutByHeightSpec : ChangeSpec := { name := "fnExactCutByHeight", fn := fun _ => fun
  | [d1, d2] => { results := [.lit (.bool true)], args := [d1, d2] }
  | _ => none }
def fnExactCutByHeightRow : OpenClaim := { program := "ytogpkaeodgokgaa", sum := "0d7190ece1ab44cf52a0b44b8dae1d732c8b2abeb4204d7a464f7cd0797b4759", func := "loop.example/g01404/laws.FnExactCutByHeight", spec := "fnExactCutByHeight", unfollowed := true, recurses := true, plainKeys := false, apart := false }
def FnExactCutByHeightSaid : Prop := fnExactCutByHeightRow.holds Try.pinned (OpenSpec.ofChange fnExactCutByHeightSpec)

/-- ITS FALSE NEIGHBOUR: 'it returns false'. Refute it at one input. -/
def fnExactCutByHeightWrong : ChangeSpec := { name := "fnExactCutByHeight", fn := fun _ => fun
  | [d1, d2] => { results := [.lit (.bool false)], args := [d1, d2] }
  | _ => none }
def FnExactCutByHeightWrongFalsely : Prop := fnExactCutByHeightRow.holds Try.pinned (OpenSpec.ofChange fnExactCutByHeightWrong)

/-- 'laws.FnExactCutBySpeed': WHATEVER THE INPUT: true; the input reads as it did. -/
def fnExactCutBySpeedSpec : ChangeSpec := { name := "fnExactCutBySpeed", fn := fun _ => fun
  | [d1, d2, d3] => { results := [.lit (.bool true)], args := [d1, d2, d3] }
  | _ => none }
def fnExactCutBySpeedRow : OpenClaim := { program := "ytogpkaeodgokgaa", sum := "0d7190ece1ab44cf52a0b44b8dae1d732c8b2abeb4204d7a464f7cd0797b4759", func := "loop.example/g01404/laws.FnExactCutBySpeed", spec := "fnExactCutBySpeed", unfollowed := true, recurses := true, plainKeys := false, apart := false }
def FnExactCutBySpeedSaid : Prop := fnExactCutBySpeedRow.holds Try.pinned (OpenSpec.ofChange fnExactCutBySpeedSpec)

/-- ITS FALSE NEIGHBOUR: 'it returns false'. Refute it at one input. -/
def fnExactCutBySpeedWrong : ChangeSpec := { name := "fnExactCutBySpeed", fn := fun _ => fun
  | [d1, d2, d3] => { results := [.lit (.bool false)], args := [d1, d2, d3] }
  | _ => none }
def FnExactCutBySpeedWrongFalsely : Prop := fnExactCutBySpeedRow.holds Try.pinned (OpenSpec.ofChange fnExactCutBySpeedWrong)

/-- 'laws.FnExactHeightsBehind': WHATEVER THE INPUT: true; the input reads as it did. -/
def fnExactHeightsBehindSpec : ChangeSpec := { name := "fnExactHeightsBehind", fn := fun _ => fun
  | [d1, d2, d3] => { results := [.lit (.bool true)], args := [d1, d2, d3] }
  | _ => none }
def fnExactHeightsBehindRow : OpenClaim := { program := "ytogpkaeodgokgaa", sum := "0d7190ece1ab44cf52a0b44b8dae1d732c8b2abeb4204d7a464f7cd0797b4759", func := "loop.example/g01404/laws.FnExactHeightsBehind", spec := "fnExactHeightsBehind", unfollowed := true, recurses := true, plainKeys := false, apart := false }
def FnExactHeightsBehindSaid : Prop := fnExactHeightsBehindRow.holds Try.pinned (OpenSpec.ofChange fnExactHeightsBehindSpec)

/-- ITS FALSE NEIGHBOUR: 'it returns false'. Refute it at one input. -/
def fnExactHeightsBehindWrong : ChangeSpec := { name := "fnExactHeightsBehind", fn := fun _ => fun
  | [d1, d2, d3] => { results := [.lit (.bool false)], args := [d1, d2, d3] }
  | _ => none }
def FnExactHeightsBehindWrongFalsely : Prop := fnExactHeightsBehindRow.holds Try.pinned (OpenSpec.ofChange fnExactHeightsBehindWrong)

/-- 'laws.FnExactTowerOf': WHATEVER THE INPUT: true; the input reads as it did. -/
def fnExactTowerOfSpec : ChangeSpec := { name := "fnExactTowerOf", fn := fun _ => fun
  | [d1, d2] => { results := [.lit (.bool true)], args := [d1, d2] }
  | _ => none }
def fnExactTowerOfRow : OpenClaim := { program := "ytogpkaeodgokgaa", sum := "0d7190ece1ab44cf52a0b44b8dae1d732c8b2abeb4204d7a464f7cd0797b4759", func := "loop.example/g01404/laws.FnExactTowerOf", spec := "fnExactTowerOf", unfollowed := true, recurses := true, plainKeys := false, apart := false }
def FnExactTowerOfSaid : Prop := fnExactTowerOfRow.holds Try.pinned (OpenSpec.ofChange fnExactTowerOfSpec)

/-- ITS FALSE NEIGHBOUR: 'it returns false'. Refute it at one input. -/
def fnExactTowerOfWrong : ChangeSpec := { name := "fnExactTowerOf", fn := fun _ => fun
  | [d1, d2] => { results := [.lit (.bool false)], args := [d1, d2] }
  | _ => none }
def FnExactTowerOfWrongFalsely : Prop := fnExactTowerOfRow.holds Try.pinned (OpenSpec.ofChange fnExactTowerOfWrong)

/-- 'laws.FnExactTurnsByHeight': WHATEVER THE INPUT: true; the input reads as it did. -/
def fnExactTurnsByHeightSpec : ChangeSpec := { name := "fnExactTurnsByHeight", fn := fun _ => fun
  | [d] => { results := [.lit (.bool true)], args := [d] }
  | _ => none }
def fnExactTurnsByHeightRow : OpenClaim := { program := "ytogpkaeodgokgaa", sum := "0d7190ece1ab44cf52a0b44b8dae1d732c8b2abeb4204d7a464f7cd0797b4759", func := "loop.example/g01404/laws.FnExactTurnsByHeight", spec := "fnExactTurnsByHeight", unfollowed := true, recurses := true, plainKeys := false, apart := false }
def FnExactTurnsByHeightSaid : Prop := fnExactTurnsByHeightRow.holds Try.pinned (OpenSpec.ofChange fnExactTurnsByHeightSpec)

/-- ITS FALSE NEIGHBOUR: 'it returns false'. Refute it at one input. -/
def fnExactTurnsByHeightWrong : ChangeSpec := { name := "fnExactTurnsByHeight", fn := fun _ => fun
  | [d] => { results := [.lit (.bool false)], args := [d] }
  | _ => none }
def FnExactTurnsByHeightWrongFalsely : Prop := fnExactTurnsByHeightRow.holds Try.pinned (OpenSpec.ofChange fnExactTurnsByHeightWrong)

/-- 'laws.FnExactTurnsBySpeed': WHATEVER THE INPUT: true; the input reads as it did. -/
def fnExactTurnsBySpeedSpec : ChangeSpec := { name := "fnExactTurnsBySpeed", fn := fun _ => fun
  | [d1, d2] => { results := [.lit (.bool true)], args := [d1, d2] }
  | _ => none }
def fnExactTurnsBySpeedRow : OpenClaim := { program := "ytogpkaeodgokgaa", sum := "0d7190ece1ab44cf52a0b44b8dae1d732c8b2abeb4204d7a464f7cd0797b4759", func := "loop.example/g01404/laws.FnExactTurnsBySpeed", spec := "fnExactTurnsBySpeed", unfollowed := true, recurses := true, plainKeys := false, apart := false }
def FnExactTurnsBySpeedSaid : Prop := fnExactTurnsBySpeedRow.holds Try.pinned (OpenSpec.ofChange fnExactTurnsBySpeedSpec)

/-- ITS FALSE NEIGHBOUR: 'it returns false'. Refute it at one input. -/
def fnExactTurnsBySpeedWrong : ChangeSpec := { name := "fnExactTurnsBySpeed", fn := fun _ => fun
  | [d1, d2] => { results := [.lit (.bool false)], args := [d1, d2] }
  | _ => none }
def FnExactTurnsBySpeedWrongFalsely : Prop := fnExactTurnsBySpeedRow.holds Try.pinned (OpenSpec.ofChange fnExactTurnsBySpeedWrong)

/-- 'laws.FnExactHighestByHeight': WHATEVER THE INPUT: true; the input reads as it did. -/
def fnExactHighestByHeightSpec : ChangeSpec := { name := "fnExactHighestByHeight", fn := fun _ => fun
  | [d1, d2] => { results := [.lit (.bool true)], args := [d1, d2] }
  | _ => none }
def fnExactHighestByHeightRow : OpenClaim := { program := "ytogpkaeodgokgaa", sum := "0d7190ece1ab44cf52a0b44b8dae1d732c8b2abeb4204d7a464f7cd0797b4759", func := "loop.example/g01404/laws.FnExactHighestByHeight", spec := "fnExactHighestByHeight", unfollowed := true, recurses := true, plainKeys := false, apart := false }
def FnExactHighestByHeightSaid : Prop := fnExactHighestByHeightRow.holds Try.pinned (OpenSpec.ofChange fnExactHighestByHeightSpec)

/-- ITS FALSE NEIGHBOUR: 'it returns false'. Refute it at one input. -/
def fnExactHighestByHeightWrong : ChangeSpec := { name := "fnExactHighestByHeight", fn := fun _ => fun
  | [d1, d2] => { results := [.lit (.bool false)], args := [d1, d2] }
  | _ => none }
def FnExactHighestByHeightWrongFalsely : Prop := fnExactHighestByHeightRow.holds Try.pinned (OpenSpec.ofChange fnExactHighestByHeightWrong)

/-- 'laws.FnExactSumOfRates': WHATEVER THE INPUT: true; the input reads as it did. -/
def fnExactSumOfRatesSpec : ChangeSpec := { name := "fnExactSumOfRates", fn := fun _ => fun
  | [d] => { results := [.lit (.bool true)], args := [d] }
  | _ => none }
def fnExactSumOfRatesRow : OpenClaim := { program := "ytogpkaeodgokgaa", sum := "0d7190ece1ab44cf52a0b44b8dae1d732c8b2abeb4204d7a464f7cd0797b4759", func := "loop.example/g01404/laws.FnExactSumOfRates", spec := "fnExactSumOfRates", unfollowed := true, recurses := true, plainKeys := false, apart := false }
def FnExactSumOfRatesSaid : Prop := fnExactSumOfRatesRow.holds Try.pinned (OpenSpec.ofChange fnExactSumOfRatesSpec)

/-- ITS FALSE NEIGHBOUR: 'it returns false'. Refute it at one input. -/
def fnExactSumOfRatesWrong : ChangeSpec := { name := "fnExactSumOfRates", fn := fun _ => fun
  | [d] => { results := [.lit (.bool false)], args := [d] }
  | _ => none }
def FnExactSumOfRatesWrongFalsely : Prop := fnExactSumOfRatesRow.holds Try.pinned (OpenSpec.ofChange fnExactSumOfRatesWrong)

/-- 'laws.FnExactTasksOfGarden': WHATEVER THE INPUT: true; the input reads as it did. -/
def fnExactTasksOfGardenSpec : ChangeSpec := { name := "fnExactTasksOfGarden", fn := fun _ => fun
  | [d1, d2] => { results := [.lit (.bool true)], args := [d1, d2] }
  | _ => none }
def fnExactTasksOfGardenRow : OpenClaim := { program := "ytogpkaeodgokgaa", sum := "0d7190ece1ab44cf52a0b44b8dae1d732c8b2abeb4204d7a464f7cd0797b4759", func := "loop.example/g01404/laws.FnExactTasksOfGarden", spec := "fnExactTasksOfGarden", unfollowed := true, recurses := true, plainKeys := false, apart := false }
def FnExactTasksOfGardenSaid : Prop := fnExactTasksOfGardenRow.holds Try.pinned (OpenSpec.ofChange fnExactTasksOfGardenSpec)

/-- ITS FALSE NEIGHBOUR: 'it returns false'. Refute it at one input. -/
def fnExactTasksOfGardenWrong : ChangeSpec := { name := "fnExactTasksOfGarden", fn := fun _ => fun
  | [d1, d2] => { results := [.lit (.bool false)], args := [d1, d2] }
  | _ => none }
def FnExactTasksOfGardenWrongFalsely : Prop := fnExactTasksOfGardenRow.holds Try.pinned (OpenSpec.ofChange fnExactTasksOfGardenWrong)

/-- 'laws.FnExactLeastTower': WHATEVER THE INPUT: true; the input reads as it did. -/
def fnExactLeastTowerSpec : ChangeSpec := { name := "fnExactLeastTower", fn := fun _ => fun
  | [d] => { results := [.lit (.bool true)], args := [d] }
  | _ => none }
def fnExactLeastTowerRow : OpenClaim := { program := "ytogpkaeodgokgaa", sum := "0d7190ece1ab44cf52a0b44b8dae1d732c8b2abeb4204d7a464f7cd0797b4759", func := "loop.example/g01404/laws.FnExactLeastTower", spec := "fnExactLeastTower", unfollowed := true, recurses := true, plainKeys := false, apart := false }
def FnExactLeastTowerSaid : Prop := fnExactLeastTowerRow.holds Try.pinned (OpenSpec.ofChange fnExactLeastTowerSpec)

/-- ITS FALSE NEIGHBOUR: 'it returns false'. Refute it at one input. -/
def fnExactLeastTowerWrong : ChangeSpec := { name := "fnExactLeastTower", fn := fun _ => fun
  | [d] => { results := [.lit (.bool false)], args := [d] }
  | _ => none }
def FnExactLeastTowerWrongFalsely : Prop := fnExactLeastTowerRow.holds Try.pinned (OpenSpec.ofChange fnExactLeastTowerWrong)

/- THE SECOND FORM. 'bulk': how many values and letters a reading holds, each counted each time it is reached (what is shared counts as often as it is met; a slice's spare places count too). A statement '..UptoSaid' is the law's where the arguments, and the package variables that the reading takes, are together of bulk at most 1048576: NARROWER than '..Said'. Prove '..Said' where nothing that the law and all that it calls make is longer than what came in: it says more and counts as full. Else prove '..UptoSaid'. A law counts once. -/
mutual
def uptoBulk {H : Type} : DataW H → Nat
  | .lit (.string bytes) => bytes.length + 1
  | .lit _ => 1
  | .nil => 1
  | .ptr d => uptoBulk d + 1
  | .slice elems spare => uptoBulkAll elems + uptoBulkAll spare + 1
  | .agg parts => uptoBulkAll parts + 1
  | .iface _ d => uptoBulk d + 1
  | .map entries => uptoBulkEntries entries + 1
  | .held _ => 1
def uptoBulkAll {H : Type} : List (DataW H) → Nat
  | [] => 0
  | d :: r => uptoBulk d + uptoBulkAll r
def uptoBulkEntries {H : Type} : List (Lit × DataW H) → Nat
  | [] => 0
  | x :: r => uptoBulkEntry x + uptoBulkEntries r
def uptoBulkEntry {H : Type} : Lit × DataW H → Nat
  | (.string bytes, d) => bytes.length + uptoBulk d + 1
  | (_, d) => uptoBulk d + 1
 end
def uptoSmall : (H : Type) → List (DataW H) → Bool := fun _ ds => decide (uptoBulkAll ds ≤ 1048576)
def OpenSpec.upto (s : _root_.Go.ChangeSpec) : _root_.Go.OpenSpec := { _root_.Go.OpenSpec.ofChange s with cond := some uptoSmall }

/-- 'laws.FnExactFirstRests', WHERE WHAT IT READS IS OF BULK AT MOST 1048576: true; the input reads as it did. -/
def fnExactFirstRestsUptoRow : OpenClaim := { program := "ytogpkaeodgokgaa", sum := "0d7190ece1ab44cf52a0b44b8dae1d732c8b2abeb4204d7a464f7cd0797b4759", func := "loop.example/g01404/laws.FnExactFirstRests", spec := "fnExactFirstRests", unfollowed := true, recurses := true, plainKeys := false, apart := false, narrowed := true }
def FnExactFirstRestsUptoSaid : Prop := fnExactFirstRestsUptoRow.holds Try.pinned (OpenSpec.upto fnExactFirstRestsSpec)

/-- 'laws.FnExactCountRests', WHERE WHAT IT READS IS OF BULK AT MOST 1048576: true; the input reads as it did. -/
def fnExactCountRestsUptoRow : OpenClaim := { program := "ytogpkaeodgokgaa", sum := "0d7190ece1ab44cf52a0b44b8dae1d732c8b2abeb4204d7a464f7cd0797b4759", func := "loop.example/g01404/laws.FnExactCountRests", spec := "fnExactCountRests", unfollowed := true, recurses := true, plainKeys := false, apart := false, narrowed := true }
def FnExactCountRestsUptoSaid : Prop := fnExactCountRestsUptoRow.holds Try.pinned (OpenSpec.upto fnExactCountRestsSpec)

/-- 'laws.FnExactAreNatural', WHERE WHAT IT READS IS OF BULK AT MOST 1048576: true; the input reads as it did. -/
def fnExactAreNaturalUptoRow : OpenClaim := { program := "ytogpkaeodgokgaa", sum := "0d7190ece1ab44cf52a0b44b8dae1d732c8b2abeb4204d7a464f7cd0797b4759", func := "loop.example/g01404/laws.FnExactAreNatural", spec := "fnExactAreNatural", recurses := true, plainKeys := false, apart := false, narrowed := true }
def FnExactAreNaturalUptoSaid : Prop := fnExactAreNaturalUptoRow.holds Try.pinned (OpenSpec.upto fnExactAreNaturalSpec)

/-- 'laws.FnExactIsGarden', WHERE WHAT IT READS IS OF BULK AT MOST 1048576: true; the input reads as it did. -/
def fnExactIsGardenUptoRow : OpenClaim := { program := "ytogpkaeodgokgaa", sum := "0d7190ece1ab44cf52a0b44b8dae1d732c8b2abeb4204d7a464f7cd0797b4759", func := "loop.example/g01404/laws.FnExactIsGarden", spec := "fnExactIsGarden", unfollowed := true, recurses := true, plainKeys := false, apart := false, narrowed := true }
def FnExactIsGardenUptoSaid : Prop := fnExactIsGardenUptoRow.holds Try.pinned (OpenSpec.upto fnExactIsGardenSpec)

/-- 'laws.FnExactGrowDays', WHERE WHAT IT READS IS OF BULK AT MOST 1048576: true; the input reads as it did. -/
def fnExactGrowDaysUptoRow : OpenClaim := { program := "ytogpkaeodgokgaa", sum := "0d7190ece1ab44cf52a0b44b8dae1d732c8b2abeb4204d7a464f7cd0797b4759", func := "loop.example/g01404/laws.FnExactGrowDays", spec := "fnExactGrowDays", unfollowed := true, recurses := true, plainKeys := false, apart := false, narrowed := true }
def FnExactGrowDaysUptoSaid : Prop := fnExactGrowDaysUptoRow.holds Try.pinned (OpenSpec.upto fnExactGrowDaysSpec)

/-- 'laws.FnExactCutByHeight', WHERE WHAT IT READS IS OF BULK AT MOST 1048576: true; the input reads as it did. -/
def fnExactCutByHeightUptoRow : OpenClaim := { program := "ytogpkaeodgokgaa", sum := "0d7190ece1ab44cf52a0b44b8dae1d732c8b2abeb4204d7a464f7cd0797b4759", func := "loop.example/g01404/laws.FnExactCutByHeight", spec := "fnExactCutByHeight", unfollowed := true, recurses := true, plainKeys := false, apart := false, narrowed := true }
def FnExactCutByHeightUptoSaid : Prop := fnExactCutByHeightUptoRow.holds Try.pinned (OpenSpec.upto fnExactCutByHeightSpec)

/-- 'laws.FnExactCutBySpeed', WHERE WHAT IT READS IS OF BULK AT MOST 1048576: true; the input reads as it did. -/
def fnExactCutBySpeedUptoRow : OpenClaim := { program := "ytogpkaeodgokgaa", sum := "0d7190ece1ab44cf52a0b44b8dae1d732c8b2abeb4204d7a464f7cd0797b4759", func := "loop.example/g01404/laws.FnExactCutBySpeed", spec := "fnExactCutBySpeed", unfollowed := true, recurses := true, plainKeys := false, apart := false, narrowed := true }
def FnExactCutBySpeedUptoSaid : Prop := fnExactCutBySpeedUptoRow.holds Try.pinned (OpenSpec.upto fnExactCutBySpeedSpec)

/-- 'laws.FnExactHeightsBehind', WHERE WHAT IT READS IS OF BULK AT MOST 1048576: true; the input reads as it did. -/
def fnExactHeightsBehindUptoRow : OpenClaim := { program := "ytogpkaeodgokgaa", sum := "0d7190ece1ab44cf52a0b44b8dae1d732c8b2abeb4204d7a464f7cd0797b4759", func := "loop.example/g01404/laws.FnExactHeightsBehind", spec := "fnExactHeightsBehind", unfollowed := true, recurses := true, plainKeys := false, apart := false, narrowed := true }
def FnExactHeightsBehindUptoSaid : Prop := fnExactHeightsBehindUptoRow.holds Try.pinned (OpenSpec.upto fnExactHeightsBehindSpec)

/-- 'laws.FnExactTowerOf', WHERE WHAT IT READS IS OF BULK AT MOST 1048576: true; the input reads as it did. -/
def fnExactTowerOfUptoRow : OpenClaim := { program := "ytogpkaeodgokgaa", sum := "0d7190ece1ab44cf52a0b44b8dae1d732c8b2abeb4204d7a464f7cd0797b4759", func := "loop.example/g01404/laws.FnExactTowerOf", spec := "fnExactTowerOf", unfollowed := true, recurses := true, plainKeys := false, apart := false, narrowed := true }
def FnExactTowerOfUptoSaid : Prop := fnExactTowerOfUptoRow.holds Try.pinned (OpenSpec.upto fnExactTowerOfSpec)

/-- 'laws.FnExactTurnsByHeight', WHERE WHAT IT READS IS OF BULK AT MOST 1048576: true; the input reads as it did. -/
def fnExactTurnsByHeightUptoRow : OpenClaim := { program := "ytogpkaeodgokgaa", sum := "0d7190ece1ab44cf52a0b44b8dae1d732c8b2abeb4204d7a464f7cd0797b4759", func := "loop.example/g01404/laws.FnExactTurnsByHeight", spec := "fnExactTurnsByHeight", unfollowed := true, recurses := true, plainKeys := false, apart := false, narrowed := true }
def FnExactTurnsByHeightUptoSaid : Prop := fnExactTurnsByHeightUptoRow.holds Try.pinned (OpenSpec.upto fnExactTurnsByHeightSpec)

/-- 'laws.FnExactTurnsBySpeed', WHERE WHAT IT READS IS OF BULK AT MOST 1048576: true; the input reads as it did. -/
def fnExactTurnsBySpeedUptoRow : OpenClaim := { program := "ytogpkaeodgokgaa", sum := "0d7190ece1ab44cf52a0b44b8dae1d732c8b2abeb4204d7a464f7cd0797b4759", func := "loop.example/g01404/laws.FnExactTurnsBySpeed", spec := "fnExactTurnsBySpeed", unfollowed := true, recurses := true, plainKeys := false, apart := false, narrowed := true }
def FnExactTurnsBySpeedUptoSaid : Prop := fnExactTurnsBySpeedUptoRow.holds Try.pinned (OpenSpec.upto fnExactTurnsBySpeedSpec)

/-- 'laws.FnExactHighestByHeight', WHERE WHAT IT READS IS OF BULK AT MOST 1048576: true; the input reads as it did. -/
def fnExactHighestByHeightUptoRow : OpenClaim := { program := "ytogpkaeodgokgaa", sum := "0d7190ece1ab44cf52a0b44b8dae1d732c8b2abeb4204d7a464f7cd0797b4759", func := "loop.example/g01404/laws.FnExactHighestByHeight", spec := "fnExactHighestByHeight", unfollowed := true, recurses := true, plainKeys := false, apart := false, narrowed := true }
def FnExactHighestByHeightUptoSaid : Prop := fnExactHighestByHeightUptoRow.holds Try.pinned (OpenSpec.upto fnExactHighestByHeightSpec)

/-- 'laws.FnExactSumOfRates', WHERE WHAT IT READS IS OF BULK AT MOST 1048576: true; the input reads as it did. -/
def fnExactSumOfRatesUptoRow : OpenClaim := { program := "ytogpkaeodgokgaa", sum := "0d7190ece1ab44cf52a0b44b8dae1d732c8b2abeb4204d7a464f7cd0797b4759", func := "loop.example/g01404/laws.FnExactSumOfRates", spec := "fnExactSumOfRates", unfollowed := true, recurses := true, plainKeys := false, apart := false, narrowed := true }
def FnExactSumOfRatesUptoSaid : Prop := fnExactSumOfRatesUptoRow.holds Try.pinned (OpenSpec.upto fnExactSumOfRatesSpec)

/-- 'laws.FnExactTasksOfGarden', WHERE WHAT IT READS IS OF BULK AT MOST 1048576: true; the input reads as it did. -/
def fnExactTasksOfGardenUptoRow : OpenClaim := { program := "ytogpkaeodgokgaa", sum := "0d7190ece1ab44cf52a0b44b8dae1d732c8b2abeb4204d7a464f7cd0797b4759", func := "loop.example/g01404/laws.FnExactTasksOfGarden", spec := "fnExactTasksOfGarden", unfollowed := true, recurses := true, plainKeys := false, apart := false, narrowed := true }
def FnExactTasksOfGardenUptoSaid : Prop := fnExactTasksOfGardenUptoRow.holds Try.pinned (OpenSpec.upto fnExactTasksOfGardenSpec)

/-- 'laws.FnExactLeastTower', WHERE WHAT IT READS IS OF BULK AT MOST 1048576: true; the input reads as it did. -/
def fnExactLeastTowerUptoRow : OpenClaim := { program := "ytogpkaeodgokgaa", sum := "0d7190ece1ab44cf52a0b44b8dae1d732c8b2abeb4204d7a464f7cd0797b4759", func := "loop.example/g01404/laws.FnExactLeastTower", spec := "fnExactLeastTower", unfollowed := true, recurses := true, plainKeys := false, apart := false, narrowed := true }
def FnExactLeastTowerUptoSaid : Prop := fnExactLeastTowerUptoRow.holds Try.pinned (OpenSpec.upto fnExactLeastTowerSpec)

end Rows
end Go.Proofs.Ytogpkaeodgokgaa
