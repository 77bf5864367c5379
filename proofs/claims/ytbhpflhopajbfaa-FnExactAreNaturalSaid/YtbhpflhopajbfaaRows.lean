/-
  No cell of these rows narrows 'for every input' (looked for: loops, veiled, ifaces, maps, wideKeys, modest, calm, conditions, laid).
  DERIVED. THE GIVEN ROWS OF THIS SEAT. 12 by the template 'for every input the law returns true; each argument reads behind the call as it read before'; 0 by the template 'total and deterministic' (their statements: YtbhpflhopajbfaaTotals.lean).
  GIVEN WITH THE SEED: the statements are not yours to turn. If you find one false, say at which input.
  Laid BY PROGRAM, IN A SANDBOX (cutbox-rows.mjs): the forced cells as the released guide's own fill.sh prints them over the translation 256684dcb7f34f3a… (all of the seat's roots in one cut). By AI agents, Wed Nov 11 2026. No macro, syntax, notation, axiom, sorry.
-/
import Derived.Test.YtbhpflhopajbfaaChecked
import GoSem.Claim
import GoSem.ClaimJoined
import GoSem.ClaimMapViews
import Derived.JoinedTies
import Derived.KernelRfl
namespace Go.Proofs.Ytbhpflhopajbfaa
/- THE CELL 'sum', in the pinned program and in every row, IS THE sha256 OF THE DUMP (.gsa) THAT YtbhpflhopajbfaaProg.lean LOADS. Nothing in Lean hashes anything: it is a label: what it is worth is what the hold of that sum in a sandbox is worth. -/
noncomputable def Try.pinned : Pinned := { name := "ytbhpflhopajbfaa", sum := "256684dcb7f34f3afdf1d46bcab1b49cabaf4761c8f8bed5abc202c512448744", checked := Try.checked }
namespace Rows
def none {H : Type} : Left H := { results := [], args := [] }

/-- 'laws.FnExactFewestSlots': WHATEVER THE INPUT: true; the input reads as it did. -/
def fnExactFewestSlotsSpec : ChangeSpec := { name := "fnExactFewestSlots", fn := fun _ => fun
  | [d] => { results := [.lit (.bool true)], args := [d] }
  | _ => none }
def fnExactFewestSlotsRow : OpenClaim := { program := "ytbhpflhopajbfaa", sum := "256684dcb7f34f3afdf1d46bcab1b49cabaf4761c8f8bed5abc202c512448744", func := "loop.example/g01404/laws.FnExactFewestSlots", spec := "fnExactFewestSlots", unfollowed := true, recurses := true, plainKeys := false, apart := false }
def FnExactFewestSlotsSaid : Prop := fnExactFewestSlotsRow.holds Try.pinned (OpenSpec.ofChange fnExactFewestSlotsSpec)

/-- ITS FALSE NEIGHBOUR: 'it returns false'. Refute it at one input. -/
def fnExactFewestSlotsWrong : ChangeSpec := { name := "fnExactFewestSlots", fn := fun _ => fun
  | [d] => { results := [.lit (.bool false)], args := [d] }
  | _ => none }
def FnExactFewestSlotsWrongFalsely : Prop := fnExactFewestSlotsRow.holds Try.pinned (OpenSpec.ofChange fnExactFewestSlotsWrong)

/-- 'laws.FnExactDeadlineSlots': WHATEVER THE INPUT: true; the input reads as it did. -/
def fnExactDeadlineSlotsSpec : ChangeSpec := { name := "fnExactDeadlineSlots", fn := fun _ => fun
  | [d] => { results := [.lit (.bool true)], args := [d] }
  | _ => none }
def fnExactDeadlineSlotsRow : OpenClaim := { program := "ytbhpflhopajbfaa", sum := "256684dcb7f34f3afdf1d46bcab1b49cabaf4761c8f8bed5abc202c512448744", func := "loop.example/g01404/laws.FnExactDeadlineSlots", spec := "fnExactDeadlineSlots", unfollowed := true, recurses := true, plainKeys := false, apart := false }
def FnExactDeadlineSlotsSaid : Prop := fnExactDeadlineSlotsRow.holds Try.pinned (OpenSpec.ofChange fnExactDeadlineSlotsSpec)

/-- ITS FALSE NEIGHBOUR: 'it returns false'. Refute it at one input. -/
def fnExactDeadlineSlotsWrong : ChangeSpec := { name := "fnExactDeadlineSlots", fn := fun _ => fun
  | [d] => { results := [.lit (.bool false)], args := [d] }
  | _ => none }
def FnExactDeadlineSlotsWrongFalsely : Prop := fnExactDeadlineSlotsRow.holds Try.pinned (OpenSpec.ofChange fnExactDeadlineSlotsWrong)

/-- 'laws.FnExactFirstLate': WHATEVER THE INPUT: true; the input reads as it did. -/
def fnExactFirstLateSpec : ChangeSpec := { name := "fnExactFirstLate", fn := fun _ => fun
  | [d] => { results := [.lit (.bool true)], args := [d] }
  | _ => none }
def fnExactFirstLateRow : OpenClaim := { program := "ytbhpflhopajbfaa", sum := "256684dcb7f34f3afdf1d46bcab1b49cabaf4761c8f8bed5abc202c512448744", func := "loop.example/g01404/laws.FnExactFirstLate", spec := "fnExactFirstLate", unfollowed := true, recurses := true, plainKeys := false, apart := false }
def FnExactFirstLateSaid : Prop := fnExactFirstLateRow.holds Try.pinned (OpenSpec.ofChange fnExactFirstLateSpec)

/-- ITS FALSE NEIGHBOUR: 'it returns false'. Refute it at one input. -/
def fnExactFirstLateWrong : ChangeSpec := { name := "fnExactFirstLate", fn := fun _ => fun
  | [d] => { results := [.lit (.bool false)], args := [d] }
  | _ => none }
def FnExactFirstLateWrongFalsely : Prop := fnExactFirstLateRow.holds Try.pinned (OpenSpec.ofChange fnExactFirstLateWrong)

/-- 'laws.FnExactCanMeet': WHATEVER THE INPUT: true; the input reads as it did. -/
def fnExactCanMeetSpec : ChangeSpec := { name := "fnExactCanMeet", fn := fun _ => fun
  | [d] => { results := [.lit (.bool true)], args := [d] }
  | _ => none }
def fnExactCanMeetRow : OpenClaim := { program := "ytbhpflhopajbfaa", sum := "256684dcb7f34f3afdf1d46bcab1b49cabaf4761c8f8bed5abc202c512448744", func := "loop.example/g01404/laws.FnExactCanMeet", spec := "fnExactCanMeet", unfollowed := true, recurses := true, plainKeys := false, apart := false }
def FnExactCanMeetSaid : Prop := fnExactCanMeetRow.holds Try.pinned (OpenSpec.ofChange fnExactCanMeetSpec)

/-- ITS FALSE NEIGHBOUR: 'it returns false'. Refute it at one input. -/
def fnExactCanMeetWrong : ChangeSpec := { name := "fnExactCanMeet", fn := fun _ => fun
  | [d] => { results := [.lit (.bool false)], args := [d] }
  | _ => none }
def FnExactCanMeetWrongFalsely : Prop := fnExactCanMeetRow.holds Try.pinned (OpenSpec.ofChange fnExactCanMeetWrong)

/-- 'laws.FnExactTurnsOfJobs': WHATEVER THE INPUT: true; the input reads as it did. -/
def fnExactTurnsOfJobsSpec : ChangeSpec := { name := "fnExactTurnsOfJobs", fn := fun _ => fun
  | [d] => { results := [.lit (.bool true)], args := [d] }
  | _ => none }
def fnExactTurnsOfJobsRow : OpenClaim := { program := "ytbhpflhopajbfaa", sum := "256684dcb7f34f3afdf1d46bcab1b49cabaf4761c8f8bed5abc202c512448744", func := "loop.example/g01404/laws.FnExactTurnsOfJobs", spec := "fnExactTurnsOfJobs", unfollowed := true, recurses := true, plainKeys := false, apart := false }
def FnExactTurnsOfJobsSaid : Prop := fnExactTurnsOfJobsRow.holds Try.pinned (OpenSpec.ofChange fnExactTurnsOfJobsSpec)

/-- ITS FALSE NEIGHBOUR: 'it returns false'. Refute it at one input. -/
def fnExactTurnsOfJobsWrong : ChangeSpec := { name := "fnExactTurnsOfJobs", fn := fun _ => fun
  | [d] => { results := [.lit (.bool false)], args := [d] }
  | _ => none }
def FnExactTurnsOfJobsWrongFalsely : Prop := fnExactTurnsOfJobsRow.holds Try.pinned (OpenSpec.ofChange fnExactTurnsOfJobsWrong)

/-- 'laws.FnExactGapsOfTurns': WHATEVER THE INPUT: true; the input reads as it did. -/
def fnExactGapsOfTurnsSpec : ChangeSpec := { name := "fnExactGapsOfTurns", fn := fun _ => fun
  | [d] => { results := [.lit (.bool true)], args := [d] }
  | _ => none }
def fnExactGapsOfTurnsRow : OpenClaim := { program := "ytbhpflhopajbfaa", sum := "256684dcb7f34f3afdf1d46bcab1b49cabaf4761c8f8bed5abc202c512448744", func := "loop.example/g01404/laws.FnExactGapsOfTurns", spec := "fnExactGapsOfTurns", unfollowed := true, recurses := true, plainKeys := false, apart := false }
def FnExactGapsOfTurnsSaid : Prop := fnExactGapsOfTurnsRow.holds Try.pinned (OpenSpec.ofChange fnExactGapsOfTurnsSpec)

/-- ITS FALSE NEIGHBOUR: 'it returns false'. Refute it at one input. -/
def fnExactGapsOfTurnsWrong : ChangeSpec := { name := "fnExactGapsOfTurns", fn := fun _ => fun
  | [d] => { results := [.lit (.bool false)], args := [d] }
  | _ => none }
def FnExactGapsOfTurnsWrongFalsely : Prop := fnExactGapsOfTurnsRow.holds Try.pinned (OpenSpec.ofChange fnExactGapsOfTurnsWrong)

/-- 'laws.FnExactAreNatural': WHATEVER THE INPUT: true; the input reads as it did. -/
def fnExactAreNaturalSpec : ChangeSpec := { name := "fnExactAreNatural", fn := fun _ => fun
  | [d] => { results := [.lit (.bool true)], args := [d] }
  | _ => none }
def fnExactAreNaturalRow : OpenClaim := { program := "ytbhpflhopajbfaa", sum := "256684dcb7f34f3afdf1d46bcab1b49cabaf4761c8f8bed5abc202c512448744", func := "loop.example/g01404/laws.FnExactAreNatural", spec := "fnExactAreNatural", recurses := true, plainKeys := false, apart := false }
def FnExactAreNaturalSaid : Prop := fnExactAreNaturalRow.holds Try.pinned (OpenSpec.ofChange fnExactAreNaturalSpec)

/-- ITS FALSE NEIGHBOUR: 'it returns false'. Refute it at one input. -/
def fnExactAreNaturalWrong : ChangeSpec := { name := "fnExactAreNatural", fn := fun _ => fun
  | [d] => { results := [.lit (.bool false)], args := [d] }
  | _ => none }
def FnExactAreNaturalWrongFalsely : Prop := fnExactAreNaturalRow.holds Try.pinned (OpenSpec.ofChange fnExactAreNaturalWrong)

/-- 'laws.FnExactPutSets': WHATEVER THE INPUT: true; the input reads as it did. -/
def fnExactPutSetsSpec : ChangeSpec := { name := "fnExactPutSets", fn := fun _ => fun
  | [d1, d2, d3] => { results := [.lit (.bool true)], args := [d1, d2, d3] }
  | _ => none }
def fnExactPutSetsRow : OpenClaim := { program := "ytbhpflhopajbfaa", sum := "256684dcb7f34f3afdf1d46bcab1b49cabaf4761c8f8bed5abc202c512448744", func := "loop.example/g01404/laws.FnExactPutSets", spec := "fnExactPutSets", unfollowed := true, recurses := true, plainKeys := false, apart := false }
def FnExactPutSetsSaid : Prop := fnExactPutSetsRow.holds Try.pinned (OpenSpec.ofChange fnExactPutSetsSpec)

/-- ITS FALSE NEIGHBOUR: 'it returns false'. Refute it at one input. -/
def fnExactPutSetsWrong : ChangeSpec := { name := "fnExactPutSets", fn := fun _ => fun
  | [d1, d2, d3] => { results := [.lit (.bool false)], args := [d1, d2, d3] }
  | _ => none }
def FnExactPutSetsWrongFalsely : Prop := fnExactPutSetsRow.holds Try.pinned (OpenSpec.ofChange fnExactPutSetsWrong)

/-- 'laws.FnExactFirstRoute': WHATEVER THE INPUT: true; the input reads as it did. -/
def fnExactFirstRouteSpec : ChangeSpec := { name := "fnExactFirstRoute", fn := fun _ => fun
  | [d1, d2] => { results := [.lit (.bool true)], args := [d1, d2] }
  | _ => none }
def fnExactFirstRouteRow : OpenClaim := { program := "ytbhpflhopajbfaa", sum := "256684dcb7f34f3afdf1d46bcab1b49cabaf4761c8f8bed5abc202c512448744", func := "loop.example/g01404/laws.FnExactFirstRoute", spec := "fnExactFirstRoute", unfollowed := true, recurses := true, plainKeys := false, apart := false }
def FnExactFirstRouteSaid : Prop := fnExactFirstRouteRow.holds Try.pinned (OpenSpec.ofChange fnExactFirstRouteSpec)

/-- ITS FALSE NEIGHBOUR: 'it returns false'. Refute it at one input. -/
def fnExactFirstRouteWrong : ChangeSpec := { name := "fnExactFirstRoute", fn := fun _ => fun
  | [d1, d2] => { results := [.lit (.bool false)], args := [d1, d2] }
  | _ => none }
def FnExactFirstRouteWrongFalsely : Prop := fnExactFirstRouteRow.holds Try.pinned (OpenSpec.ofChange fnExactFirstRouteWrong)

/-- 'laws.FnExactShortestRound': WHATEVER THE INPUT: true; the input reads as it did. -/
def fnExactShortestRoundSpec : ChangeSpec := { name := "fnExactShortestRound", fn := fun _ => fun
  | [d] => { results := [.lit (.bool true)], args := [d] }
  | _ => none }
def fnExactShortestRoundRow : OpenClaim := { program := "ytbhpflhopajbfaa", sum := "256684dcb7f34f3afdf1d46bcab1b49cabaf4761c8f8bed5abc202c512448744", func := "loop.example/g01404/laws.FnExactShortestRound", spec := "fnExactShortestRound", unfollowed := true, recurses := true, plainKeys := false, apart := false }
def FnExactShortestRoundSaid : Prop := fnExactShortestRoundRow.holds Try.pinned (OpenSpec.ofChange fnExactShortestRoundSpec)

/-- ITS FALSE NEIGHBOUR: 'it returns false'. Refute it at one input. -/
def fnExactShortestRoundWrong : ChangeSpec := { name := "fnExactShortestRound", fn := fun _ => fun
  | [d] => { results := [.lit (.bool false)], args := [d] }
  | _ => none }
def FnExactShortestRoundWrongFalsely : Prop := fnExactShortestRoundRow.holds Try.pinned (OpenSpec.ofChange fnExactShortestRoundWrong)

/-- 'laws.FnExactNewDesk': WHATEVER THE INPUT: true; the input reads as it did. -/
def fnExactNewDeskSpec : ChangeSpec := { name := "fnExactNewDesk", fn := fun _ => fun
  | [] => { results := [.lit (.bool true)], args := [] }
  | _ => none }
def fnExactNewDeskRow : OpenClaim := { program := "ytbhpflhopajbfaa", sum := "256684dcb7f34f3afdf1d46bcab1b49cabaf4761c8f8bed5abc202c512448744", func := "loop.example/g01404/laws.FnExactNewDesk", spec := "fnExactNewDesk", plainKeys := false, apart := false }
def FnExactNewDeskSaid : Prop := fnExactNewDeskRow.holds Try.pinned (OpenSpec.ofChange fnExactNewDeskSpec)

/-- ITS FALSE NEIGHBOUR: 'it returns false'. Refute it at one input. -/
def fnExactNewDeskWrong : ChangeSpec := { name := "fnExactNewDesk", fn := fun _ => fun
  | [] => { results := [.lit (.bool false)], args := [] }
  | _ => none }
def FnExactNewDeskWrongFalsely : Prop := fnExactNewDeskRow.holds Try.pinned (OpenSpec.ofChange fnExactNewDeskWrong)

/-- 'laws.FnExactIsDesk': WHATEVER THE INPUT: true; the input reads as it did. -/
def fnExactIsDeskSpec : ChangeSpec := { name := "fnExactIsDesk", fn := fun _ => fun
  | [d] => { results := [.lit (.bool true)], args := [d] }
  | _ => none }
def fnExactIsDeskRow : OpenClaim := { program := "ytbhpflhopajbfaa", sum := "256684dcb7f34f3afdf1d46bcab1b49cabaf4761c8f8bed5abc202c512448744", func := "loop.example/g01404/laws.FnExactIsDesk", spec := "fnExactIsDesk", unfollowed := true, recurses := true, plainKeys := false, apart := false }
def FnExactIsDeskSaid : Prop := fnExactIsDeskRow.holds Try.pinned (OpenSpec.ofChange fnExactIsDeskSpec)

/-- ITS FALSE NEIGHBOUR: 'it returns false'. Refute it at one input. -/
def fnExactIsDeskWrong : ChangeSpec := { name := "fnExactIsDesk", fn := fun _ => fun
  | [d] => { results := [.lit (.bool false)], args := [d] }
  | _ => none }
def FnExactIsDeskWrongFalsely : Prop := fnExactIsDeskRow.holds Try.pinned (OpenSpec.ofChange fnExactIsDeskWrong)

/- THE SECOND FORM. 'bulk': how many values and letters a reading holds, each counted each time it is reached (what is shared counts as often as it is met; a slice's spare places count too). A statement '..UptoSaid' is the law's where the arguments, and the package variables that the reading takes, are together of bulk at most 1048576: NARROWER than '..Said'. Prove '..Said' where nothing that the law and all that it calls make is longer than what came in: it says more and counts as full. Else prove '..UptoSaid'. A law counts once. -/
mutual
def uptoBulk {H : Type} : DataW H → Nat
  | .lit (.string bytes) => bytes.length + 1
  | .lit _ => 1
  | .nil => 1
  | .ptr d => uptoBulk d + 1
  | .slice elems spare => uptoBulkAll elems + uptoBulkAll spare + 1
  | .agg parts => uptoBulkAll parts + 1
  | .iface _ d => uptoBulk d + 1
  | .map entries => uptoBulkEntries entries + 1
  | .held _ => 1
def uptoBulkAll {H : Type} : List (DataW H) → Nat
  | [] => 0
  | d :: r => uptoBulk d + uptoBulkAll r
def uptoBulkEntries {H : Type} : List (Lit × DataW H) → Nat
  | [] => 0
  | x :: r => uptoBulkEntry x + uptoBulkEntries r
def uptoBulkEntry {H : Type} : Lit × DataW H → Nat
  | (.string bytes, d) => bytes.length + uptoBulk d + 1
  | (_, d) => uptoBulk d + 1
 end
def uptoSmall : (H : Type) → List (DataW H) → Bool := fun _ ds => decide (uptoBulkAll ds ≤ 1048576)
def OpenSpec.upto (s : _root_.Go.ChangeSpec) : _root_.Go.OpenSpec := { _root_.Go.OpenSpec.ofChange s with cond := some uptoSmall }

/-- 'laws.FnExactFewestSlots', WHERE WHAT IT READS IS OF BULK AT MOST 1048576: true; the input reads as it did. -/
def fnExactFewestSlotsUptoRow : OpenClaim := { program := "ytbhpflhopajbfaa", sum := "256684dcb7f34f3afdf1d46bcab1b49cabaf4761c8f8bed5abc202c512448744", func := "loop.example/g01404/laws.FnExactFewestSlots", spec := "fnExactFewestSlots", unfollowed := true, recurses := true, plainKeys := false, apart := false, narrowed := true }
def FnExactFewestSlotsUptoSaid : Prop := fnExactFewestSlotsUptoRow.holds Try.pinned (OpenSpec.upto fnExactFewestSlotsSpec)

/-- 'laws.FnExactDeadlineSlots', WHERE WHAT IT READS IS OF BULK AT MOST 1048576: true; the input reads as it did. -/
def fnExactDeadlineSlotsUptoRow : OpenClaim := { program := "ytbhpflhopajbfaa", sum := "256684dcb7f34f3afdf1d46bcab1b49cabaf4761c8f8bed5abc202c512448744", func := "loop.example/g01404/laws.FnExactDeadlineSlots", spec := "fnExactDeadlineSlots", unfollowed := true, recurses := true, plainKeys := false, apart := false, narrowed := true }
def FnExactDeadlineSlotsUptoSaid : Prop := fnExactDeadlineSlotsUptoRow.holds Try.pinned (OpenSpec.upto fnExactDeadlineSlotsSpec)

/-- 'laws.FnExactFirstLate', WHERE WHAT IT READS IS OF BULK AT MOST 1048576: true; the input reads as it did. -/
def fnExactFirstLateUptoRow : OpenClaim := { program := "ytbhpflhopajbfaa", sum := "256684dcb7f34f3afdf1d46bcab1b49cabaf4761c8f8bed5abc202c512448744", func := "loop.example/g01404/laws.FnExactFirstLate", spec := "fnExactFirstLate", unfollowed := true, recurses := true, plainKeys := false, apart := false, narrowed := true }
def FnExactFirstLateUptoSaid : Prop := fnExactFirstLateUptoRow.holds Try.pinned (OpenSpec.upto fnExactFirstLateSpec)

/-- 'laws.FnExactCanMeet', WHERE WHAT IT READS IS OF BULK AT MOST 1048576: true; the input reads as it did. -/
def fnExactCanMeetUptoRow : OpenClaim := { program := "ytbhpflhopajbfaa", sum := "256684dcb7f34f3afdf1d46bcab1b49cabaf4761c8f8bed5abc202c512448744", func := "loop.example/g01404/laws.FnExactCanMeet", spec := "fnExactCanMeet", unfollowed := true, recurses := true, plainKeys := false, apart := false, narrowed := true }
def FnExactCanMeetUptoSaid : Prop := fnExactCanMeetUptoRow.holds Try.pinned (OpenSpec.upto fnExactCanMeetSpec)

/-- 'laws.FnExactTurnsOfJobs', WHERE WHAT IT READS IS OF BULK AT MOST 1048576: true; the input reads as it did. -/
def fnExactTurnsOfJobsUptoRow : OpenClaim := { program := "ytbhpflhopajbfaa", sum := "256684dcb7f34f3afdf1d46bcab1b49cabaf4761c8f8bed5abc202c512448744", func := "loop.example/g01404/laws.FnExactTurnsOfJobs", spec := "fnExactTurnsOfJobs", unfollowed := true, recurses := true, plainKeys := false, apart := false, narrowed := true }
def FnExactTurnsOfJobsUptoSaid : Prop := fnExactTurnsOfJobsUptoRow.holds Try.pinned (OpenSpec.upto fnExactTurnsOfJobsSpec)

/-- 'laws.FnExactGapsOfTurns', WHERE WHAT IT READS IS OF BULK AT MOST 1048576: true; the input reads as it did. -/
def fnExactGapsOfTurnsUptoRow : OpenClaim := { program := "ytbhpflhopajbfaa", sum := "256684dcb7f34f3afdf1d46bcab1b49cabaf4761c8f8bed5abc202c512448744", func := "loop.example/g01404/laws.FnExactGapsOfTurns", spec := "fnExactGapsOfTurns", unfollowed := true, recurses := true, plainKeys := false, apart := false, narrowed := true }
def FnExactGapsOfTurnsUptoSaid : Prop := fnExactGapsOfTurnsUptoRow.holds Try.pinned (OpenSpec.upto fnExactGapsOfTurnsSpec)

/-- 'laws.FnExactAreNatural', WHERE WHAT IT READS IS OF BULK AT MOST 1048576: true; the input reads as it did. -/
def fnExactAreNaturalUptoRow : OpenClaim := { program := "ytbhpflhopajbfaa", sum := "256684dcb7f34f3afdf1d46bcab1b49cabaf4761c8f8bed5abc202c512448744", func := "loop.example/g01404/laws.FnExactAreNatural", spec := "fnExactAreNatural", recurses := true, plainKeys := false, apart := false, narrowed := true }
def FnExactAreNaturalUptoSaid : Prop := fnExactAreNaturalUptoRow.holds Try.pinned (OpenSpec.upto fnExactAreNaturalSpec)

/-- 'laws.FnExactPutSets', WHERE WHAT IT READS IS OF BULK AT MOST 1048576: true; the input reads as it did. -/
def fnExactPutSetsUptoRow : OpenClaim := { program := "ytbhpflhopajbfaa", sum := "256684dcb7f34f3afdf1d46bcab1b49cabaf4761c8f8bed5abc202c512448744", func := "loop.example/g01404/laws.FnExactPutSets", spec := "fnExactPutSets", unfollowed := true, recurses := true, plainKeys := false, apart := false, narrowed := true }
def FnExactPutSetsUptoSaid : Prop := fnExactPutSetsUptoRow.holds Try.pinned (OpenSpec.upto fnExactPutSetsSpec)

/-- 'laws.FnExactFirstRoute', WHERE WHAT IT READS IS OF BULK AT MOST 1048576: true; the input reads as it did. -/
def fnExactFirstRouteUptoRow : OpenClaim := { program := "ytbhpflhopajbfaa", sum := "256684dcb7f34f3afdf1d46bcab1b49cabaf4761c8f8bed5abc202c512448744", func := "loop.example/g01404/laws.FnExactFirstRoute", spec := "fnExactFirstRoute", unfollowed := true, recurses := true, plainKeys := false, apart := false, narrowed := true }
def FnExactFirstRouteUptoSaid : Prop := fnExactFirstRouteUptoRow.holds Try.pinned (OpenSpec.upto fnExactFirstRouteSpec)

/-- 'laws.FnExactShortestRound', WHERE WHAT IT READS IS OF BULK AT MOST 1048576: true; the input reads as it did. -/
def fnExactShortestRoundUptoRow : OpenClaim := { program := "ytbhpflhopajbfaa", sum := "256684dcb7f34f3afdf1d46bcab1b49cabaf4761c8f8bed5abc202c512448744", func := "loop.example/g01404/laws.FnExactShortestRound", spec := "fnExactShortestRound", unfollowed := true, recurses := true, plainKeys := false, apart := false, narrowed := true }
def FnExactShortestRoundUptoSaid : Prop := fnExactShortestRoundUptoRow.holds Try.pinned (OpenSpec.upto fnExactShortestRoundSpec)

/-- 'laws.FnExactNewDesk', WHERE WHAT IT READS IS OF BULK AT MOST 1048576: true; the input reads as it did. -/
def fnExactNewDeskUptoRow : OpenClaim := { program := "ytbhpflhopajbfaa", sum := "256684dcb7f34f3afdf1d46bcab1b49cabaf4761c8f8bed5abc202c512448744", func := "loop.example/g01404/laws.FnExactNewDesk", spec := "fnExactNewDesk", plainKeys := false, apart := false, narrowed := true }
def FnExactNewDeskUptoSaid : Prop := fnExactNewDeskUptoRow.holds Try.pinned (OpenSpec.upto fnExactNewDeskSpec)

/-- 'laws.FnExactIsDesk', WHERE WHAT IT READS IS OF BULK AT MOST 1048576: true; the input reads as it did. -/
def fnExactIsDeskUptoRow : OpenClaim := { program := "ytbhpflhopajbfaa", sum := "256684dcb7f34f3afdf1d46bcab1b49cabaf4761c8f8bed5abc202c512448744", func := "loop.example/g01404/laws.FnExactIsDesk", spec := "fnExactIsDesk", unfollowed := true, recurses := true, plainKeys := false, apart := false, narrowed := true }
def FnExactIsDeskUptoSaid : Prop := fnExactIsDeskUptoRow.holds Try.pinned (OpenSpec.upto fnExactIsDeskSpec)

end Rows
end Go.Proofs.Ytbhpflhopajbfaa
