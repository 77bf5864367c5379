/-
  No cell of these rows narrows 'for every input' (looked for: loops, veiled, ifaces, maps, wideKeys, modest, calm, conditions, laid).
  DERIVED. THE GIVEN ROWS OF THIS SEAT. 15 by the template 'for every input the law returns true; each argument reads behind the call as it read before'; 0 by the template 'total and deterministic' (their statements: YtmmpoaphjjpjaaaTotals.lean).
  GIVEN WITH THE SEED: the statements are not yours to turn. If you find one false, say at which input.
  Laid BY PROGRAM, IN A SANDBOX (cutbox-rows.mjs): the forced cells as the released guide's own fill.sh prints them over the translation 5099e8ea14d98fa4… (all of the seat's roots in one cut). By AI agents, Wed Nov 11 2026. No macro, syntax, notation, axiom, sorry.
-/
import Derived.Test.YtmmpoaphjjpjaaaChecked
import GoSem.Claim
import GoSem.ClaimJoined
import GoSem.ClaimMapViews
import Derived.JoinedTies
import Derived.KernelRfl
namespace Go.Proofs.Ytmmpoaphjjpjaaa
/- THE CELL 'sum', in the pinned program and in every row, IS THE sha256 OF THE DUMP (.gsa) THAT YtmmpoaphjjpjaaaProg.lean LOADS. Nothing in Lean hashes anything: it is a label: what it is worth is what the hold of that sum in a sandbox is worth. -/
noncomputable def Try.pinned : Pinned := { name := "ytmmpoaphjjpjaaa", sum := "5099e8ea14d98fa4b366a81bd4f4d27f4d0072d66f21db5900652581a3adf4a7", checked := Try.checked }
namespace Rows
def none {H : Type} : Left H := { results := [], args := [] }

/-- 'laws.FnExactLeastPlay': WHATEVER THE INPUT: true; the input reads as it did. -/
def fnExactLeastPlaySpec : ChangeSpec := { name := "fnExactLeastPlay", fn := fun _ => fun
  | [d] => { results := [.lit (.bool true)], args := [d] }
  | _ => none }
def fnExactLeastPlayRow : OpenClaim := { program := "ytmmpoaphjjpjaaa", sum := "5099e8ea14d98fa4b366a81bd4f4d27f4d0072d66f21db5900652581a3adf4a7", func := "loop.example/g01404/laws.FnExactLeastPlay", spec := "fnExactLeastPlay", unfollowed := true, recurses := true, plainKeys := false, apart := false }
def FnExactLeastPlaySaid : Prop := fnExactLeastPlayRow.holds Try.pinned (OpenSpec.ofChange fnExactLeastPlaySpec)

/-- ITS FALSE NEIGHBOUR: 'it returns false'. Refute it at one input. -/
def fnExactLeastPlayWrong : ChangeSpec := { name := "fnExactLeastPlay", fn := fun _ => fun
  | [d] => { results := [.lit (.bool false)], args := [d] }
  | _ => none }
def FnExactLeastPlayWrongFalsely : Prop := fnExactLeastPlayRow.holds Try.pinned (OpenSpec.ofChange fnExactLeastPlayWrong)

/-- 'laws.FnExactFewestSlots': WHATEVER THE INPUT: true; the input reads as it did. -/
def fnExactFewestSlotsSpec : ChangeSpec := { name := "fnExactFewestSlots", fn := fun _ => fun
  | [d] => { results := [.lit (.bool true)], args := [d] }
  | _ => none }
def fnExactFewestSlotsRow : OpenClaim := { program := "ytmmpoaphjjpjaaa", sum := "5099e8ea14d98fa4b366a81bd4f4d27f4d0072d66f21db5900652581a3adf4a7", func := "loop.example/g01404/laws.FnExactFewestSlots", spec := "fnExactFewestSlots", unfollowed := true, recurses := true, plainKeys := false, apart := false }
def FnExactFewestSlotsSaid : Prop := fnExactFewestSlotsRow.holds Try.pinned (OpenSpec.ofChange fnExactFewestSlotsSpec)

/-- ITS FALSE NEIGHBOUR: 'it returns false'. Refute it at one input. -/
def fnExactFewestSlotsWrong : ChangeSpec := { name := "fnExactFewestSlots", fn := fun _ => fun
  | [d] => { results := [.lit (.bool false)], args := [d] }
  | _ => none }
def FnExactFewestSlotsWrongFalsely : Prop := fnExactFewestSlotsRow.holds Try.pinned (OpenSpec.ofChange fnExactFewestSlotsWrong)

/-- 'laws.FnExactAreJobs': WHATEVER THE INPUT: true; the input reads as it did. -/
def fnExactAreJobsSpec : ChangeSpec := { name := "fnExactAreJobs", fn := fun _ => fun
  | [d] => { results := [.lit (.bool true)], args := [d] }
  | _ => none }
def fnExactAreJobsRow : OpenClaim := { program := "ytmmpoaphjjpjaaa", sum := "5099e8ea14d98fa4b366a81bd4f4d27f4d0072d66f21db5900652581a3adf4a7", func := "loop.example/g01404/laws.FnExactAreJobs", spec := "fnExactAreJobs", unfollowed := true, recurses := true, plainKeys := false, apart := false }
def FnExactAreJobsSaid : Prop := fnExactAreJobsRow.holds Try.pinned (OpenSpec.ofChange fnExactAreJobsSpec)

/-- ITS FALSE NEIGHBOUR: 'it returns false'. Refute it at one input. -/
def fnExactAreJobsWrong : ChangeSpec := { name := "fnExactAreJobs", fn := fun _ => fun
  | [d] => { results := [.lit (.bool false)], args := [d] }
  | _ => none }
def FnExactAreJobsWrongFalsely : Prop := fnExactAreJobsRow.holds Try.pinned (OpenSpec.ofChange fnExactAreJobsWrong)

/-- 'laws.FnExactLoadOf': WHATEVER THE INPUT: true; the input reads as it did. -/
def fnExactLoadOfSpec : ChangeSpec := { name := "fnExactLoadOf", fn := fun _ => fun
  | [d] => { results := [.lit (.bool true)], args := [d] }
  | _ => none }
def fnExactLoadOfRow : OpenClaim := { program := "ytmmpoaphjjpjaaa", sum := "5099e8ea14d98fa4b366a81bd4f4d27f4d0072d66f21db5900652581a3adf4a7", func := "loop.example/g01404/laws.FnExactLoadOf", spec := "fnExactLoadOf", unfollowed := true, recurses := true, plainKeys := false, apart := false }
def FnExactLoadOfSaid : Prop := fnExactLoadOfRow.holds Try.pinned (OpenSpec.ofChange fnExactLoadOfSpec)

/-- ITS FALSE NEIGHBOUR: 'it returns false'. Refute it at one input. -/
def fnExactLoadOfWrong : ChangeSpec := { name := "fnExactLoadOf", fn := fun _ => fun
  | [d] => { results := [.lit (.bool false)], args := [d] }
  | _ => none }
def FnExactLoadOfWrongFalsely : Prop := fnExactLoadOfRow.holds Try.pinned (OpenSpec.ofChange fnExactLoadOfWrong)

/-- 'laws.FnExactWholePeriod': WHATEVER THE INPUT: true; the input reads as it did. -/
def fnExactWholePeriodSpec : ChangeSpec := { name := "fnExactWholePeriod", fn := fun _ => fun
  | [d] => { results := [.lit (.bool true)], args := [d] }
  | _ => none }
def fnExactWholePeriodRow : OpenClaim := { program := "ytmmpoaphjjpjaaa", sum := "5099e8ea14d98fa4b366a81bd4f4d27f4d0072d66f21db5900652581a3adf4a7", func := "loop.example/g01404/laws.FnExactWholePeriod", spec := "fnExactWholePeriod", unfollowed := true, recurses := true, plainKeys := false, apart := false }
def FnExactWholePeriodSaid : Prop := fnExactWholePeriodRow.holds Try.pinned (OpenSpec.ofChange fnExactWholePeriodSpec)

/-- ITS FALSE NEIGHBOUR: 'it returns false'. Refute it at one input. -/
def fnExactWholePeriodWrong : ChangeSpec := { name := "fnExactWholePeriod", fn := fun _ => fun
  | [d] => { results := [.lit (.bool false)], args := [d] }
  | _ => none }
def FnExactWholePeriodWrongFalsely : Prop := fnExactWholePeriodRow.holds Try.pinned (OpenSpec.ofChange fnExactWholePeriodWrong)

/-- 'laws.FnExactDeadlineSlots': WHATEVER THE INPUT: true; the input reads as it did. -/
def fnExactDeadlineSlotsSpec : ChangeSpec := { name := "fnExactDeadlineSlots", fn := fun _ => fun
  | [d] => { results := [.lit (.bool true)], args := [d] }
  | _ => none }
def fnExactDeadlineSlotsRow : OpenClaim := { program := "ytmmpoaphjjpjaaa", sum := "5099e8ea14d98fa4b366a81bd4f4d27f4d0072d66f21db5900652581a3adf4a7", func := "loop.example/g01404/laws.FnExactDeadlineSlots", spec := "fnExactDeadlineSlots", unfollowed := true, recurses := true, plainKeys := false, apart := false }
def FnExactDeadlineSlotsSaid : Prop := fnExactDeadlineSlotsRow.holds Try.pinned (OpenSpec.ofChange fnExactDeadlineSlotsSpec)

/-- ITS FALSE NEIGHBOUR: 'it returns false'. Refute it at one input. -/
def fnExactDeadlineSlotsWrong : ChangeSpec := { name := "fnExactDeadlineSlots", fn := fun _ => fun
  | [d] => { results := [.lit (.bool false)], args := [d] }
  | _ => none }
def FnExactDeadlineSlotsWrongFalsely : Prop := fnExactDeadlineSlotsRow.holds Try.pinned (OpenSpec.ofChange fnExactDeadlineSlotsWrong)

/-- 'laws.FnExactFirstLate': WHATEVER THE INPUT: true; the input reads as it did. -/
def fnExactFirstLateSpec : ChangeSpec := { name := "fnExactFirstLate", fn := fun _ => fun
  | [d] => { results := [.lit (.bool true)], args := [d] }
  | _ => none }
def fnExactFirstLateRow : OpenClaim := { program := "ytmmpoaphjjpjaaa", sum := "5099e8ea14d98fa4b366a81bd4f4d27f4d0072d66f21db5900652581a3adf4a7", func := "loop.example/g01404/laws.FnExactFirstLate", spec := "fnExactFirstLate", unfollowed := true, recurses := true, plainKeys := false, apart := false }
def FnExactFirstLateSaid : Prop := fnExactFirstLateRow.holds Try.pinned (OpenSpec.ofChange fnExactFirstLateSpec)

/-- ITS FALSE NEIGHBOUR: 'it returns false'. Refute it at one input. -/
def fnExactFirstLateWrong : ChangeSpec := { name := "fnExactFirstLate", fn := fun _ => fun
  | [d] => { results := [.lit (.bool false)], args := [d] }
  | _ => none }
def FnExactFirstLateWrongFalsely : Prop := fnExactFirstLateRow.holds Try.pinned (OpenSpec.ofChange fnExactFirstLateWrong)

/-- 'laws.FnExactDemandUpTo': WHATEVER THE INPUT: true; the input reads as it did. -/
def fnExactDemandUpToSpec : ChangeSpec := { name := "fnExactDemandUpTo", fn := fun _ => fun
  | [d1, d2] => { results := [.lit (.bool true)], args := [d1, d2] }
  | _ => none }
def fnExactDemandUpToRow : OpenClaim := { program := "ytmmpoaphjjpjaaa", sum := "5099e8ea14d98fa4b366a81bd4f4d27f4d0072d66f21db5900652581a3adf4a7", func := "loop.example/g01404/laws.FnExactDemandUpTo", spec := "fnExactDemandUpTo", unfollowed := true, recurses := true, plainKeys := false, apart := false }
def FnExactDemandUpToSaid : Prop := fnExactDemandUpToRow.holds Try.pinned (OpenSpec.ofChange fnExactDemandUpToSpec)

/-- ITS FALSE NEIGHBOUR: 'it returns false'. Refute it at one input. -/
def fnExactDemandUpToWrong : ChangeSpec := { name := "fnExactDemandUpTo", fn := fun _ => fun
  | [d1, d2] => { results := [.lit (.bool false)], args := [d1, d2] }
  | _ => none }
def FnExactDemandUpToWrongFalsely : Prop := fnExactDemandUpToRow.holds Try.pinned (OpenSpec.ofChange fnExactDemandUpToWrong)

/-- 'laws.FnExactRoomOf': WHATEVER THE INPUT: true; the input reads as it did. -/
def fnExactRoomOfSpec : ChangeSpec := { name := "fnExactRoomOf", fn := fun _ => fun
  | [d] => { results := [.lit (.bool true)], args := [d] }
  | _ => none }
def fnExactRoomOfRow : OpenClaim := { program := "ytmmpoaphjjpjaaa", sum := "5099e8ea14d98fa4b366a81bd4f4d27f4d0072d66f21db5900652581a3adf4a7", func := "loop.example/g01404/laws.FnExactRoomOf", spec := "fnExactRoomOf", unfollowed := true, recurses := true, plainKeys := false, apart := false }
def FnExactRoomOfSaid : Prop := fnExactRoomOfRow.holds Try.pinned (OpenSpec.ofChange fnExactRoomOfSpec)

/-- ITS FALSE NEIGHBOUR: 'it returns false'. Refute it at one input. -/
def fnExactRoomOfWrong : ChangeSpec := { name := "fnExactRoomOf", fn := fun _ => fun
  | [d] => { results := [.lit (.bool false)], args := [d] }
  | _ => none }
def FnExactRoomOfWrongFalsely : Prop := fnExactRoomOfRow.holds Try.pinned (OpenSpec.ofChange fnExactRoomOfWrong)

/-- 'laws.FnExactCanMeet': WHATEVER THE INPUT: true; the input reads as it did. -/
def fnExactCanMeetSpec : ChangeSpec := { name := "fnExactCanMeet", fn := fun _ => fun
  | [d] => { results := [.lit (.bool true)], args := [d] }
  | _ => none }
def fnExactCanMeetRow : OpenClaim := { program := "ytmmpoaphjjpjaaa", sum := "5099e8ea14d98fa4b366a81bd4f4d27f4d0072d66f21db5900652581a3adf4a7", func := "loop.example/g01404/laws.FnExactCanMeet", spec := "fnExactCanMeet", unfollowed := true, recurses := true, plainKeys := false, apart := false }
def FnExactCanMeetSaid : Prop := fnExactCanMeetRow.holds Try.pinned (OpenSpec.ofChange fnExactCanMeetSpec)

/-- ITS FALSE NEIGHBOUR: 'it returns false'. Refute it at one input. -/
def fnExactCanMeetWrong : ChangeSpec := { name := "fnExactCanMeet", fn := fun _ => fun
  | [d] => { results := [.lit (.bool false)], args := [d] }
  | _ => none }
def FnExactCanMeetWrongFalsely : Prop := fnExactCanMeetRow.holds Try.pinned (OpenSpec.ofChange fnExactCanMeetWrong)

/-- 'laws.FnExactAnswersOf': WHATEVER THE INPUT: true; the input reads as it did. -/
def fnExactAnswersOfSpec : ChangeSpec := { name := "fnExactAnswersOf", fn := fun _ => fun
  | [d1, d2] => { results := [.lit (.bool true)], args := [d1, d2] }
  | _ => none }
def fnExactAnswersOfRow : OpenClaim := { program := "ytmmpoaphjjpjaaa", sum := "5099e8ea14d98fa4b366a81bd4f4d27f4d0072d66f21db5900652581a3adf4a7", func := "loop.example/g01404/laws.FnExactAnswersOf", spec := "fnExactAnswersOf", unfollowed := true, recurses := true, plainKeys := false, apart := false }
def FnExactAnswersOfSaid : Prop := fnExactAnswersOfRow.holds Try.pinned (OpenSpec.ofChange fnExactAnswersOfSpec)

/-- ITS FALSE NEIGHBOUR: 'it returns false'. Refute it at one input. -/
def fnExactAnswersOfWrong : ChangeSpec := { name := "fnExactAnswersOf", fn := fun _ => fun
  | [d1, d2] => { results := [.lit (.bool false)], args := [d1, d2] }
  | _ => none }
def FnExactAnswersOfWrongFalsely : Prop := fnExactAnswersOfRow.holds Try.pinned (OpenSpec.ofChange fnExactAnswersOfWrong)

/-- 'laws.FnExactOrderByDeadlines': WHATEVER THE INPUT: true; the input reads as it did. -/
def fnExactOrderByDeadlinesSpec : ChangeSpec := { name := "fnExactOrderByDeadlines", fn := fun _ => fun
  | [d] => { results := [.lit (.bool true)], args := [d] }
  | _ => none }
def fnExactOrderByDeadlinesRow : OpenClaim := { program := "ytmmpoaphjjpjaaa", sum := "5099e8ea14d98fa4b366a81bd4f4d27f4d0072d66f21db5900652581a3adf4a7", func := "loop.example/g01404/laws.FnExactOrderByDeadlines", spec := "fnExactOrderByDeadlines", unfollowed := true, recurses := true, plainKeys := false, apart := false }
def FnExactOrderByDeadlinesSaid : Prop := fnExactOrderByDeadlinesRow.holds Try.pinned (OpenSpec.ofChange fnExactOrderByDeadlinesSpec)

/-- ITS FALSE NEIGHBOUR: 'it returns false'. Refute it at one input. -/
def fnExactOrderByDeadlinesWrong : ChangeSpec := { name := "fnExactOrderByDeadlines", fn := fun _ => fun
  | [d] => { results := [.lit (.bool false)], args := [d] }
  | _ => none }
def FnExactOrderByDeadlinesWrongFalsely : Prop := fnExactOrderByDeadlinesRow.holds Try.pinned (OpenSpec.ofChange fnExactOrderByDeadlinesWrong)

/-- 'laws.FnExactTurnsOfJobs': WHATEVER THE INPUT: true; the input reads as it did. -/
def fnExactTurnsOfJobsSpec : ChangeSpec := { name := "fnExactTurnsOfJobs", fn := fun _ => fun
  | [d] => { results := [.lit (.bool true)], args := [d] }
  | _ => none }
def fnExactTurnsOfJobsRow : OpenClaim := { program := "ytmmpoaphjjpjaaa", sum := "5099e8ea14d98fa4b366a81bd4f4d27f4d0072d66f21db5900652581a3adf4a7", func := "loop.example/g01404/laws.FnExactTurnsOfJobs", spec := "fnExactTurnsOfJobs", unfollowed := true, recurses := true, plainKeys := false, apart := false }
def FnExactTurnsOfJobsSaid : Prop := fnExactTurnsOfJobsRow.holds Try.pinned (OpenSpec.ofChange fnExactTurnsOfJobsSpec)

/-- ITS FALSE NEIGHBOUR: 'it returns false'. Refute it at one input. -/
def fnExactTurnsOfJobsWrong : ChangeSpec := { name := "fnExactTurnsOfJobs", fn := fun _ => fun
  | [d] => { results := [.lit (.bool false)], args := [d] }
  | _ => none }
def FnExactTurnsOfJobsWrongFalsely : Prop := fnExactTurnsOfJobsRow.holds Try.pinned (OpenSpec.ofChange fnExactTurnsOfJobsWrong)

/-- 'laws.FnExactJobsOfTasks': WHATEVER THE INPUT: true; the input reads as it did. -/
def fnExactJobsOfTasksSpec : ChangeSpec := { name := "fnExactJobsOfTasks", fn := fun _ => fun
  | [d] => { results := [.lit (.bool true)], args := [d] }
  | _ => none }
def fnExactJobsOfTasksRow : OpenClaim := { program := "ytmmpoaphjjpjaaa", sum := "5099e8ea14d98fa4b366a81bd4f4d27f4d0072d66f21db5900652581a3adf4a7", func := "loop.example/g01404/laws.FnExactJobsOfTasks", spec := "fnExactJobsOfTasks", unfollowed := true, recurses := true, plainKeys := false, apart := false }
def FnExactJobsOfTasksSaid : Prop := fnExactJobsOfTasksRow.holds Try.pinned (OpenSpec.ofChange fnExactJobsOfTasksSpec)

/-- ITS FALSE NEIGHBOUR: 'it returns false'. Refute it at one input. -/
def fnExactJobsOfTasksWrong : ChangeSpec := { name := "fnExactJobsOfTasks", fn := fun _ => fun
  | [d] => { results := [.lit (.bool false)], args := [d] }
  | _ => none }
def FnExactJobsOfTasksWrongFalsely : Prop := fnExactJobsOfTasksRow.holds Try.pinned (OpenSpec.ofChange fnExactJobsOfTasksWrong)

/-- 'laws.FnExactGapsOfTurns': WHATEVER THE INPUT: true; the input reads as it did. -/
def fnExactGapsOfTurnsSpec : ChangeSpec := { name := "fnExactGapsOfTurns", fn := fun _ => fun
  | [d] => { results := [.lit (.bool true)], args := [d] }
  | _ => none }
def fnExactGapsOfTurnsRow : OpenClaim := { program := "ytmmpoaphjjpjaaa", sum := "5099e8ea14d98fa4b366a81bd4f4d27f4d0072d66f21db5900652581a3adf4a7", func := "loop.example/g01404/laws.FnExactGapsOfTurns", spec := "fnExactGapsOfTurns", unfollowed := true, recurses := true, plainKeys := false, apart := false }
def FnExactGapsOfTurnsSaid : Prop := fnExactGapsOfTurnsRow.holds Try.pinned (OpenSpec.ofChange fnExactGapsOfTurnsSpec)

/-- ITS FALSE NEIGHBOUR: 'it returns false'. Refute it at one input. -/
def fnExactGapsOfTurnsWrong : ChangeSpec := { name := "fnExactGapsOfTurns", fn := fun _ => fun
  | [d] => { results := [.lit (.bool false)], args := [d] }
  | _ => none }
def FnExactGapsOfTurnsWrongFalsely : Prop := fnExactGapsOfTurnsRow.holds Try.pinned (OpenSpec.ofChange fnExactGapsOfTurnsWrong)

/- THE SECOND FORM. 'bulk': how many values and letters a reading holds, each counted each time it is reached (what is shared counts as often as it is met; a slice's spare places count too). A statement '..UptoSaid' is the law's where the arguments, and the package variables that the reading takes, are together of bulk at most 1048576: NARROWER than '..Said'. Prove '..Said' where nothing that the law and all that it calls make is longer than what came in: it says more and counts as full. Else prove '..UptoSaid'. A law counts once. -/
mutual
def uptoBulk {H : Type} : DataW H → Nat
  | .lit (.string bytes) => bytes.length + 1
  | .lit _ => 1
  | .nil => 1
  | .ptr d => uptoBulk d + 1
  | .slice elems spare => uptoBulkAll elems + uptoBulkAll spare + 1
  | .agg parts => uptoBulkAll parts + 1
  | .iface _ d => uptoBulk d + 1
  | .map entries => uptoBulkEntries entries + 1
  | .held _ => 1
def uptoBulkAll {H : Type} : List (DataW H) → Nat
  | [] => 0
  | d :: r => uptoBulk d + uptoBulkAll r
def uptoBulkEntries {H : Type} : List (Lit × DataW H) → Nat
  | [] => 0
  | x :: r => uptoBulkEntry x + uptoBulkEntries r
def uptoBulkEntry {H : Type} : Lit × DataW H → Nat
  | (.string bytes, d) => bytes.length + uptoBulk d + 1
  | (_, d) => uptoBulk d + 1
 end
def uptoSmall : (H : Type) → List (DataW H) → Bool := fun _ ds => decide (uptoBulkAll ds ≤ 1048576)
def OpenSpec.upto (s : _root_.Go.ChangeSpec) : _root_.Go.OpenSpec := { _root_.Go.OpenSpec.ofChange s with cond := some uptoSmall }

/-- 'laws.FnExactLeastPlay', WHERE WHAT IT READS IS OF BULK AT MOST 1048576: true; the input reads as it did. -/
def fnExactLeastPlayUptoRow : OpenClaim := { program := "ytmmpoaphjjpjaaa", sum := "5099e8ea14d98fa4b366a81bd4f4d27f4d0072d66f21db5900652581a3adf4a7", func := "loop.example/g01404/laws.FnExactLeastPlay", spec := "fnExactLeastPlay", unfollowed := true, recurses := true, plainKeys := false, apart := false, narrowed := true }
def FnExactLeastPlayUptoSaid : Prop := fnExactLeastPlayUptoRow.holds Try.pinned (OpenSpec.upto fnExactLeastPlaySpec)

/-- 'laws.FnExactFewestSlots', WHERE WHAT IT READS IS OF BULK AT MOST 1048576: true; the input reads as it did. -/
def fnExactFewestSlotsUptoRow : OpenClaim := { program := "ytmmpoaphjjpjaaa", sum := "5099e8ea14d98fa4b366a81bd4f4d27f4d0072d66f21db5900652581a3adf4a7", func := "loop.example/g01404/laws.FnExactFewestSlots", spec := "fnExactFewestSlots", unfollowed := true, recurses := true, plainKeys := false, apart := false, narrowed := true }
def FnExactFewestSlotsUptoSaid : Prop := fnExactFewestSlotsUptoRow.holds Try.pinned (OpenSpec.upto fnExactFewestSlotsSpec)

/-- 'laws.FnExactAreJobs', WHERE WHAT IT READS IS OF BULK AT MOST 1048576: true; the input reads as it did. -/
def fnExactAreJobsUptoRow : OpenClaim := { program := "ytmmpoaphjjpjaaa", sum := "5099e8ea14d98fa4b366a81bd4f4d27f4d0072d66f21db5900652581a3adf4a7", func := "loop.example/g01404/laws.FnExactAreJobs", spec := "fnExactAreJobs", unfollowed := true, recurses := true, plainKeys := false, apart := false, narrowed := true }
def FnExactAreJobsUptoSaid : Prop := fnExactAreJobsUptoRow.holds Try.pinned (OpenSpec.upto fnExactAreJobsSpec)

/-- 'laws.FnExactLoadOf', WHERE WHAT IT READS IS OF BULK AT MOST 1048576: true; the input reads as it did. -/
def fnExactLoadOfUptoRow : OpenClaim := { program := "ytmmpoaphjjpjaaa", sum := "5099e8ea14d98fa4b366a81bd4f4d27f4d0072d66f21db5900652581a3adf4a7", func := "loop.example/g01404/laws.FnExactLoadOf", spec := "fnExactLoadOf", unfollowed := true, recurses := true, plainKeys := false, apart := false, narrowed := true }
def FnExactLoadOfUptoSaid : Prop := fnExactLoadOfUptoRow.holds Try.pinned (OpenSpec.upto fnExactLoadOfSpec)

/-- 'laws.FnExactWholePeriod', WHERE WHAT IT READS IS OF BULK AT MOST 1048576: true; the input reads as it did. -/
def fnExactWholePeriodUptoRow : OpenClaim := { program := "ytmmpoaphjjpjaaa", sum := "5099e8ea14d98fa4b366a81bd4f4d27f4d0072d66f21db5900652581a3adf4a7", func := "loop.example/g01404/laws.FnExactWholePeriod", spec := "fnExactWholePeriod", unfollowed := true, recurses := true, plainKeys := false, apart := false, narrowed := true }
def FnExactWholePeriodUptoSaid : Prop := fnExactWholePeriodUptoRow.holds Try.pinned (OpenSpec.upto fnExactWholePeriodSpec)

/-- 'laws.FnExactDeadlineSlots', WHERE WHAT IT READS IS OF BULK AT MOST 1048576: true; the input reads as it did. -/
def fnExactDeadlineSlotsUptoRow : OpenClaim := { program := "ytmmpoaphjjpjaaa", sum := "5099e8ea14d98fa4b366a81bd4f4d27f4d0072d66f21db5900652581a3adf4a7", func := "loop.example/g01404/laws.FnExactDeadlineSlots", spec := "fnExactDeadlineSlots", unfollowed := true, recurses := true, plainKeys := false, apart := false, narrowed := true }
def FnExactDeadlineSlotsUptoSaid : Prop := fnExactDeadlineSlotsUptoRow.holds Try.pinned (OpenSpec.upto fnExactDeadlineSlotsSpec)

/-- 'laws.FnExactFirstLate', WHERE WHAT IT READS IS OF BULK AT MOST 1048576: true; the input reads as it did. -/
def fnExactFirstLateUptoRow : OpenClaim := { program := "ytmmpoaphjjpjaaa", sum := "5099e8ea14d98fa4b366a81bd4f4d27f4d0072d66f21db5900652581a3adf4a7", func := "loop.example/g01404/laws.FnExactFirstLate", spec := "fnExactFirstLate", unfollowed := true, recurses := true, plainKeys := false, apart := false, narrowed := true }
def FnExactFirstLateUptoSaid : Prop := fnExactFirstLateUptoRow.holds Try.pinned (OpenSpec.upto fnExactFirstLateSpec)

/-- 'laws.FnExactDemandUpTo', WHERE WHAT IT READS IS OF BULK AT MOST 1048576: true; the input reads as it did. -/
def fnExactDemandUpToUptoRow : OpenClaim := { program := "ytmmpoaphjjpjaaa", sum := "5099e8ea14d98fa4b366a81bd4f4d27f4d0072d66f21db5900652581a3adf4a7", func := "loop.example/g01404/laws.FnExactDemandUpTo", spec := "fnExactDemandUpTo", unfollowed := true, recurses := true, plainKeys := false, apart := false, narrowed := true }
def FnExactDemandUpToUptoSaid : Prop := fnExactDemandUpToUptoRow.holds Try.pinned (OpenSpec.upto fnExactDemandUpToSpec)

/-- 'laws.FnExactRoomOf', WHERE WHAT IT READS IS OF BULK AT MOST 1048576: true; the input reads as it did. -/
def fnExactRoomOfUptoRow : OpenClaim := { program := "ytmmpoaphjjpjaaa", sum := "5099e8ea14d98fa4b366a81bd4f4d27f4d0072d66f21db5900652581a3adf4a7", func := "loop.example/g01404/laws.FnExactRoomOf", spec := "fnExactRoomOf", unfollowed := true, recurses := true, plainKeys := false, apart := false, narrowed := true }
def FnExactRoomOfUptoSaid : Prop := fnExactRoomOfUptoRow.holds Try.pinned (OpenSpec.upto fnExactRoomOfSpec)

/-- 'laws.FnExactCanMeet', WHERE WHAT IT READS IS OF BULK AT MOST 1048576: true; the input reads as it did. -/
def fnExactCanMeetUptoRow : OpenClaim := { program := "ytmmpoaphjjpjaaa", sum := "5099e8ea14d98fa4b366a81bd4f4d27f4d0072d66f21db5900652581a3adf4a7", func := "loop.example/g01404/laws.FnExactCanMeet", spec := "fnExactCanMeet", unfollowed := true, recurses := true, plainKeys := false, apart := false, narrowed := true }
def FnExactCanMeetUptoSaid : Prop := fnExactCanMeetUptoRow.holds Try.pinned (OpenSpec.upto fnExactCanMeetSpec)

/-- 'laws.FnExactAnswersOf', WHERE WHAT IT READS IS OF BULK AT MOST 1048576: true; the input reads as it did. -/
def fnExactAnswersOfUptoRow : OpenClaim := { program := "ytmmpoaphjjpjaaa", sum := "5099e8ea14d98fa4b366a81bd4f4d27f4d0072d66f21db5900652581a3adf4a7", func := "loop.example/g01404/laws.FnExactAnswersOf", spec := "fnExactAnswersOf", unfollowed := true, recurses := true, plainKeys := false, apart := false, narrowed := true }
def FnExactAnswersOfUptoSaid : Prop := fnExactAnswersOfUptoRow.holds Try.pinned (OpenSpec.upto fnExactAnswersOfSpec)

/-- 'laws.FnExactOrderByDeadlines', WHERE WHAT IT READS IS OF BULK AT MOST 1048576: true; the input reads as it did. -/
def fnExactOrderByDeadlinesUptoRow : OpenClaim := { program := "ytmmpoaphjjpjaaa", sum := "5099e8ea14d98fa4b366a81bd4f4d27f4d0072d66f21db5900652581a3adf4a7", func := "loop.example/g01404/laws.FnExactOrderByDeadlines", spec := "fnExactOrderByDeadlines", unfollowed := true, recurses := true, plainKeys := false, apart := false, narrowed := true }
def FnExactOrderByDeadlinesUptoSaid : Prop := fnExactOrderByDeadlinesUptoRow.holds Try.pinned (OpenSpec.upto fnExactOrderByDeadlinesSpec)

/-- 'laws.FnExactTurnsOfJobs', WHERE WHAT IT READS IS OF BULK AT MOST 1048576: true; the input reads as it did. -/
def fnExactTurnsOfJobsUptoRow : OpenClaim := { program := "ytmmpoaphjjpjaaa", sum := "5099e8ea14d98fa4b366a81bd4f4d27f4d0072d66f21db5900652581a3adf4a7", func := "loop.example/g01404/laws.FnExactTurnsOfJobs", spec := "fnExactTurnsOfJobs", unfollowed := true, recurses := true, plainKeys := false, apart := false, narrowed := true }
def FnExactTurnsOfJobsUptoSaid : Prop := fnExactTurnsOfJobsUptoRow.holds Try.pinned (OpenSpec.upto fnExactTurnsOfJobsSpec)

/-- 'laws.FnExactJobsOfTasks', WHERE WHAT IT READS IS OF BULK AT MOST 1048576: true; the input reads as it did. -/
def fnExactJobsOfTasksUptoRow : OpenClaim := { program := "ytmmpoaphjjpjaaa", sum := "5099e8ea14d98fa4b366a81bd4f4d27f4d0072d66f21db5900652581a3adf4a7", func := "loop.example/g01404/laws.FnExactJobsOfTasks", spec := "fnExactJobsOfTasks", unfollowed := true, recurses := true, plainKeys := false, apart := false, narrowed := true }
def FnExactJobsOfTasksUptoSaid : Prop := fnExactJobsOfTasksUptoRow.holds Try.pinned (OpenSpec.upto fnExactJobsOfTasksSpec)

/-- 'laws.FnExactGapsOfTurns', WHERE WHAT IT READS IS OF BULK AT MOST 1048576: true; the input reads as it did. -/
def fnExactGapsOfTurnsUptoRow : OpenClaim := { program := "ytmmpoaphjjpjaaa", sum := "5099e8ea14d98fa4b366a81bd4f4d27f4d0072d66f21db5900652581a3adf4a7", func := "loop.example/g01404/laws.FnExactGapsOfTurns", spec := "fnExactGapsOfTurns", unfollowed := true, recurses := true, plainKeys := false, apart := false, narrowed := true }
def FnExactGapsOfTurnsUptoSaid : Prop := fnExactGapsOfTurnsUptoRow.holds Try.pinned (OpenSpec.upto fnExactGapsOfTurnsSpec)

end Rows
end Go.Proofs.Ytmmpoaphjjpjaaa
