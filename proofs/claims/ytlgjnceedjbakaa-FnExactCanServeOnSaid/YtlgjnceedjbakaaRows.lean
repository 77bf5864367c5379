/-
  No cell of these rows narrows 'for every input' (looked for: loops, veiled, ifaces, maps, wideKeys, modest, calm, conditions, laid).
  DERIVED. THE GIVEN ROWS OF THIS SEAT. 10 by the template 'for every input the law returns true; each argument reads behind the call as it read before'; 0 by the template 'total and deterministic' (their statements: YtlgjnceedjbakaaTotals.lean).
  GIVEN WITH THE SEED: the statements are not yours to turn. If you find one false, say at which input.
  Laid BY PROGRAM, IN A SANDBOX (cutbox-rows.mjs): the forced cells as the released guide's own fill.sh prints them over the translation 2e752e01a91c03cc… (all of the seat's roots in one cut). By AI agents, Wed Nov 11 2026. No macro, syntax, notation, axiom, sorry.
-/
import Derived.Test.YtlgjnceedjbakaaChecked
import GoSem.Claim
import GoSem.ClaimJoined
import GoSem.ClaimMapViews
import Derived.JoinedTies
import Derived.KernelRfl
namespace Go.Proofs.Ytlgjnceedjbakaa
/- THE CELL 'sum', in the pinned program and in every row, IS THE sha256 OF THE DUMP (.gsa) THAT YtlgjnceedjbakaaProg.lean LOADS. Nothing in Lean hashes anything: it is a label: what it is worth is what the hold of that sum in a sandbox is worth. -/
noncomputable def Try.pinned : Pinned := { name := "ytlgjnceedjbakaa", sum := "2e752e01a91c03cc3eb8884978747c93e82675c525f24a03e6a42101f728b643", checked := Try.checked }
namespace Rows
def none {H : Type} : Left H := { results := [], args := [] }

/-- 'laws.FnExactAreNatural': WHATEVER THE INPUT: true; the input reads as it did. -/
def fnExactAreNaturalSpec : ChangeSpec := { name := "fnExactAreNatural", fn := fun _ => fun
  | [d] => { results := [.lit (.bool true)], args := [d] }
  | _ => none }
def fnExactAreNaturalRow : OpenClaim := { program := "ytlgjnceedjbakaa", sum := "2e752e01a91c03cc3eb8884978747c93e82675c525f24a03e6a42101f728b643", func := "loop.example/g01404/laws.FnExactAreNatural", spec := "fnExactAreNatural", recurses := true, plainKeys := false, apart := false }
def FnExactAreNaturalSaid : Prop := fnExactAreNaturalRow.holds Try.pinned (OpenSpec.ofChange fnExactAreNaturalSpec)

/-- ITS FALSE NEIGHBOUR: 'it returns false'. Refute it at one input. -/
def fnExactAreNaturalWrong : ChangeSpec := { name := "fnExactAreNatural", fn := fun _ => fun
  | [d] => { results := [.lit (.bool false)], args := [d] }
  | _ => none }
def FnExactAreNaturalWrongFalsely : Prop := fnExactAreNaturalRow.holds Try.pinned (OpenSpec.ofChange fnExactAreNaturalWrong)

/-- 'laws.FnExactAreChannels': WHATEVER THE INPUT: true; the input reads as it did. -/
def fnExactAreChannelsSpec : ChangeSpec := { name := "fnExactAreChannels", fn := fun _ => fun
  | [d1, d2] => { results := [.lit (.bool true)], args := [d1, d2] }
  | _ => none }
def fnExactAreChannelsRow : OpenClaim := { program := "ytlgjnceedjbakaa", sum := "2e752e01a91c03cc3eb8884978747c93e82675c525f24a03e6a42101f728b643", func := "loop.example/g01404/laws.FnExactAreChannels", spec := "fnExactAreChannels", unfollowed := true, recurses := true, plainKeys := false, apart := false }
def FnExactAreChannelsSaid : Prop := fnExactAreChannelsRow.holds Try.pinned (OpenSpec.ofChange fnExactAreChannelsSpec)

/-- ITS FALSE NEIGHBOUR: 'it returns false'. Refute it at one input. -/
def fnExactAreChannelsWrong : ChangeSpec := { name := "fnExactAreChannels", fn := fun _ => fun
  | [d1, d2] => { results := [.lit (.bool false)], args := [d1, d2] }
  | _ => none }
def FnExactAreChannelsWrongFalsely : Prop := fnExactAreChannelsRow.holds Try.pinned (OpenSpec.ofChange fnExactAreChannelsWrong)

/-- 'laws.FnExactClashesOf': WHATEVER THE INPUT: true; the input reads as it did. -/
def fnExactClashesOfSpec : ChangeSpec := { name := "fnExactClashesOf", fn := fun _ => fun
  | [d1, d2] => { results := [.lit (.bool true)], args := [d1, d2] }
  | _ => none }
def fnExactClashesOfRow : OpenClaim := { program := "ytlgjnceedjbakaa", sum := "2e752e01a91c03cc3eb8884978747c93e82675c525f24a03e6a42101f728b643", func := "loop.example/g01404/laws.FnExactClashesOf", spec := "fnExactClashesOf", unfollowed := true, recurses := true, plainKeys := false, apart := false }
def FnExactClashesOfSaid : Prop := fnExactClashesOfRow.holds Try.pinned (OpenSpec.ofChange fnExactClashesOfSpec)

/-- ITS FALSE NEIGHBOUR: 'it returns false'. Refute it at one input. -/
def fnExactClashesOfWrong : ChangeSpec := { name := "fnExactClashesOf", fn := fun _ => fun
  | [d1, d2] => { results := [.lit (.bool false)], args := [d1, d2] }
  | _ => none }
def FnExactClashesOfWrongFalsely : Prop := fnExactClashesOfRow.holds Try.pinned (OpenSpec.ofChange fnExactClashesOfWrong)

/-- 'laws.FnExactServeTogether': WHATEVER THE INPUT: true; the input reads as it did. -/
def fnExactServeTogetherSpec : ChangeSpec := { name := "fnExactServeTogether", fn := fun _ => fun
  | [d1, d2] => { results := [.lit (.bool true)], args := [d1, d2] }
  | _ => none }
def fnExactServeTogetherRow : OpenClaim := { program := "ytlgjnceedjbakaa", sum := "2e752e01a91c03cc3eb8884978747c93e82675c525f24a03e6a42101f728b643", func := "loop.example/g01404/laws.FnExactServeTogether", spec := "fnExactServeTogether", unfollowed := true, recurses := true, plainKeys := false, apart := false }
def FnExactServeTogetherSaid : Prop := fnExactServeTogetherRow.holds Try.pinned (OpenSpec.ofChange fnExactServeTogetherSpec)

/-- ITS FALSE NEIGHBOUR: 'it returns false'. Refute it at one input. -/
def fnExactServeTogetherWrong : ChangeSpec := { name := "fnExactServeTogether", fn := fun _ => fun
  | [d1, d2] => { results := [.lit (.bool false)], args := [d1, d2] }
  | _ => none }
def FnExactServeTogetherWrongFalsely : Prop := fnExactServeTogetherRow.holds Try.pinned (OpenSpec.ofChange fnExactServeTogetherWrong)

/-- 'laws.FnExactWaitsTogether': WHATEVER THE INPUT: true; the input reads as it did. -/
def fnExactWaitsTogetherSpec : ChangeSpec := { name := "fnExactWaitsTogether", fn := fun _ => fun
  | [d1, d2, d3] => { results := [.lit (.bool true)], args := [d1, d2, d3] }
  | _ => none }
def fnExactWaitsTogetherRow : OpenClaim := { program := "ytlgjnceedjbakaa", sum := "2e752e01a91c03cc3eb8884978747c93e82675c525f24a03e6a42101f728b643", func := "loop.example/g01404/laws.FnExactWaitsTogether", spec := "fnExactWaitsTogether", unfollowed := true, recurses := true, plainKeys := false, apart := false }
def FnExactWaitsTogetherSaid : Prop := fnExactWaitsTogetherRow.holds Try.pinned (OpenSpec.ofChange fnExactWaitsTogetherSpec)

/-- ITS FALSE NEIGHBOUR: 'it returns false'. Refute it at one input. -/
def fnExactWaitsTogetherWrong : ChangeSpec := { name := "fnExactWaitsTogether", fn := fun _ => fun
  | [d1, d2, d3] => { results := [.lit (.bool false)], args := [d1, d2, d3] }
  | _ => none }
def FnExactWaitsTogetherWrongFalsely : Prop := fnExactWaitsTogetherRow.holds Try.pinned (OpenSpec.ofChange fnExactWaitsTogetherWrong)

/-- 'laws.FnExactHandOvers': WHATEVER THE INPUT: true; the input reads as it did. -/
def fnExactHandOversSpec : ChangeSpec := { name := "fnExactHandOvers", fn := fun _ => fun
  | [d1, d2, d3] => { results := [.lit (.bool true)], args := [d1, d2, d3] }
  | _ => none }
def fnExactHandOversRow : OpenClaim := { program := "ytlgjnceedjbakaa", sum := "2e752e01a91c03cc3eb8884978747c93e82675c525f24a03e6a42101f728b643", func := "loop.example/g01404/laws.FnExactHandOvers", spec := "fnExactHandOvers", unfollowed := true, recurses := true, plainKeys := false, apart := false }
def FnExactHandOversSaid : Prop := fnExactHandOversRow.holds Try.pinned (OpenSpec.ofChange fnExactHandOversSpec)

/-- ITS FALSE NEIGHBOUR: 'it returns false'. Refute it at one input. -/
def fnExactHandOversWrong : ChangeSpec := { name := "fnExactHandOvers", fn := fun _ => fun
  | [d1, d2, d3] => { results := [.lit (.bool false)], args := [d1, d2, d3] }
  | _ => none }
def FnExactHandOversWrongFalsely : Prop := fnExactHandOversRow.holds Try.pinned (OpenSpec.ofChange fnExactHandOversWrong)

/-- 'laws.FnExactCanServeOn': WHATEVER THE INPUT: true; the input reads as it did. -/
def fnExactCanServeOnSpec : ChangeSpec := { name := "fnExactCanServeOn", fn := fun _ => fun
  | [d1, d2] => { results := [.lit (.bool true)], args := [d1, d2] }
  | _ => none }
def fnExactCanServeOnRow : OpenClaim := { program := "ytlgjnceedjbakaa", sum := "2e752e01a91c03cc3eb8884978747c93e82675c525f24a03e6a42101f728b643", func := "loop.example/g01404/laws.FnExactCanServeOn", spec := "fnExactCanServeOn", unfollowed := true, recurses := true, plainKeys := false, apart := false }
def FnExactCanServeOnSaid : Prop := fnExactCanServeOnRow.holds Try.pinned (OpenSpec.ofChange fnExactCanServeOnSpec)

/-- ITS FALSE NEIGHBOUR: 'it returns false'. Refute it at one input. -/
def fnExactCanServeOnWrong : ChangeSpec := { name := "fnExactCanServeOn", fn := fun _ => fun
  | [d1, d2] => { results := [.lit (.bool false)], args := [d1, d2] }
  | _ => none }
def FnExactCanServeOnWrongFalsely : Prop := fnExactCanServeOnRow.holds Try.pinned (OpenSpec.ofChange fnExactCanServeOnWrong)

/-- 'laws.FnExactLeastPlayOn': WHATEVER THE INPUT: true; the input reads as it did. -/
def fnExactLeastPlayOnSpec : ChangeSpec := { name := "fnExactLeastPlayOn", fn := fun _ => fun
  | [d1, d2] => { results := [.lit (.bool true)], args := [d1, d2] }
  | _ => none }
def fnExactLeastPlayOnRow : OpenClaim := { program := "ytlgjnceedjbakaa", sum := "2e752e01a91c03cc3eb8884978747c93e82675c525f24a03e6a42101f728b643", func := "loop.example/g01404/laws.FnExactLeastPlayOn", spec := "fnExactLeastPlayOn", unfollowed := true, recurses := true, plainKeys := false, apart := false }
def FnExactLeastPlayOnSaid : Prop := fnExactLeastPlayOnRow.holds Try.pinned (OpenSpec.ofChange fnExactLeastPlayOnSpec)

/-- ITS FALSE NEIGHBOUR: 'it returns false'. Refute it at one input. -/
def fnExactLeastPlayOnWrong : ChangeSpec := { name := "fnExactLeastPlayOn", fn := fun _ => fun
  | [d1, d2] => { results := [.lit (.bool false)], args := [d1, d2] }
  | _ => none }
def FnExactLeastPlayOnWrongFalsely : Prop := fnExactLeastPlayOnRow.holds Try.pinned (OpenSpec.ofChange fnExactLeastPlayOnWrong)

/-- 'laws.FnExactFirstSplit': WHATEVER THE INPUT: true; the input reads as it did. -/
def fnExactFirstSplitSpec : ChangeSpec := { name := "fnExactFirstSplit", fn := fun _ => fun
  | [d1, d2] => { results := [.lit (.bool true)], args := [d1, d2] }
  | _ => none }
def fnExactFirstSplitRow : OpenClaim := { program := "ytlgjnceedjbakaa", sum := "2e752e01a91c03cc3eb8884978747c93e82675c525f24a03e6a42101f728b643", func := "loop.example/g01404/laws.FnExactFirstSplit", spec := "fnExactFirstSplit", unfollowed := true, recurses := true, plainKeys := false, apart := false }
def FnExactFirstSplitSaid : Prop := fnExactFirstSplitRow.holds Try.pinned (OpenSpec.ofChange fnExactFirstSplitSpec)

/-- ITS FALSE NEIGHBOUR: 'it returns false'. Refute it at one input. -/
def fnExactFirstSplitWrong : ChangeSpec := { name := "fnExactFirstSplit", fn := fun _ => fun
  | [d1, d2] => { results := [.lit (.bool false)], args := [d1, d2] }
  | _ => none }
def FnExactFirstSplitWrongFalsely : Prop := fnExactFirstSplitRow.holds Try.pinned (OpenSpec.ofChange fnExactFirstSplitWrong)

/-- 'laws.FnExactPutSets': WHATEVER THE INPUT: true; the input reads as it did. -/
def fnExactPutSetsSpec : ChangeSpec := { name := "fnExactPutSets", fn := fun _ => fun
  | [d1, d2, d3] => { results := [.lit (.bool true)], args := [d1, d2, d3] }
  | _ => none }
def fnExactPutSetsRow : OpenClaim := { program := "ytlgjnceedjbakaa", sum := "2e752e01a91c03cc3eb8884978747c93e82675c525f24a03e6a42101f728b643", func := "loop.example/g01404/laws.FnExactPutSets", spec := "fnExactPutSets", unfollowed := true, recurses := true, plainKeys := false, apart := false }
def FnExactPutSetsSaid : Prop := fnExactPutSetsRow.holds Try.pinned (OpenSpec.ofChange fnExactPutSetsSpec)

/-- ITS FALSE NEIGHBOUR: 'it returns false'. Refute it at one input. -/
def fnExactPutSetsWrong : ChangeSpec := { name := "fnExactPutSets", fn := fun _ => fun
  | [d1, d2, d3] => { results := [.lit (.bool false)], args := [d1, d2, d3] }
  | _ => none }
def FnExactPutSetsWrongFalsely : Prop := fnExactPutSetsRow.holds Try.pinned (OpenSpec.ofChange fnExactPutSetsWrong)

/- THE SECOND FORM. 'bulk': how many values and letters a reading holds, each counted each time it is reached (what is shared counts as often as it is met; a slice's spare places count too). A statement '..UptoSaid' is the law's where the arguments, and the package variables that the reading takes, are together of bulk at most 1048576: NARROWER than '..Said'. Prove '..Said' where nothing that the law and all that it calls make is longer than what came in: it says more and counts as full. Else prove '..UptoSaid'. A law counts once. -/
mutual
def uptoBulk {H : Type} : DataW H → Nat
  | .lit (.string bytes) => bytes.length + 1
  | .lit _ => 1
  | .nil => 1
  | .ptr d => uptoBulk d + 1
  | .slice elems spare => uptoBulkAll elems + uptoBulkAll spare + 1
  | .agg parts => uptoBulkAll parts + 1
  | .iface _ d => uptoBulk d + 1
  | .map entries => uptoBulkEntries entries + 1
  | .held _ => 1
def uptoBulkAll {H : Type} : List (DataW H) → Nat
  | [] => 0
  | d :: r => uptoBulk d + uptoBulkAll r
def uptoBulkEntries {H : Type} : List (Lit × DataW H) → Nat
  | [] => 0
  | x :: r => uptoBulkEntry x + uptoBulkEntries r
def uptoBulkEntry {H : Type} : Lit × DataW H → Nat
  | (.string bytes, d) => bytes.length + uptoBulk d + 1
  | (_, d) => uptoBulk d + 1
 end
def uptoSmall : (H : Type) → List (DataW H) → Bool := fun _ ds => decide (uptoBulkAll ds ≤ 1048576)
def OpenSpec.upto (s : _root_.Go.ChangeSpec) : _root_.Go.OpenSpec := { _root_.Go.OpenSpec.ofChange s with cond := some uptoSmall }

/-- 'laws.FnExactAreNatural', WHERE WHAT IT READS IS OF BULK AT MOST 1048576: true; the input reads as it did. -/
def fnExactAreNaturalUptoRow : OpenClaim := { program := "ytlgjnceedjbakaa", sum := "2e752e01a91c03cc3eb8884978747c93e82675c525f24a03e6a42101f728b643", func := "loop.example/g01404/laws.FnExactAreNatural", spec := "fnExactAreNatural", recurses := true, plainKeys := false, apart := false, narrowed := true }
def FnExactAreNaturalUptoSaid : Prop := fnExactAreNaturalUptoRow.holds Try.pinned (OpenSpec.upto fnExactAreNaturalSpec)

/-- 'laws.FnExactAreChannels', WHERE WHAT IT READS IS OF BULK AT MOST 1048576: true; the input reads as it did. -/
def fnExactAreChannelsUptoRow : OpenClaim := { program := "ytlgjnceedjbakaa", sum := "2e752e01a91c03cc3eb8884978747c93e82675c525f24a03e6a42101f728b643", func := "loop.example/g01404/laws.FnExactAreChannels", spec := "fnExactAreChannels", unfollowed := true, recurses := true, plainKeys := false, apart := false, narrowed := true }
def FnExactAreChannelsUptoSaid : Prop := fnExactAreChannelsUptoRow.holds Try.pinned (OpenSpec.upto fnExactAreChannelsSpec)

/-- 'laws.FnExactClashesOf', WHERE WHAT IT READS IS OF BULK AT MOST 1048576: true; the input reads as it did. -/
def fnExactClashesOfUptoRow : OpenClaim := { program := "ytlgjnceedjbakaa", sum := "2e752e01a91c03cc3eb8884978747c93e82675c525f24a03e6a42101f728b643", func := "loop.example/g01404/laws.FnExactClashesOf", spec := "fnExactClashesOf", unfollowed := true, recurses := true, plainKeys := false, apart := false, narrowed := true }
def FnExactClashesOfUptoSaid : Prop := fnExactClashesOfUptoRow.holds Try.pinned (OpenSpec.upto fnExactClashesOfSpec)

/-- 'laws.FnExactServeTogether', WHERE WHAT IT READS IS OF BULK AT MOST 1048576: true; the input reads as it did. -/
def fnExactServeTogetherUptoRow : OpenClaim := { program := "ytlgjnceedjbakaa", sum := "2e752e01a91c03cc3eb8884978747c93e82675c525f24a03e6a42101f728b643", func := "loop.example/g01404/laws.FnExactServeTogether", spec := "fnExactServeTogether", unfollowed := true, recurses := true, plainKeys := false, apart := false, narrowed := true }
def FnExactServeTogetherUptoSaid : Prop := fnExactServeTogetherUptoRow.holds Try.pinned (OpenSpec.upto fnExactServeTogetherSpec)

/-- 'laws.FnExactWaitsTogether', WHERE WHAT IT READS IS OF BULK AT MOST 1048576: true; the input reads as it did. -/
def fnExactWaitsTogetherUptoRow : OpenClaim := { program := "ytlgjnceedjbakaa", sum := "2e752e01a91c03cc3eb8884978747c93e82675c525f24a03e6a42101f728b643", func := "loop.example/g01404/laws.FnExactWaitsTogether", spec := "fnExactWaitsTogether", unfollowed := true, recurses := true, plainKeys := false, apart := false, narrowed := true }
def FnExactWaitsTogetherUptoSaid : Prop := fnExactWaitsTogetherUptoRow.holds Try.pinned (OpenSpec.upto fnExactWaitsTogetherSpec)

/-- 'laws.FnExactHandOvers', WHERE WHAT IT READS IS OF BULK AT MOST 1048576: true; the input reads as it did. -/
def fnExactHandOversUptoRow : OpenClaim := { program := "ytlgjnceedjbakaa", sum := "2e752e01a91c03cc3eb8884978747c93e82675c525f24a03e6a42101f728b643", func := "loop.example/g01404/laws.FnExactHandOvers", spec := "fnExactHandOvers", unfollowed := true, recurses := true, plainKeys := false, apart := false, narrowed := true }
def FnExactHandOversUptoSaid : Prop := fnExactHandOversUptoRow.holds Try.pinned (OpenSpec.upto fnExactHandOversSpec)

/-- 'laws.FnExactCanServeOn', WHERE WHAT IT READS IS OF BULK AT MOST 1048576: true; the input reads as it did. -/
def fnExactCanServeOnUptoRow : OpenClaim := { program := "ytlgjnceedjbakaa", sum := "2e752e01a91c03cc3eb8884978747c93e82675c525f24a03e6a42101f728b643", func := "loop.example/g01404/laws.FnExactCanServeOn", spec := "fnExactCanServeOn", unfollowed := true, recurses := true, plainKeys := false, apart := false, narrowed := true }
def FnExactCanServeOnUptoSaid : Prop := fnExactCanServeOnUptoRow.holds Try.pinned (OpenSpec.upto fnExactCanServeOnSpec)

/-- 'laws.FnExactLeastPlayOn', WHERE WHAT IT READS IS OF BULK AT MOST 1048576: true; the input reads as it did. -/
def fnExactLeastPlayOnUptoRow : OpenClaim := { program := "ytlgjnceedjbakaa", sum := "2e752e01a91c03cc3eb8884978747c93e82675c525f24a03e6a42101f728b643", func := "loop.example/g01404/laws.FnExactLeastPlayOn", spec := "fnExactLeastPlayOn", unfollowed := true, recurses := true, plainKeys := false, apart := false, narrowed := true }
def FnExactLeastPlayOnUptoSaid : Prop := fnExactLeastPlayOnUptoRow.holds Try.pinned (OpenSpec.upto fnExactLeastPlayOnSpec)

/-- 'laws.FnExactFirstSplit', WHERE WHAT IT READS IS OF BULK AT MOST 1048576: true; the input reads as it did. -/
def fnExactFirstSplitUptoRow : OpenClaim := { program := "ytlgjnceedjbakaa", sum := "2e752e01a91c03cc3eb8884978747c93e82675c525f24a03e6a42101f728b643", func := "loop.example/g01404/laws.FnExactFirstSplit", spec := "fnExactFirstSplit", unfollowed := true, recurses := true, plainKeys := false, apart := false, narrowed := true }
def FnExactFirstSplitUptoSaid : Prop := fnExactFirstSplitUptoRow.holds Try.pinned (OpenSpec.upto fnExactFirstSplitSpec)

/-- 'laws.FnExactPutSets', WHERE WHAT IT READS IS OF BULK AT MOST 1048576: true; the input reads as it did. -/
def fnExactPutSetsUptoRow : OpenClaim := { program := "ytlgjnceedjbakaa", sum := "2e752e01a91c03cc3eb8884978747c93e82675c525f24a03e6a42101f728b643", func := "loop.example/g01404/laws.FnExactPutSets", spec := "fnExactPutSets", unfollowed := true, recurses := true, plainKeys := false, apart := false, narrowed := true }
def FnExactPutSetsUptoSaid : Prop := fnExactPutSetsUptoRow.holds Try.pinned (OpenSpec.upto fnExactPutSetsSpec)

end Rows
end Go.Proofs.Ytlgjnceedjbakaa
