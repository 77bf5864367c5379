/-
  No cell of these rows narrows 'for every input' (looked for: loops, veiled, ifaces, maps, wideKeys, modest, calm, conditions, laid).
  DERIVED. THE GIVEN ROWS OF THIS SEAT. 8 by the template 'for every input the law returns true; each argument reads behind the call as it read before'; 0 by the template 'total and deterministic' (their statements: YtjgkdjnpbocnjaaTotals.lean).
  GIVEN WITH THE SEED: the statements are not yours to turn. If you find one false, say at which input.
  Laid BY PROGRAM, IN A SANDBOX (cutbox-rows.mjs): the forced cells as the released guide's own fill.sh prints them over the translation 00190465bc1c69cf… (all of the seat's roots in one cut). By AI agents, Wed Nov 11 2026. No macro, syntax, notation, axiom, sorry.
-/
import Derived.Test.YtjgkdjnpbocnjaaChecked
import GoSem.Claim
import GoSem.ClaimJoined
import GoSem.ClaimMapViews
import Derived.JoinedTies
import Derived.KernelRfl
namespace Go.Proofs.Ytjgkdjnpbocnjaa
/- THE CELL 'sum', in the pinned program and in every row, IS THE sha256 OF THE DUMP (.gsa) THAT YtjgkdjnpbocnjaaProg.lean LOADS. Nothing in Lean hashes anything: it is a label: what it is worth is what the hold of that sum in a sandbox is worth. -/
noncomputable def Try.pinned : Pinned := { name := "ytjgkdjnpbocnjaa", sum := "00190465bc1c69cf269ceaa258bcc67b10e98b38d715f9759b1423fe7cd5aee2", checked := Try.checked }
namespace Rows
def none {H : Type} : Left H := { results := [], args := [] }

/-- 'laws.FnExactPeriodOf': WHATEVER THE INPUT: true; the input reads as it did. -/
def fnExactPeriodOfSpec : ChangeSpec := { name := "fnExactPeriodOf", fn := fun _ => fun
  | [d] => { results := [.lit (.bool true)], args := [d] }
  | _ => none }
def fnExactPeriodOfRow : OpenClaim := { program := "ytjgkdjnpbocnjaa", sum := "00190465bc1c69cf269ceaa258bcc67b10e98b38d715f9759b1423fe7cd5aee2", func := "loop.example/g01404/laws.FnExactPeriodOf", spec := "fnExactPeriodOf", inPlace := ["internal/abi.NoEscape"], unfollowed := true, recurses := true, plainKeys := false, apart := false }
def FnExactPeriodOfSaid : Prop := fnExactPeriodOfRow.holds Try.pinned (OpenSpec.ofChange fnExactPeriodOfSpec)

/-- ITS FALSE NEIGHBOUR: 'it returns false'. Refute it at one input. -/
def fnExactPeriodOfWrong : ChangeSpec := { name := "fnExactPeriodOf", fn := fun _ => fun
  | [d] => { results := [.lit (.bool false)], args := [d] }
  | _ => none }
def FnExactPeriodOfWrongFalsely : Prop := fnExactPeriodOfRow.holds Try.pinned (OpenSpec.ofChange fnExactPeriodOfWrong)

/-- 'laws.FnExactTurnsText': WHATEVER THE INPUT: true; the input reads as it did. -/
def fnExactTurnsTextSpec : ChangeSpec := { name := "fnExactTurnsText", fn := fun _ => fun
  | [d] => { results := [.lit (.bool true)], args := [d] }
  | _ => none }
def fnExactTurnsTextRow : OpenClaim := { program := "ytjgkdjnpbocnjaa", sum := "00190465bc1c69cf269ceaa258bcc67b10e98b38d715f9759b1423fe7cd5aee2", func := "loop.example/g01404/laws.FnExactTurnsText", spec := "fnExactTurnsText", inPlace := ["internal/abi.NoEscape"], unfollowed := true, recurses := true, plainKeys := false, apart := false }
def FnExactTurnsTextSaid : Prop := fnExactTurnsTextRow.holds Try.pinned (OpenSpec.ofChange fnExactTurnsTextSpec)

/-- ITS FALSE NEIGHBOUR: 'it returns false'. Refute it at one input. -/
def fnExactTurnsTextWrong : ChangeSpec := { name := "fnExactTurnsText", fn := fun _ => fun
  | [d] => { results := [.lit (.bool false)], args := [d] }
  | _ => none }
def FnExactTurnsTextWrongFalsely : Prop := fnExactTurnsTextRow.holds Try.pinned (OpenSpec.ofChange fnExactTurnsTextWrong)

/-- 'laws.FnExactParseTurns': WHATEVER THE INPUT: true; the input reads as it did. -/
def fnExactParseTurnsSpec : ChangeSpec := { name := "fnExactParseTurns", fn := fun _ => fun
  | [d] => { results := [.lit (.bool true)], args := [d] }
  | _ => none }
def fnExactParseTurnsRow : OpenClaim := { program := "ytjgkdjnpbocnjaa", sum := "00190465bc1c69cf269ceaa258bcc67b10e98b38d715f9759b1423fe7cd5aee2", func := "loop.example/g01404/laws.FnExactParseTurns", spec := "fnExactParseTurns", plainKeys := false, apart := false }
def FnExactParseTurnsSaid : Prop := fnExactParseTurnsRow.holds Try.pinned (OpenSpec.ofChange fnExactParseTurnsSpec)

/-- ITS FALSE NEIGHBOUR: 'it returns false'. Refute it at one input. -/
def fnExactParseTurnsWrong : ChangeSpec := { name := "fnExactParseTurns", fn := fun _ => fun
  | [d] => { results := [.lit (.bool false)], args := [d] }
  | _ => none }
def FnExactParseTurnsWrongFalsely : Prop := fnExactParseTurnsRow.holds Try.pinned (OpenSpec.ofChange fnExactParseTurnsWrong)

/-- 'laws.FnExactLeastPlay': WHATEVER THE INPUT: true; the input reads as it did. -/
def fnExactLeastPlaySpec : ChangeSpec := { name := "fnExactLeastPlay", fn := fun _ => fun
  | [d] => { results := [.lit (.bool true)], args := [d] }
  | _ => none }
def fnExactLeastPlayRow : OpenClaim := { program := "ytjgkdjnpbocnjaa", sum := "00190465bc1c69cf269ceaa258bcc67b10e98b38d715f9759b1423fe7cd5aee2", func := "loop.example/g01404/laws.FnExactLeastPlay", spec := "fnExactLeastPlay", unfollowed := true, recurses := true, plainKeys := false, apart := false }
def FnExactLeastPlaySaid : Prop := fnExactLeastPlayRow.holds Try.pinned (OpenSpec.ofChange fnExactLeastPlaySpec)

/-- ITS FALSE NEIGHBOUR: 'it returns false'. Refute it at one input. -/
def fnExactLeastPlayWrong : ChangeSpec := { name := "fnExactLeastPlay", fn := fun _ => fun
  | [d] => { results := [.lit (.bool false)], args := [d] }
  | _ => none }
def FnExactLeastPlayWrongFalsely : Prop := fnExactLeastPlayRow.holds Try.pinned (OpenSpec.ofChange fnExactLeastPlayWrong)

/-- 'laws.FnExactFewestSlots': WHATEVER THE INPUT: true; the input reads as it did. -/
def fnExactFewestSlotsSpec : ChangeSpec := { name := "fnExactFewestSlots", fn := fun _ => fun
  | [d] => { results := [.lit (.bool true)], args := [d] }
  | _ => none }
def fnExactFewestSlotsRow : OpenClaim := { program := "ytjgkdjnpbocnjaa", sum := "00190465bc1c69cf269ceaa258bcc67b10e98b38d715f9759b1423fe7cd5aee2", func := "loop.example/g01404/laws.FnExactFewestSlots", spec := "fnExactFewestSlots", unfollowed := true, recurses := true, plainKeys := false, apart := false }
def FnExactFewestSlotsSaid : Prop := fnExactFewestSlotsRow.holds Try.pinned (OpenSpec.ofChange fnExactFewestSlotsSpec)

/-- ITS FALSE NEIGHBOUR: 'it returns false'. Refute it at one input. -/
def fnExactFewestSlotsWrong : ChangeSpec := { name := "fnExactFewestSlots", fn := fun _ => fun
  | [d] => { results := [.lit (.bool false)], args := [d] }
  | _ => none }
def FnExactFewestSlotsWrongFalsely : Prop := fnExactFewestSlotsRow.holds Try.pinned (OpenSpec.ofChange fnExactFewestSlotsWrong)

/-- 'laws.FnExactHarmonicTurns': WHATEVER THE INPUT: true; the input reads as it did. -/
def fnExactHarmonicTurnsSpec : ChangeSpec := { name := "fnExactHarmonicTurns", fn := fun _ => fun
  | [d] => { results := [.lit (.bool true)], args := [d] }
  | _ => none }
def fnExactHarmonicTurnsRow : OpenClaim := { program := "ytjgkdjnpbocnjaa", sum := "00190465bc1c69cf269ceaa258bcc67b10e98b38d715f9759b1423fe7cd5aee2", func := "loop.example/g01404/laws.FnExactHarmonicTurns", spec := "fnExactHarmonicTurns", unfollowed := true, recurses := true, plainKeys := false, apart := false }
def FnExactHarmonicTurnsSaid : Prop := fnExactHarmonicTurnsRow.holds Try.pinned (OpenSpec.ofChange fnExactHarmonicTurnsSpec)

/-- ITS FALSE NEIGHBOUR: 'it returns false'. Refute it at one input. -/
def fnExactHarmonicTurnsWrong : ChangeSpec := { name := "fnExactHarmonicTurns", fn := fun _ => fun
  | [d] => { results := [.lit (.bool false)], args := [d] }
  | _ => none }
def FnExactHarmonicTurnsWrongFalsely : Prop := fnExactHarmonicTurnsRow.holds Try.pinned (OpenSpec.ofChange fnExactHarmonicTurnsWrong)

/-- 'laws.FnExactTurnsByPowers': WHATEVER THE INPUT: true; the input reads as it did. -/
def fnExactTurnsByPowersSpec : ChangeSpec := { name := "fnExactTurnsByPowers", fn := fun _ => fun
  | [d] => { results := [.lit (.bool true)], args := [d] }
  | _ => none }
def fnExactTurnsByPowersRow : OpenClaim := { program := "ytjgkdjnpbocnjaa", sum := "00190465bc1c69cf269ceaa258bcc67b10e98b38d715f9759b1423fe7cd5aee2", func := "loop.example/g01404/laws.FnExactTurnsByPowers", spec := "fnExactTurnsByPowers", unfollowed := true, recurses := true, plainKeys := false, apart := false }
def FnExactTurnsByPowersSaid : Prop := fnExactTurnsByPowersRow.holds Try.pinned (OpenSpec.ofChange fnExactTurnsByPowersSpec)

/-- ITS FALSE NEIGHBOUR: 'it returns false'. Refute it at one input. -/
def fnExactTurnsByPowersWrong : ChangeSpec := { name := "fnExactTurnsByPowers", fn := fun _ => fun
  | [d] => { results := [.lit (.bool false)], args := [d] }
  | _ => none }
def FnExactTurnsByPowersWrongFalsely : Prop := fnExactTurnsByPowersRow.holds Try.pinned (OpenSpec.ofChange fnExactTurnsByPowersWrong)

/-- 'laws.FnExactTurnsByOne': WHATEVER THE INPUT: true; the input reads as it did. -/
def fnExactTurnsByOneSpec : ChangeSpec := { name := "fnExactTurnsByOne", fn := fun _ => fun
  | [d] => { results := [.lit (.bool true)], args := [d] }
  | _ => none }
def fnExactTurnsByOneRow : OpenClaim := { program := "ytjgkdjnpbocnjaa", sum := "00190465bc1c69cf269ceaa258bcc67b10e98b38d715f9759b1423fe7cd5aee2", func := "loop.example/g01404/laws.FnExactTurnsByOne", spec := "fnExactTurnsByOne", unfollowed := true, recurses := true, plainKeys := false, apart := false }
def FnExactTurnsByOneSaid : Prop := fnExactTurnsByOneRow.holds Try.pinned (OpenSpec.ofChange fnExactTurnsByOneSpec)

/-- ITS FALSE NEIGHBOUR: 'it returns false'. Refute it at one input. -/
def fnExactTurnsByOneWrong : ChangeSpec := { name := "fnExactTurnsByOne", fn := fun _ => fun
  | [d] => { results := [.lit (.bool false)], args := [d] }
  | _ => none }
def FnExactTurnsByOneWrongFalsely : Prop := fnExactTurnsByOneRow.holds Try.pinned (OpenSpec.ofChange fnExactTurnsByOneWrong)

/- THE SECOND FORM. 'bulk': how many values and letters a reading holds, each counted each time it is reached (what is shared counts as often as it is met; a slice's spare places count too). A statement '..UptoSaid' is the law's where the arguments, and the package variables that the reading takes, are together of bulk at most 1048576: NARROWER than '..Said'. Prove '..Said' where nothing that the law and all that it calls make is longer than what came in: it says more and counts as full. Else prove '..UptoSaid'. A law counts once. -/
mutual
def uptoBulk {H : Type} : DataW H → Nat
  | .lit (.string bytes) => bytes.length + 1
  | .lit _ => 1
  | .nil => 1
  | .ptr d => uptoBulk d + 1
  | .slice elems spare => uptoBulkAll elems + uptoBulkAll spare + 1
  | .agg parts => uptoBulkAll parts + 1
  | .iface _ d => uptoBulk d + 1
  | .map entries => uptoBulkEntries entries + 1
  | .held _ => 1
def uptoBulkAll {H : Type} : List (DataW H) → Nat
  | [] => 0
  | d :: r => uptoBulk d + uptoBulkAll r
def uptoBulkEntries {H : Type} : List (Lit × DataW H) → Nat
  | [] => 0
  | x :: r => uptoBulkEntry x + uptoBulkEntries r
def uptoBulkEntry {H : Type} : Lit × DataW H → Nat
  | (.string bytes, d) => bytes.length + uptoBulk d + 1
  | (_, d) => uptoBulk d + 1
 end
def uptoSmall : (H : Type) → List (DataW H) → Bool := fun _ ds => decide (uptoBulkAll ds ≤ 1048576)
def OpenSpec.upto (s : _root_.Go.ChangeSpec) : _root_.Go.OpenSpec := { _root_.Go.OpenSpec.ofChange s with cond := some uptoSmall }

/-- 'laws.FnExactPeriodOf', WHERE WHAT IT READS IS OF BULK AT MOST 1048576: true; the input reads as it did. -/
def fnExactPeriodOfUptoRow : OpenClaim := { program := "ytjgkdjnpbocnjaa", sum := "00190465bc1c69cf269ceaa258bcc67b10e98b38d715f9759b1423fe7cd5aee2", func := "loop.example/g01404/laws.FnExactPeriodOf", spec := "fnExactPeriodOf", inPlace := ["internal/abi.NoEscape"], unfollowed := true, recurses := true, plainKeys := false, apart := false, narrowed := true }
def FnExactPeriodOfUptoSaid : Prop := fnExactPeriodOfUptoRow.holds Try.pinned (OpenSpec.upto fnExactPeriodOfSpec)

/-- 'laws.FnExactTurnsText', WHERE WHAT IT READS IS OF BULK AT MOST 1048576: true; the input reads as it did. -/
def fnExactTurnsTextUptoRow : OpenClaim := { program := "ytjgkdjnpbocnjaa", sum := "00190465bc1c69cf269ceaa258bcc67b10e98b38d715f9759b1423fe7cd5aee2", func := "loop.example/g01404/laws.FnExactTurnsText", spec := "fnExactTurnsText", inPlace := ["internal/abi.NoEscape"], unfollowed := true, recurses := true, plainKeys := false, apart := false, narrowed := true }
def FnExactTurnsTextUptoSaid : Prop := fnExactTurnsTextUptoRow.holds Try.pinned (OpenSpec.upto fnExactTurnsTextSpec)

/-- 'laws.FnExactParseTurns', WHERE WHAT IT READS IS OF BULK AT MOST 1048576: true; the input reads as it did. -/
def fnExactParseTurnsUptoRow : OpenClaim := { program := "ytjgkdjnpbocnjaa", sum := "00190465bc1c69cf269ceaa258bcc67b10e98b38d715f9759b1423fe7cd5aee2", func := "loop.example/g01404/laws.FnExactParseTurns", spec := "fnExactParseTurns", plainKeys := false, apart := false, narrowed := true }
def FnExactParseTurnsUptoSaid : Prop := fnExactParseTurnsUptoRow.holds Try.pinned (OpenSpec.upto fnExactParseTurnsSpec)

/-- 'laws.FnExactLeastPlay', WHERE WHAT IT READS IS OF BULK AT MOST 1048576: true; the input reads as it did. -/
def fnExactLeastPlayUptoRow : OpenClaim := { program := "ytjgkdjnpbocnjaa", sum := "00190465bc1c69cf269ceaa258bcc67b10e98b38d715f9759b1423fe7cd5aee2", func := "loop.example/g01404/laws.FnExactLeastPlay", spec := "fnExactLeastPlay", unfollowed := true, recurses := true, plainKeys := false, apart := false, narrowed := true }
def FnExactLeastPlayUptoSaid : Prop := fnExactLeastPlayUptoRow.holds Try.pinned (OpenSpec.upto fnExactLeastPlaySpec)

/-- 'laws.FnExactFewestSlots', WHERE WHAT IT READS IS OF BULK AT MOST 1048576: true; the input reads as it did. -/
def fnExactFewestSlotsUptoRow : OpenClaim := { program := "ytjgkdjnpbocnjaa", sum := "00190465bc1c69cf269ceaa258bcc67b10e98b38d715f9759b1423fe7cd5aee2", func := "loop.example/g01404/laws.FnExactFewestSlots", spec := "fnExactFewestSlots", unfollowed := true, recurses := true, plainKeys := false, apart := false, narrowed := true }
def FnExactFewestSlotsUptoSaid : Prop := fnExactFewestSlotsUptoRow.holds Try.pinned (OpenSpec.upto fnExactFewestSlotsSpec)

/-- 'laws.FnExactHarmonicTurns', WHERE WHAT IT READS IS OF BULK AT MOST 1048576: true; the input reads as it did. -/
def fnExactHarmonicTurnsUptoRow : OpenClaim := { program := "ytjgkdjnpbocnjaa", sum := "00190465bc1c69cf269ceaa258bcc67b10e98b38d715f9759b1423fe7cd5aee2", func := "loop.example/g01404/laws.FnExactHarmonicTurns", spec := "fnExactHarmonicTurns", unfollowed := true, recurses := true, plainKeys := false, apart := false, narrowed := true }
def FnExactHarmonicTurnsUptoSaid : Prop := fnExactHarmonicTurnsUptoRow.holds Try.pinned (OpenSpec.upto fnExactHarmonicTurnsSpec)

/-- 'laws.FnExactTurnsByPowers', WHERE WHAT IT READS IS OF BULK AT MOST 1048576: true; the input reads as it did. -/
def fnExactTurnsByPowersUptoRow : OpenClaim := { program := "ytjgkdjnpbocnjaa", sum := "00190465bc1c69cf269ceaa258bcc67b10e98b38d715f9759b1423fe7cd5aee2", func := "loop.example/g01404/laws.FnExactTurnsByPowers", spec := "fnExactTurnsByPowers", unfollowed := true, recurses := true, plainKeys := false, apart := false, narrowed := true }
def FnExactTurnsByPowersUptoSaid : Prop := fnExactTurnsByPowersUptoRow.holds Try.pinned (OpenSpec.upto fnExactTurnsByPowersSpec)

/-- 'laws.FnExactTurnsByOne', WHERE WHAT IT READS IS OF BULK AT MOST 1048576: true; the input reads as it did. -/
def fnExactTurnsByOneUptoRow : OpenClaim := { program := "ytjgkdjnpbocnjaa", sum := "00190465bc1c69cf269ceaa258bcc67b10e98b38d715f9759b1423fe7cd5aee2", func := "loop.example/g01404/laws.FnExactTurnsByOne", spec := "fnExactTurnsByOne", unfollowed := true, recurses := true, plainKeys := false, apart := false, narrowed := true }
def FnExactTurnsByOneUptoSaid : Prop := fnExactTurnsByOneUptoRow.holds Try.pinned (OpenSpec.upto fnExactTurnsByOneSpec)

end Rows
end Go.Proofs.Ytjgkdjnpbocnjaa
