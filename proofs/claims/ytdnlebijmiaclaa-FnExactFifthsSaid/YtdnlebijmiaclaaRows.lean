/-
  No cell of these rows narrows 'for every input' (looked for: loops, veiled, ifaces, maps, wideKeys, modest, calm, conditions, laid).
  DERIVED. THE GIVEN ROWS OF THIS SEAT. 15 by the template 'for every input the law returns true; each argument reads behind the call as it read before'; 0 by the template 'total and deterministic' (their statements: YtdnlebijmiaclaaTotals.lean).
  GIVEN WITH THE SEED: the statements are not yours to turn. If you find one false, say at which input.
  Laid BY PROGRAM, IN A SANDBOX (cutbox-rows.mjs): the forced cells as the released guide's own fill.sh prints them over the translation 71c2e026ad73040d… (all of the seat's roots in one cut). By AI agents, Wed Nov 11 2026. No macro, syntax, notation, axiom, sorry.
-/
import Derived.Test.YtdnlebijmiaclaaChecked
import GoSem.Claim
import GoSem.ClaimJoined
import GoSem.ClaimMapViews
import Derived.JoinedTies
import Derived.KernelRfl
namespace Go.Proofs.Ytdnlebijmiaclaa
/- THE CELL 'sum', in the pinned program and in every row, IS THE sha256 OF THE DUMP (.gsa) THAT YtdnlebijmiaclaaProg.lean LOADS. Nothing in Lean hashes anything: it is a label: what it is worth is what the hold of that sum in a sandbox is worth. -/
noncomputable def Try.pinned : Pinned := { name := "ytdnlebijmiaclaa", sum := "71c2e026ad73040dfbb9f00121df225bd0c21be6eb6228186420de307269cb21", checked := Try.checked }
namespace Rows
def none {H : Type} : Left H := { results := [], args := [] }

/-- 'laws.FnGroup': WHATEVER THE INPUT: true; the input reads as it did. -/
def fnGroupSpec : ChangeSpec := { name := "fnGroup", fn := fun _ => fun
  | [d] => { results := [.lit (.bool true)], args := [d] }
  | _ => none }
def fnGroupRow : OpenClaim := { program := "ytdnlebijmiaclaa", sum := "71c2e026ad73040dfbb9f00121df225bd0c21be6eb6228186420de307269cb21", func := "loop.example/g00989/laws.FnGroup", spec := "fnGroup", plainKeys := false, apart := false }
def FnGroupSaid : Prop := fnGroupRow.holds Try.pinned (OpenSpec.ofChange fnGroupSpec)

/-- ITS FALSE NEIGHBOUR: 'it returns false'. Refute it at one input. -/
def fnGroupWrong : ChangeSpec := { name := "fnGroup", fn := fun _ => fun
  | [d] => { results := [.lit (.bool false)], args := [d] }
  | _ => none }
def FnGroupWrongFalsely : Prop := fnGroupRow.holds Try.pinned (OpenSpec.ofChange fnGroupWrong)

/-- 'laws.FnRepeated': WHATEVER THE INPUT: true; the input reads as it did. -/
def fnRepeatedSpec : ChangeSpec := { name := "fnRepeated", fn := fun _ => fun
  | [d] => { results := [.lit (.bool true)], args := [d] }
  | _ => none }
def fnRepeatedRow : OpenClaim := { program := "ytdnlebijmiaclaa", sum := "71c2e026ad73040dfbb9f00121df225bd0c21be6eb6228186420de307269cb21", func := "loop.example/g00989/laws.FnRepeated", spec := "fnRepeated", plainKeys := false, apart := false }
def FnRepeatedSaid : Prop := fnRepeatedRow.holds Try.pinned (OpenSpec.ofChange fnRepeatedSpec)

/-- ITS FALSE NEIGHBOUR: 'it returns false'. Refute it at one input. -/
def fnRepeatedWrong : ChangeSpec := { name := "fnRepeated", fn := fun _ => fun
  | [d] => { results := [.lit (.bool false)], args := [d] }
  | _ => none }
def FnRepeatedWrongFalsely : Prop := fnRepeatedRow.holds Try.pinned (OpenSpec.ofChange fnRepeatedWrong)

/-- 'laws.FnExactSimplestOf': WHATEVER THE INPUT: true; the input reads as it did. -/
def fnExactSimplestOfSpec : ChangeSpec := { name := "fnExactSimplestOf", fn := fun _ => fun
  | [d] => { results := [.lit (.bool true)], args := [d] }
  | _ => none }
def fnExactSimplestOfRow : OpenClaim := { program := "ytdnlebijmiaclaa", sum := "71c2e026ad73040dfbb9f00121df225bd0c21be6eb6228186420de307269cb21", func := "loop.example/g00989/laws.FnExactSimplestOf", spec := "fnExactSimplestOf", plainKeys := false, apart := false }
def FnExactSimplestOfSaid : Prop := fnExactSimplestOfRow.holds Try.pinned (OpenSpec.ofChange fnExactSimplestOfSpec)

/-- ITS FALSE NEIGHBOUR: 'it returns false'. Refute it at one input. -/
def fnExactSimplestOfWrong : ChangeSpec := { name := "fnExactSimplestOf", fn := fun _ => fun
  | [d] => { results := [.lit (.bool false)], args := [d] }
  | _ => none }
def FnExactSimplestOfWrongFalsely : Prop := fnExactSimplestOfRow.holds Try.pinned (OpenSpec.ofChange fnExactSimplestOfWrong)

/-- 'laws.FnExactAddIntervals': WHATEVER THE INPUT: true; the input reads as it did. -/
def fnExactAddIntervalsSpec : ChangeSpec := { name := "fnExactAddIntervals", fn := fun _ => fun
  | [d1, d2] => { results := [.lit (.bool true)], args := [d1, d2] }
  | _ => none }
def fnExactAddIntervalsRow : OpenClaim := { program := "ytdnlebijmiaclaa", sum := "71c2e026ad73040dfbb9f00121df225bd0c21be6eb6228186420de307269cb21", func := "loop.example/g00989/laws.FnExactAddIntervals", spec := "fnExactAddIntervals", plainKeys := false, apart := false }
def FnExactAddIntervalsSaid : Prop := fnExactAddIntervalsRow.holds Try.pinned (OpenSpec.ofChange fnExactAddIntervalsSpec)

/-- ITS FALSE NEIGHBOUR: 'it returns false'. Refute it at one input. -/
def fnExactAddIntervalsWrong : ChangeSpec := { name := "fnExactAddIntervals", fn := fun _ => fun
  | [d1, d2] => { results := [.lit (.bool false)], args := [d1, d2] }
  | _ => none }
def FnExactAddIntervalsWrongFalsely : Prop := fnExactAddIntervalsRow.holds Try.pinned (OpenSpec.ofChange fnExactAddIntervalsWrong)

/-- 'laws.FnExactTimesInterval': WHATEVER THE INPUT: true; the input reads as it did. -/
def fnExactTimesIntervalSpec : ChangeSpec := { name := "fnExactTimesInterval", fn := fun _ => fun
  | [d1, d2] => { results := [.lit (.bool true)], args := [d1, d2] }
  | _ => none }
def fnExactTimesIntervalRow : OpenClaim := { program := "ytdnlebijmiaclaa", sum := "71c2e026ad73040dfbb9f00121df225bd0c21be6eb6228186420de307269cb21", func := "loop.example/g00989/laws.FnExactTimesInterval", spec := "fnExactTimesInterval", plainKeys := false, apart := false }
def FnExactTimesIntervalSaid : Prop := fnExactTimesIntervalRow.holds Try.pinned (OpenSpec.ofChange fnExactTimesIntervalSpec)

/-- ITS FALSE NEIGHBOUR: 'it returns false'. Refute it at one input. -/
def fnExactTimesIntervalWrong : ChangeSpec := { name := "fnExactTimesInterval", fn := fun _ => fun
  | [d1, d2] => { results := [.lit (.bool false)], args := [d1, d2] }
  | _ => none }
def FnExactTimesIntervalWrongFalsely : Prop := fnExactTimesIntervalRow.holds Try.pinned (OpenSpec.ofChange fnExactTimesIntervalWrong)

/-- 'laws.FnExactSameSize': WHATEVER THE INPUT: true; the input reads as it did. -/
def fnExactSameSizeSpec : ChangeSpec := { name := "fnExactSameSize", fn := fun _ => fun
  | [d1, d2] => { results := [.lit (.bool true)], args := [d1, d2] }
  | _ => none }
def fnExactSameSizeRow : OpenClaim := { program := "ytdnlebijmiaclaa", sum := "71c2e026ad73040dfbb9f00121df225bd0c21be6eb6228186420de307269cb21", func := "loop.example/g00989/laws.FnExactSameSize", spec := "fnExactSameSize", plainKeys := false, apart := false }
def FnExactSameSizeSaid : Prop := fnExactSameSizeRow.holds Try.pinned (OpenSpec.ofChange fnExactSameSizeSpec)

/-- ITS FALSE NEIGHBOUR: 'it returns false'. Refute it at one input. -/
def fnExactSameSizeWrong : ChangeSpec := { name := "fnExactSameSize", fn := fun _ => fun
  | [d1, d2] => { results := [.lit (.bool false)], args := [d1, d2] }
  | _ => none }
def FnExactSameSizeWrongFalsely : Prop := fnExactSameSizeRow.holds Try.pinned (OpenSpec.ofChange fnExactSameSizeWrong)

/-- 'laws.FnExactOctavesIn': WHATEVER THE INPUT: true; the input reads as it did. -/
def fnExactOctavesInSpec : ChangeSpec := { name := "fnExactOctavesIn", fn := fun _ => fun
  | [d] => { results := [.lit (.bool true)], args := [d] }
  | _ => none }
def fnExactOctavesInRow : OpenClaim := { program := "ytdnlebijmiaclaa", sum := "71c2e026ad73040dfbb9f00121df225bd0c21be6eb6228186420de307269cb21", func := "loop.example/g00989/laws.FnExactOctavesIn", spec := "fnExactOctavesIn", plainKeys := false, apart := false }
def FnExactOctavesInSaid : Prop := fnExactOctavesInRow.holds Try.pinned (OpenSpec.ofChange fnExactOctavesInSpec)

/-- ITS FALSE NEIGHBOUR: 'it returns false'. Refute it at one input. -/
def fnExactOctavesInWrong : ChangeSpec := { name := "fnExactOctavesIn", fn := fun _ => fun
  | [d] => { results := [.lit (.bool false)], args := [d] }
  | _ => none }
def FnExactOctavesInWrongFalsely : Prop := fnExactOctavesInRow.holds Try.pinned (OpenSpec.ofChange fnExactOctavesInWrong)

/-- 'laws.FnExactWithinOctave': WHATEVER THE INPUT: true; the input reads as it did. -/
def fnExactWithinOctaveSpec : ChangeSpec := { name := "fnExactWithinOctave", fn := fun _ => fun
  | [d] => { results := [.lit (.bool true)], args := [d] }
  | _ => none }
def fnExactWithinOctaveRow : OpenClaim := { program := "ytdnlebijmiaclaa", sum := "71c2e026ad73040dfbb9f00121df225bd0c21be6eb6228186420de307269cb21", func := "loop.example/g00989/laws.FnExactWithinOctave", spec := "fnExactWithinOctave", plainKeys := false, apart := false }
def FnExactWithinOctaveSaid : Prop := fnExactWithinOctaveRow.holds Try.pinned (OpenSpec.ofChange fnExactWithinOctaveSpec)

/-- ITS FALSE NEIGHBOUR: 'it returns false'. Refute it at one input. -/
def fnExactWithinOctaveWrong : ChangeSpec := { name := "fnExactWithinOctave", fn := fun _ => fun
  | [d] => { results := [.lit (.bool false)], args := [d] }
  | _ => none }
def FnExactWithinOctaveWrongFalsely : Prop := fnExactWithinOctaveRow.holds Try.pinned (OpenSpec.ofChange fnExactWithinOctaveWrong)

/-- 'laws.FnExactInvertInterval': WHATEVER THE INPUT: true; the input reads as it did. -/
def fnExactInvertIntervalSpec : ChangeSpec := { name := "fnExactInvertInterval", fn := fun _ => fun
  | [d] => { results := [.lit (.bool true)], args := [d] }
  | _ => none }
def fnExactInvertIntervalRow : OpenClaim := { program := "ytdnlebijmiaclaa", sum := "71c2e026ad73040dfbb9f00121df225bd0c21be6eb6228186420de307269cb21", func := "loop.example/g00989/laws.FnExactInvertInterval", spec := "fnExactInvertInterval", plainKeys := false, apart := false }
def FnExactInvertIntervalSaid : Prop := fnExactInvertIntervalRow.holds Try.pinned (OpenSpec.ofChange fnExactInvertIntervalSpec)

/-- ITS FALSE NEIGHBOUR: 'it returns false'. Refute it at one input. -/
def fnExactInvertIntervalWrong : ChangeSpec := { name := "fnExactInvertInterval", fn := fun _ => fun
  | [d] => { results := [.lit (.bool false)], args := [d] }
  | _ => none }
def FnExactInvertIntervalWrongFalsely : Prop := fnExactInvertIntervalRow.holds Try.pinned (OpenSpec.ofChange fnExactInvertIntervalWrong)

/-- 'laws.FnExactSamePitchClass': WHATEVER THE INPUT: true; the input reads as it did. -/
def fnExactSamePitchClassSpec : ChangeSpec := { name := "fnExactSamePitchClass", fn := fun _ => fun
  | [d1, d2] => { results := [.lit (.bool true)], args := [d1, d2] }
  | _ => none }
def fnExactSamePitchClassRow : OpenClaim := { program := "ytdnlebijmiaclaa", sum := "71c2e026ad73040dfbb9f00121df225bd0c21be6eb6228186420de307269cb21", func := "loop.example/g00989/laws.FnExactSamePitchClass", spec := "fnExactSamePitchClass", plainKeys := false, apart := false }
def FnExactSamePitchClassSaid : Prop := fnExactSamePitchClassRow.holds Try.pinned (OpenSpec.ofChange fnExactSamePitchClassSpec)

/-- ITS FALSE NEIGHBOUR: 'it returns false'. Refute it at one input. -/
def fnExactSamePitchClassWrong : ChangeSpec := { name := "fnExactSamePitchClass", fn := fun _ => fun
  | [d1, d2] => { results := [.lit (.bool false)], args := [d1, d2] }
  | _ => none }
def FnExactSamePitchClassWrongFalsely : Prop := fnExactSamePitchClassRow.holds Try.pinned (OpenSpec.ofChange fnExactSamePitchClassWrong)

/-- 'laws.FnExactFifths': WHATEVER THE INPUT: true; the input reads as it did. -/
def fnExactFifthsSpec : ChangeSpec := { name := "fnExactFifths", fn := fun _ => fun
  | [d] => { results := [.lit (.bool true)], args := [d] }
  | _ => none }
def fnExactFifthsRow : OpenClaim := { program := "ytdnlebijmiaclaa", sum := "71c2e026ad73040dfbb9f00121df225bd0c21be6eb6228186420de307269cb21", func := "loop.example/g00989/laws.FnExactFifths", spec := "fnExactFifths", plainKeys := false, apart := false }
def FnExactFifthsSaid : Prop := fnExactFifthsRow.holds Try.pinned (OpenSpec.ofChange fnExactFifthsSpec)

/-- ITS FALSE NEIGHBOUR: 'it returns false'. Refute it at one input. -/
def fnExactFifthsWrong : ChangeSpec := { name := "fnExactFifths", fn := fun _ => fun
  | [d] => { results := [.lit (.bool false)], args := [d] }
  | _ => none }
def FnExactFifthsWrongFalsely : Prop := fnExactFifthsRow.holds Try.pinned (OpenSpec.ofChange fnExactFifthsWrong)

/-- 'laws.FnExactCountSizes': WHATEVER THE INPUT: true; the input reads as it did. -/
def fnExactCountSizesSpec : ChangeSpec := { name := "fnExactCountSizes", fn := fun _ => fun
  | [d] => { results := [.lit (.bool true)], args := [d] }
  | _ => none }
def fnExactCountSizesRow : OpenClaim := { program := "ytdnlebijmiaclaa", sum := "71c2e026ad73040dfbb9f00121df225bd0c21be6eb6228186420de307269cb21", func := "loop.example/g00989/laws.FnExactCountSizes", spec := "fnExactCountSizes", plainKeys := false, apart := false }
def FnExactCountSizesSaid : Prop := fnExactCountSizesRow.holds Try.pinned (OpenSpec.ofChange fnExactCountSizesSpec)

/-- ITS FALSE NEIGHBOUR: 'it returns false'. Refute it at one input. -/
def fnExactCountSizesWrong : ChangeSpec := { name := "fnExactCountSizes", fn := fun _ => fun
  | [d] => { results := [.lit (.bool false)], args := [d] }
  | _ => none }
def FnExactCountSizesWrongFalsely : Prop := fnExactCountSizesRow.holds Try.pinned (OpenSpec.ofChange fnExactCountSizesWrong)

/-- 'laws.FnExactCommaOf': WHATEVER THE INPUT: true; the input reads as it did. -/
def fnExactCommaOfSpec : ChangeSpec := { name := "fnExactCommaOf", fn := fun _ => fun
  | [d] => { results := [.lit (.bool true)], args := [d] }
  | _ => none }
def fnExactCommaOfRow : OpenClaim := { program := "ytdnlebijmiaclaa", sum := "71c2e026ad73040dfbb9f00121df225bd0c21be6eb6228186420de307269cb21", func := "loop.example/g00989/laws.FnExactCommaOf", spec := "fnExactCommaOf", plainKeys := false, apart := false }
def FnExactCommaOfSaid : Prop := fnExactCommaOfRow.holds Try.pinned (OpenSpec.ofChange fnExactCommaOfSpec)

/-- ITS FALSE NEIGHBOUR: 'it returns false'. Refute it at one input. -/
def fnExactCommaOfWrong : ChangeSpec := { name := "fnExactCommaOf", fn := fun _ => fun
  | [d] => { results := [.lit (.bool false)], args := [d] }
  | _ => none }
def FnExactCommaOfWrongFalsely : Prop := fnExactCommaOfRow.holds Try.pinned (OpenSpec.ofChange fnExactCommaOfWrong)

/-- 'laws.FnExactCommaName': WHATEVER THE INPUT: true; the input reads as it did. -/
def fnExactCommaNameSpec : ChangeSpec := { name := "fnExactCommaName", fn := fun _ => fun
  | [d] => { results := [.lit (.bool true)], args := [d] }
  | _ => none }
def fnExactCommaNameRow : OpenClaim := { program := "ytdnlebijmiaclaa", sum := "71c2e026ad73040dfbb9f00121df225bd0c21be6eb6228186420de307269cb21", func := "loop.example/g00989/laws.FnExactCommaName", spec := "fnExactCommaName", plainKeys := false, apart := false }
def FnExactCommaNameSaid : Prop := fnExactCommaNameRow.holds Try.pinned (OpenSpec.ofChange fnExactCommaNameSpec)

/-- ITS FALSE NEIGHBOUR: 'it returns false'. Refute it at one input. -/
def fnExactCommaNameWrong : ChangeSpec := { name := "fnExactCommaName", fn := fun _ => fun
  | [d] => { results := [.lit (.bool false)], args := [d] }
  | _ => none }
def FnExactCommaNameWrongFalsely : Prop := fnExactCommaNameRow.holds Try.pinned (OpenSpec.ofChange fnExactCommaNameWrong)

/-- 'laws.FnExactSplitComma': WHATEVER THE INPUT: true; the input reads as it did. -/
def fnExactSplitCommaSpec : ChangeSpec := { name := "fnExactSplitComma", fn := fun _ => fun
  | [d] => { results := [.lit (.bool true)], args := [d] }
  | _ => none }
def fnExactSplitCommaRow : OpenClaim := { program := "ytdnlebijmiaclaa", sum := "71c2e026ad73040dfbb9f00121df225bd0c21be6eb6228186420de307269cb21", func := "loop.example/g00989/laws.FnExactSplitComma", spec := "fnExactSplitComma", plainKeys := false, apart := false }
def FnExactSplitCommaSaid : Prop := fnExactSplitCommaRow.holds Try.pinned (OpenSpec.ofChange fnExactSplitCommaSpec)

/-- ITS FALSE NEIGHBOUR: 'it returns false'. Refute it at one input. -/
def fnExactSplitCommaWrong : ChangeSpec := { name := "fnExactSplitComma", fn := fun _ => fun
  | [d] => { results := [.lit (.bool false)], args := [d] }
  | _ => none }
def FnExactSplitCommaWrongFalsely : Prop := fnExactSplitCommaRow.holds Try.pinned (OpenSpec.ofChange fnExactSplitCommaWrong)

/- THE SECOND FORM. 'bulk': how many values and letters a reading holds, each counted each time it is reached (what is shared counts as often as it is met; a slice's spare places count too). A statement '..UptoSaid' is the law's where the arguments, and the package variables that the reading takes, are together of bulk at most 1048576: NARROWER than '..Said'. Prove '..Said' where nothing that the law and all that it calls make is longer than what came in: it says more and counts as full. Else prove '..UptoSaid'. A law counts once. -/
mutual
def uptoBulk {H : Type} : DataW H → Nat
  | .lit (.string bytes) => bytes.length + 1
  | .lit _ => 1
  | .nil => 1
  | .ptr d => uptoBulk d + 1
  | .slice elems spare => uptoBulkAll elems + uptoBulkAll spare + 1
  | .agg parts => uptoBulkAll parts + 1
  | .iface _ d => uptoBulk d + 1
  | .map entries => uptoBulkEntries entries + 1
  | .held _ => 1
def uptoBulkAll {H : Type} : List (DataW H) → Nat
  | [] => 0
  | d :: r => uptoBulk d + uptoBulkAll r
def uptoBulkEntries {H : Type} : List (Lit × DataW H) → Nat
  | [] => 0
  | x :: r => uptoBulkEntry x + uptoBulkEntries r
def uptoBulkEntry {H : Type} : Lit × DataW H → Nat
  | (.string bytes, d) => bytes.length + uptoBulk d + 1
  | (_, d) => uptoBulk d + 1
 end
def uptoSmall : (H : Type) → List (DataW H) → Bool := fun _ ds => decide (uptoBulkAll ds ≤ 1048576)
def OpenSpec.upto (s : _root_.Go.ChangeSpec) : _root_.Go.OpenSpec := { _root_.Go.OpenSpec.ofChange s with cond := some uptoSmall }

/-- 'laws.FnGroup', WHERE WHAT IT READS IS OF BULK AT MOST 1048576: true; the input reads as it did. -/
def fnGroupUptoRow : OpenClaim := { program := "ytdnlebijmiaclaa", sum := "71c2e026ad73040dfbb9f00121df225bd0c21be6eb6228186420de307269cb21", func := "loop.example/g00989/laws.FnGroup", spec := "fnGroup", plainKeys := false, apart := false, narrowed := true }
def FnGroupUptoSaid : Prop := fnGroupUptoRow.holds Try.pinned (OpenSpec.upto fnGroupSpec)

/-- 'laws.FnRepeated', WHERE WHAT IT READS IS OF BULK AT MOST 1048576: true; the input reads as it did. -/
def fnRepeatedUptoRow : OpenClaim := { program := "ytdnlebijmiaclaa", sum := "71c2e026ad73040dfbb9f00121df225bd0c21be6eb6228186420de307269cb21", func := "loop.example/g00989/laws.FnRepeated", spec := "fnRepeated", plainKeys := false, apart := false, narrowed := true }
def FnRepeatedUptoSaid : Prop := fnRepeatedUptoRow.holds Try.pinned (OpenSpec.upto fnRepeatedSpec)

/-- 'laws.FnExactSimplestOf', WHERE WHAT IT READS IS OF BULK AT MOST 1048576: true; the input reads as it did. -/
def fnExactSimplestOfUptoRow : OpenClaim := { program := "ytdnlebijmiaclaa", sum := "71c2e026ad73040dfbb9f00121df225bd0c21be6eb6228186420de307269cb21", func := "loop.example/g00989/laws.FnExactSimplestOf", spec := "fnExactSimplestOf", plainKeys := false, apart := false, narrowed := true }
def FnExactSimplestOfUptoSaid : Prop := fnExactSimplestOfUptoRow.holds Try.pinned (OpenSpec.upto fnExactSimplestOfSpec)

/-- 'laws.FnExactAddIntervals', WHERE WHAT IT READS IS OF BULK AT MOST 1048576: true; the input reads as it did. -/
def fnExactAddIntervalsUptoRow : OpenClaim := { program := "ytdnlebijmiaclaa", sum := "71c2e026ad73040dfbb9f00121df225bd0c21be6eb6228186420de307269cb21", func := "loop.example/g00989/laws.FnExactAddIntervals", spec := "fnExactAddIntervals", plainKeys := false, apart := false, narrowed := true }
def FnExactAddIntervalsUptoSaid : Prop := fnExactAddIntervalsUptoRow.holds Try.pinned (OpenSpec.upto fnExactAddIntervalsSpec)

/-- 'laws.FnExactTimesInterval', WHERE WHAT IT READS IS OF BULK AT MOST 1048576: true; the input reads as it did. -/
def fnExactTimesIntervalUptoRow : OpenClaim := { program := "ytdnlebijmiaclaa", sum := "71c2e026ad73040dfbb9f00121df225bd0c21be6eb6228186420de307269cb21", func := "loop.example/g00989/laws.FnExactTimesInterval", spec := "fnExactTimesInterval", plainKeys := false, apart := false, narrowed := true }
def FnExactTimesIntervalUptoSaid : Prop := fnExactTimesIntervalUptoRow.holds Try.pinned (OpenSpec.upto fnExactTimesIntervalSpec)

/-- 'laws.FnExactSameSize', WHERE WHAT IT READS IS OF BULK AT MOST 1048576: true; the input reads as it did. -/
def fnExactSameSizeUptoRow : OpenClaim := { program := "ytdnlebijmiaclaa", sum := "71c2e026ad73040dfbb9f00121df225bd0c21be6eb6228186420de307269cb21", func := "loop.example/g00989/laws.FnExactSameSize", spec := "fnExactSameSize", plainKeys := false, apart := false, narrowed := true }
def FnExactSameSizeUptoSaid : Prop := fnExactSameSizeUptoRow.holds Try.pinned (OpenSpec.upto fnExactSameSizeSpec)

/-- 'laws.FnExactOctavesIn', WHERE WHAT IT READS IS OF BULK AT MOST 1048576: true; the input reads as it did. -/
def fnExactOctavesInUptoRow : OpenClaim := { program := "ytdnlebijmiaclaa", sum := "71c2e026ad73040dfbb9f00121df225bd0c21be6eb6228186420de307269cb21", func := "loop.example/g00989/laws.FnExactOctavesIn", spec := "fnExactOctavesIn", plainKeys := false, apart := false, narrowed := true }
def FnExactOctavesInUptoSaid : Prop := fnExactOctavesInUptoRow.holds Try.pinned (OpenSpec.upto fnExactOctavesInSpec)

/-- 'laws.FnExactWithinOctave', WHERE WHAT IT READS IS OF BULK AT MOST 1048576: true; the input reads as it did. -/
def fnExactWithinOctaveUptoRow : OpenClaim := { program := "ytdnlebijmiaclaa", sum := "71c2e026ad73040dfbb9f00121df225bd0c21be6eb6228186420de307269cb21", func := "loop.example/g00989/laws.FnExactWithinOctave", spec := "fnExactWithinOctave", plainKeys := false, apart := false, narrowed := true }
def FnExactWithinOctaveUptoSaid : Prop := fnExactWithinOctaveUptoRow.holds Try.pinned (OpenSpec.upto fnExactWithinOctaveSpec)

/-- 'laws.FnExactInvertInterval', WHERE WHAT IT READS IS OF BULK AT MOST 1048576: true; the input reads as it did. -/
def fnExactInvertIntervalUptoRow : OpenClaim := { program := "ytdnlebijmiaclaa", sum := "71c2e026ad73040dfbb9f00121df225bd0c21be6eb6228186420de307269cb21", func := "loop.example/g00989/laws.FnExactInvertInterval", spec := "fnExactInvertInterval", plainKeys := false, apart := false, narrowed := true }
def FnExactInvertIntervalUptoSaid : Prop := fnExactInvertIntervalUptoRow.holds Try.pinned (OpenSpec.upto fnExactInvertIntervalSpec)

/-- 'laws.FnExactSamePitchClass', WHERE WHAT IT READS IS OF BULK AT MOST 1048576: true; the input reads as it did. -/
def fnExactSamePitchClassUptoRow : OpenClaim := { program := "ytdnlebijmiaclaa", sum := "71c2e026ad73040dfbb9f00121df225bd0c21be6eb6228186420de307269cb21", func := "loop.example/g00989/laws.FnExactSamePitchClass", spec := "fnExactSamePitchClass", plainKeys := false, apart := false, narrowed := true }
def FnExactSamePitchClassUptoSaid : Prop := fnExactSamePitchClassUptoRow.holds Try.pinned (OpenSpec.upto fnExactSamePitchClassSpec)

/-- 'laws.FnExactFifths', WHERE WHAT IT READS IS OF BULK AT MOST 1048576: true; the input reads as it did. -/
def fnExactFifthsUptoRow : OpenClaim := { program := "ytdnlebijmiaclaa", sum := "71c2e026ad73040dfbb9f00121df225bd0c21be6eb6228186420de307269cb21", func := "loop.example/g00989/laws.FnExactFifths", spec := "fnExactFifths", plainKeys := false, apart := false, narrowed := true }
def FnExactFifthsUptoSaid : Prop := fnExactFifthsUptoRow.holds Try.pinned (OpenSpec.upto fnExactFifthsSpec)

/-- 'laws.FnExactCountSizes', WHERE WHAT IT READS IS OF BULK AT MOST 1048576: true; the input reads as it did. -/
def fnExactCountSizesUptoRow : OpenClaim := { program := "ytdnlebijmiaclaa", sum := "71c2e026ad73040dfbb9f00121df225bd0c21be6eb6228186420de307269cb21", func := "loop.example/g00989/laws.FnExactCountSizes", spec := "fnExactCountSizes", plainKeys := false, apart := false, narrowed := true }
def FnExactCountSizesUptoSaid : Prop := fnExactCountSizesUptoRow.holds Try.pinned (OpenSpec.upto fnExactCountSizesSpec)

/-- 'laws.FnExactCommaOf', WHERE WHAT IT READS IS OF BULK AT MOST 1048576: true; the input reads as it did. -/
def fnExactCommaOfUptoRow : OpenClaim := { program := "ytdnlebijmiaclaa", sum := "71c2e026ad73040dfbb9f00121df225bd0c21be6eb6228186420de307269cb21", func := "loop.example/g00989/laws.FnExactCommaOf", spec := "fnExactCommaOf", plainKeys := false, apart := false, narrowed := true }
def FnExactCommaOfUptoSaid : Prop := fnExactCommaOfUptoRow.holds Try.pinned (OpenSpec.upto fnExactCommaOfSpec)

/-- 'laws.FnExactCommaName', WHERE WHAT IT READS IS OF BULK AT MOST 1048576: true; the input reads as it did. -/
def fnExactCommaNameUptoRow : OpenClaim := { program := "ytdnlebijmiaclaa", sum := "71c2e026ad73040dfbb9f00121df225bd0c21be6eb6228186420de307269cb21", func := "loop.example/g00989/laws.FnExactCommaName", spec := "fnExactCommaName", plainKeys := false, apart := false, narrowed := true }
def FnExactCommaNameUptoSaid : Prop := fnExactCommaNameUptoRow.holds Try.pinned (OpenSpec.upto fnExactCommaNameSpec)

/-- 'laws.FnExactSplitComma', WHERE WHAT IT READS IS OF BULK AT MOST 1048576: true; the input reads as it did. -/
def fnExactSplitCommaUptoRow : OpenClaim := { program := "ytdnlebijmiaclaa", sum := "71c2e026ad73040dfbb9f00121df225bd0c21be6eb6228186420de307269cb21", func := "loop.example/g00989/laws.FnExactSplitComma", spec := "fnExactSplitComma", plainKeys := false, apart := false, narrowed := true }
def FnExactSplitCommaUptoSaid : Prop := fnExactSplitCommaUptoRow.holds Try.pinned (OpenSpec.upto fnExactSplitCommaSpec)

end Rows
end Go.Proofs.Ytdnlebijmiaclaa
