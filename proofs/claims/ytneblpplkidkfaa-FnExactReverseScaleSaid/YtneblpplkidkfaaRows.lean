/-
  No cell of these rows narrows 'for every input' (looked for: loops, veiled, ifaces, maps, wideKeys, modest, calm, conditions, laid).
  DERIVED. THE GIVEN ROWS OF THIS SEAT. 5 by the template 'for every input the law returns true; each argument reads behind the call as it read before'; 0 by the template 'total and deterministic' (their statements: YtneblpplkidkfaaTotals.lean).
  GIVEN WITH THE SEED: the statements are not yours to turn. If you find one false, say at which input.
  Laid BY PROGRAM, IN A SANDBOX (cutbox-rows.mjs): the forced cells as the released guide's own fill.sh prints them over the translation e7bdf8f128464982… (all of the seat's roots in one cut). By AI agents, Wed Nov 11 2026. No macro, syntax, notation, axiom, sorry.
-/
import Derived.Test.YtneblpplkidkfaaChecked
import GoSem.Claim
import GoSem.ClaimJoined
import GoSem.ClaimMapViews
import Derived.JoinedTies
import Derived.KernelRfl
namespace Go.Proofs.Ytneblpplkidkfaa
/- THE CELL 'sum', in the pinned program and in every row, IS THE sha256 OF THE DUMP (.gsa) THAT YtneblpplkidkfaaProg.lean LOADS. Nothing in Lean hashes anything: it is a label: what it is worth is what the hold of that sum in a sandbox is worth. -/
noncomputable def Try.pinned : Pinned := { name := "ytneblpplkidkfaa", sum := "e7bdf8f1284649828c82548c722a9e0b43ad1dff0021000bbc5909ca8f617ced", checked := Try.checked }
namespace Rows
def none {H : Type} : Left H := { results := [], args := [] }

/-- 'laws.FnModes': WHATEVER THE INPUT: true; the input reads as it did. -/
def fnModesSpec : ChangeSpec := { name := "fnModes", fn := fun _ => fun
  | [d] => { results := [.lit (.bool true)], args := [d] }
  | _ => none }
def fnModesRow : OpenClaim := { program := "ytneblpplkidkfaa", sum := "e7bdf8f1284649828c82548c722a9e0b43ad1dff0021000bbc5909ca8f617ced", func := "loop.example/g00989/laws.FnModes", spec := "fnModes", recurses := true, apart := false }
def FnModesSaid : Prop := fnModesRow.holds Try.pinned (OpenSpec.ofChange fnModesSpec)

/-- ITS FALSE NEIGHBOUR: 'it returns false'. Refute it at one input. -/
def fnModesWrong : ChangeSpec := { name := "fnModes", fn := fun _ => fun
  | [d] => { results := [.lit (.bool false)], args := [d] }
  | _ => none }
def FnModesWrongFalsely : Prop := fnModesRow.holds Try.pinned (OpenSpec.ofChange fnModesWrong)

/-- 'laws.FnExactModeOf': WHATEVER THE INPUT: true; the input reads as it did. -/
def fnExactModeOfSpec : ChangeSpec := { name := "fnExactModeOf", fn := fun _ => fun
  | [d1, d2] => { results := [.lit (.bool true)], args := [d1, d2] }
  | _ => none }
def fnExactModeOfRow : OpenClaim := { program := "ytneblpplkidkfaa", sum := "e7bdf8f1284649828c82548c722a9e0b43ad1dff0021000bbc5909ca8f617ced", func := "loop.example/g00989/laws.FnExactModeOf", spec := "fnExactModeOf", apart := false }
def FnExactModeOfSaid : Prop := fnExactModeOfRow.holds Try.pinned (OpenSpec.ofChange fnExactModeOfSpec)

/-- ITS FALSE NEIGHBOUR: 'it returns false'. Refute it at one input. -/
def fnExactModeOfWrong : ChangeSpec := { name := "fnExactModeOf", fn := fun _ => fun
  | [d1, d2] => { results := [.lit (.bool false)], args := [d1, d2] }
  | _ => none }
def FnExactModeOfWrongFalsely : Prop := fnExactModeOfRow.holds Try.pinned (OpenSpec.ofChange fnExactModeOfWrong)

/-- 'laws.FnExactCountModes': WHATEVER THE INPUT: true; the input reads as it did. -/
def fnExactCountModesSpec : ChangeSpec := { name := "fnExactCountModes", fn := fun _ => fun
  | [d] => { results := [.lit (.bool true)], args := [d] }
  | _ => none }
def fnExactCountModesRow : OpenClaim := { program := "ytneblpplkidkfaa", sum := "e7bdf8f1284649828c82548c722a9e0b43ad1dff0021000bbc5909ca8f617ced", func := "loop.example/g00989/laws.FnExactCountModes", spec := "fnExactCountModes", apart := false }
def FnExactCountModesSaid : Prop := fnExactCountModesRow.holds Try.pinned (OpenSpec.ofChange fnExactCountModesSpec)

/-- ITS FALSE NEIGHBOUR: 'it returns false'. Refute it at one input. -/
def fnExactCountModesWrong : ChangeSpec := { name := "fnExactCountModes", fn := fun _ => fun
  | [d] => { results := [.lit (.bool false)], args := [d] }
  | _ => none }
def FnExactCountModesWrongFalsely : Prop := fnExactCountModesRow.holds Try.pinned (OpenSpec.ofChange fnExactCountModesWrong)

/-- 'laws.FnExactBrightestMode': WHATEVER THE INPUT: true; the input reads as it did. -/
def fnExactBrightestModeSpec : ChangeSpec := { name := "fnExactBrightestMode", fn := fun _ => fun
  | [d] => { results := [.lit (.bool true)], args := [d] }
  | _ => none }
def fnExactBrightestModeRow : OpenClaim := { program := "ytneblpplkidkfaa", sum := "e7bdf8f1284649828c82548c722a9e0b43ad1dff0021000bbc5909ca8f617ced", func := "loop.example/g00989/laws.FnExactBrightestMode", spec := "fnExactBrightestMode", apart := false }
def FnExactBrightestModeSaid : Prop := fnExactBrightestModeRow.holds Try.pinned (OpenSpec.ofChange fnExactBrightestModeSpec)

/-- ITS FALSE NEIGHBOUR: 'it returns false'. Refute it at one input. -/
def fnExactBrightestModeWrong : ChangeSpec := { name := "fnExactBrightestMode", fn := fun _ => fun
  | [d] => { results := [.lit (.bool false)], args := [d] }
  | _ => none }
def FnExactBrightestModeWrongFalsely : Prop := fnExactBrightestModeRow.holds Try.pinned (OpenSpec.ofChange fnExactBrightestModeWrong)

/-- 'laws.FnExactReverseScale': WHATEVER THE INPUT: true; the input reads as it did. -/
def fnExactReverseScaleSpec : ChangeSpec := { name := "fnExactReverseScale", fn := fun _ => fun
  | [d] => { results := [.lit (.bool true)], args := [d] }
  | _ => none }
def fnExactReverseScaleRow : OpenClaim := { program := "ytneblpplkidkfaa", sum := "e7bdf8f1284649828c82548c722a9e0b43ad1dff0021000bbc5909ca8f617ced", func := "loop.example/g00989/laws.FnExactReverseScale", spec := "fnExactReverseScale", apart := false }
def FnExactReverseScaleSaid : Prop := fnExactReverseScaleRow.holds Try.pinned (OpenSpec.ofChange fnExactReverseScaleSpec)

/-- ITS FALSE NEIGHBOUR: 'it returns false'. Refute it at one input. -/
def fnExactReverseScaleWrong : ChangeSpec := { name := "fnExactReverseScale", fn := fun _ => fun
  | [d] => { results := [.lit (.bool false)], args := [d] }
  | _ => none }
def FnExactReverseScaleWrongFalsely : Prop := fnExactReverseScaleRow.holds Try.pinned (OpenSpec.ofChange fnExactReverseScaleWrong)

/- THE SECOND FORM. 'bulk': how many values and letters a reading holds, each counted each time it is reached (what is shared counts as often as it is met; a slice's spare places count too). A statement '..UptoSaid' is the law's where the arguments, and the package variables that the reading takes, are together of bulk at most 1048576: NARROWER than '..Said'. Prove '..Said' where nothing that the law and all that it calls make is longer than what came in: it says more and counts as full. Else prove '..UptoSaid'. A law counts once. -/
mutual
def uptoBulk {H : Type} : DataW H → Nat
  | .lit (.string bytes) => bytes.length + 1
  | .lit _ => 1
  | .nil => 1
  | .ptr d => uptoBulk d + 1
  | .slice elems spare => uptoBulkAll elems + uptoBulkAll spare + 1
  | .agg parts => uptoBulkAll parts + 1
  | .iface _ d => uptoBulk d + 1
  | .map entries => uptoBulkEntries entries + 1
  | .held _ => 1
def uptoBulkAll {H : Type} : List (DataW H) → Nat
  | [] => 0
  | d :: r => uptoBulk d + uptoBulkAll r
def uptoBulkEntries {H : Type} : List (Lit × DataW H) → Nat
  | [] => 0
  | x :: r => uptoBulkEntry x + uptoBulkEntries r
def uptoBulkEntry {H : Type} : Lit × DataW H → Nat
  | (.string bytes, d) => bytes.length + uptoBulk d + 1
  | (_, d) => uptoBulk d + 1
 end
def uptoSmall : (H : Type) → List (DataW H) → Bool := fun _ ds => decide (uptoBulkAll ds ≤ 1048576)
def OpenSpec.upto (s : _root_.Go.ChangeSpec) : _root_.Go.OpenSpec := { _root_.Go.OpenSpec.ofChange s with cond := some uptoSmall }

/-- 'laws.FnModes', WHERE WHAT IT READS IS OF BULK AT MOST 1048576: true; the input reads as it did. -/
def fnModesUptoRow : OpenClaim := { program := "ytneblpplkidkfaa", sum := "e7bdf8f1284649828c82548c722a9e0b43ad1dff0021000bbc5909ca8f617ced", func := "loop.example/g00989/laws.FnModes", spec := "fnModes", recurses := true, apart := false, narrowed := true }
def FnModesUptoSaid : Prop := fnModesUptoRow.holds Try.pinned (OpenSpec.upto fnModesSpec)

/-- 'laws.FnExactModeOf', WHERE WHAT IT READS IS OF BULK AT MOST 1048576: true; the input reads as it did. -/
def fnExactModeOfUptoRow : OpenClaim := { program := "ytneblpplkidkfaa", sum := "e7bdf8f1284649828c82548c722a9e0b43ad1dff0021000bbc5909ca8f617ced", func := "loop.example/g00989/laws.FnExactModeOf", spec := "fnExactModeOf", apart := false, narrowed := true }
def FnExactModeOfUptoSaid : Prop := fnExactModeOfUptoRow.holds Try.pinned (OpenSpec.upto fnExactModeOfSpec)

/-- 'laws.FnExactCountModes', WHERE WHAT IT READS IS OF BULK AT MOST 1048576: true; the input reads as it did. -/
def fnExactCountModesUptoRow : OpenClaim := { program := "ytneblpplkidkfaa", sum := "e7bdf8f1284649828c82548c722a9e0b43ad1dff0021000bbc5909ca8f617ced", func := "loop.example/g00989/laws.FnExactCountModes", spec := "fnExactCountModes", apart := false, narrowed := true }
def FnExactCountModesUptoSaid : Prop := fnExactCountModesUptoRow.holds Try.pinned (OpenSpec.upto fnExactCountModesSpec)

/-- 'laws.FnExactBrightestMode', WHERE WHAT IT READS IS OF BULK AT MOST 1048576: true; the input reads as it did. -/
def fnExactBrightestModeUptoRow : OpenClaim := { program := "ytneblpplkidkfaa", sum := "e7bdf8f1284649828c82548c722a9e0b43ad1dff0021000bbc5909ca8f617ced", func := "loop.example/g00989/laws.FnExactBrightestMode", spec := "fnExactBrightestMode", apart := false, narrowed := true }
def FnExactBrightestModeUptoSaid : Prop := fnExactBrightestModeUptoRow.holds Try.pinned (OpenSpec.upto fnExactBrightestModeSpec)

/-- 'laws.FnExactReverseScale', WHERE WHAT IT READS IS OF BULK AT MOST 1048576: true; the input reads as it did. -/
def fnExactReverseScaleUptoRow : OpenClaim := { program := "ytneblpplkidkfaa", sum := "e7bdf8f1284649828c82548c722a9e0b43ad1dff0021000bbc5909ca8f617ced", func := "loop.example/g00989/laws.FnExactReverseScale", spec := "fnExactReverseScale", apart := false, narrowed := true }
def FnExactReverseScaleUptoSaid : Prop := fnExactReverseScaleUptoRow.holds Try.pinned (OpenSpec.upto fnExactReverseScaleSpec)

end Rows
end Go.Proofs.Ytneblpplkidkfaa
