/-
  No cell of these rows narrows 'for every input' (looked for: loops, veiled, ifaces, maps, wideKeys, modest, calm, conditions, laid).
  DERIVED. THE GIVEN ROWS OF THIS SEAT. 5 by the template 'for every input the law returns true; each argument reads behind the call as it read before'; 0 by the template 'total and deterministic' (their statements: YtgoaofkbegfinaaTotals.lean).
  GIVEN WITH THE SEED: the statements are not yours to turn. If you find one false, say at which input.
  Laid BY PROGRAM, IN A SANDBOX (cutbox-rows.mjs): the forced cells as the released guide's own fill.sh prints them over the translation 71c677bc60bc5a97… (all of the seat's roots in one cut). By AI agents, Wed Nov 11 2026. No macro, syntax, notation, axiom, sorry.
-/
import Derived.Test.YtgoaofkbegfinaaChecked
import GoSem.Claim
import GoSem.ClaimJoined
import GoSem.ClaimMapViews
import Derived.JoinedTies
import Derived.KernelRfl
namespace Go.Proofs.Ytgoaofkbegfinaa
/- THE CELL 'sum', in the pinned program and in every row, IS THE sha256 OF THE DUMP (.gsa) THAT YtgoaofkbegfinaaProg.lean LOADS. Nothing in Lean hashes anything: it is a label: what it is worth is what the hold of that sum in a sandbox is worth. -/
noncomputable def Try.pinned : Pinned := { name := "ytgoaofkbegfinaa", sum := "71c677bc60bc5a975d388b9cf66730fab36c0e99b742851ae82a88928b92dcc5", checked := Try.checked }
namespace Rows
def none {H : Type} : Left H := { results := [], args := [] }

/-- 'laws.FnBeats': WHATEVER THE INPUT: true; the input reads as it did. -/
def fnBeatsSpec : ChangeSpec := { name := "fnBeats", fn := fun _ => fun
  | [d] => { results := [.lit (.bool true)], args := [d] }
  | _ => none }
def fnBeatsRow : OpenClaim := { program := "ytgoaofkbegfinaa", sum := "71c677bc60bc5a975d388b9cf66730fab36c0e99b742851ae82a88928b92dcc5", func := "loop.example/g00989/laws.FnBeats", spec := "fnBeats", unfollowed := true, recurses := true, apart := false }
def FnBeatsSaid : Prop := fnBeatsRow.holds Try.pinned (OpenSpec.ofChange fnBeatsSpec)

/-- ITS FALSE NEIGHBOUR: 'it returns false'. Refute it at one input. -/
def fnBeatsWrong : ChangeSpec := { name := "fnBeats", fn := fun _ => fun
  | [d] => { results := [.lit (.bool false)], args := [d] }
  | _ => none }
def FnBeatsWrongFalsely : Prop := fnBeatsRow.holds Try.pinned (OpenSpec.ofChange fnBeatsWrong)

/-- 'laws.FnExactPitchOk': WHATEVER THE INPUT: true; the input reads as it did. -/
def fnExactPitchOkSpec : ChangeSpec := { name := "fnExactPitchOk", fn := fun _ => fun
  | [d] => { results := [.lit (.bool true)], args := [d] }
  | _ => none }
def fnExactPitchOkRow : OpenClaim := { program := "ytgoaofkbegfinaa", sum := "71c677bc60bc5a975d388b9cf66730fab36c0e99b742851ae82a88928b92dcc5", func := "loop.example/g00989/laws.FnExactPitchOk", spec := "fnExactPitchOk", apart := false }
def FnExactPitchOkSaid : Prop := fnExactPitchOkRow.holds Try.pinned (OpenSpec.ofChange fnExactPitchOkSpec)

/-- ITS FALSE NEIGHBOUR: 'it returns false'. Refute it at one input. -/
def fnExactPitchOkWrong : ChangeSpec := { name := "fnExactPitchOk", fn := fun _ => fun
  | [d] => { results := [.lit (.bool false)], args := [d] }
  | _ => none }
def FnExactPitchOkWrongFalsely : Prop := fnExactPitchOkRow.holds Try.pinned (OpenSpec.ofChange fnExactPitchOkWrong)

/-- 'laws.FnExactMakePitch': WHATEVER THE INPUT: true; the input reads as it did. -/
def fnExactMakePitchSpec : ChangeSpec := { name := "fnExactMakePitch", fn := fun _ => fun
  | [d1, d2] => { results := [.lit (.bool true)], args := [d1, d2] }
  | _ => none }
def fnExactMakePitchRow : OpenClaim := { program := "ytgoaofkbegfinaa", sum := "71c677bc60bc5a975d388b9cf66730fab36c0e99b742851ae82a88928b92dcc5", func := "loop.example/g00989/laws.FnExactMakePitch", spec := "fnExactMakePitch", apart := false }
def FnExactMakePitchSaid : Prop := fnExactMakePitchRow.holds Try.pinned (OpenSpec.ofChange fnExactMakePitchSpec)

/-- ITS FALSE NEIGHBOUR: 'it returns false'. Refute it at one input. -/
def fnExactMakePitchWrong : ChangeSpec := { name := "fnExactMakePitch", fn := fun _ => fun
  | [d1, d2] => { results := [.lit (.bool false)], args := [d1, d2] }
  | _ => none }
def FnExactMakePitchWrongFalsely : Prop := fnExactMakePitchRow.holds Try.pinned (OpenSpec.ofChange fnExactMakePitchWrong)

/-- 'laws.FnExactComparePitches': WHATEVER THE INPUT: true; the input reads as it did. -/
def fnExactComparePitchesSpec : ChangeSpec := { name := "fnExactComparePitches", fn := fun _ => fun
  | [d1, d2] => { results := [.lit (.bool true)], args := [d1, d2] }
  | _ => none }
def fnExactComparePitchesRow : OpenClaim := { program := "ytgoaofkbegfinaa", sum := "71c677bc60bc5a975d388b9cf66730fab36c0e99b742851ae82a88928b92dcc5", func := "loop.example/g00989/laws.FnExactComparePitches", spec := "fnExactComparePitches", unfollowed := true, recurses := true, apart := false }
def FnExactComparePitchesSaid : Prop := fnExactComparePitchesRow.holds Try.pinned (OpenSpec.ofChange fnExactComparePitchesSpec)

/-- ITS FALSE NEIGHBOUR: 'it returns false'. Refute it at one input. -/
def fnExactComparePitchesWrong : ChangeSpec := { name := "fnExactComparePitches", fn := fun _ => fun
  | [d1, d2] => { results := [.lit (.bool false)], args := [d1, d2] }
  | _ => none }
def FnExactComparePitchesWrongFalsely : Prop := fnExactComparePitchesRow.holds Try.pinned (OpenSpec.ofChange fnExactComparePitchesWrong)

/-- 'laws.FnExactTimesPitch': WHATEVER THE INPUT: true; the input reads as it did. -/
def fnExactTimesPitchSpec : ChangeSpec := { name := "fnExactTimesPitch", fn := fun _ => fun
  | [d1, d2, d3] => { results := [.lit (.bool true)], args := [d1, d2, d3] }
  | _ => none }
def fnExactTimesPitchRow : OpenClaim := { program := "ytgoaofkbegfinaa", sum := "71c677bc60bc5a975d388b9cf66730fab36c0e99b742851ae82a88928b92dcc5", func := "loop.example/g00989/laws.FnExactTimesPitch", spec := "fnExactTimesPitch", apart := false }
def FnExactTimesPitchSaid : Prop := fnExactTimesPitchRow.holds Try.pinned (OpenSpec.ofChange fnExactTimesPitchSpec)

/-- ITS FALSE NEIGHBOUR: 'it returns false'. Refute it at one input. -/
def fnExactTimesPitchWrong : ChangeSpec := { name := "fnExactTimesPitch", fn := fun _ => fun
  | [d1, d2, d3] => { results := [.lit (.bool false)], args := [d1, d2, d3] }
  | _ => none }
def FnExactTimesPitchWrongFalsely : Prop := fnExactTimesPitchRow.holds Try.pinned (OpenSpec.ofChange fnExactTimesPitchWrong)

/- THE SECOND FORM. 'bulk': how many values and letters a reading holds, each counted each time it is reached (what is shared counts as often as it is met; a slice's spare places count too). A statement '..UptoSaid' is the law's where the arguments, and the package variables that the reading takes, are together of bulk at most 1048576: NARROWER than '..Said'. Prove '..Said' where nothing that the law and all that it calls make is longer than what came in: it says more and counts as full. Else prove '..UptoSaid'. A law counts once. -/
mutual
def uptoBulk {H : Type} : DataW H → Nat
  | .lit (.string bytes) => bytes.length + 1
  | .lit _ => 1
  | .nil => 1
  | .ptr d => uptoBulk d + 1
  | .slice elems spare => uptoBulkAll elems + uptoBulkAll spare + 1
  | .agg parts => uptoBulkAll parts + 1
  | .iface _ d => uptoBulk d + 1
  | .map entries => uptoBulkEntries entries + 1
  | .held _ => 1
def uptoBulkAll {H : Type} : List (DataW H) → Nat
  | [] => 0
  | d :: r => uptoBulk d + uptoBulkAll r
def uptoBulkEntries {H : Type} : List (Lit × DataW H) → Nat
  | [] => 0
  | x :: r => uptoBulkEntry x + uptoBulkEntries r
def uptoBulkEntry {H : Type} : Lit × DataW H → Nat
  | (.string bytes, d) => bytes.length + uptoBulk d + 1
  | (_, d) => uptoBulk d + 1
 end
def uptoSmall : (H : Type) → List (DataW H) → Bool := fun _ ds => decide (uptoBulkAll ds ≤ 1048576)
def OpenSpec.upto (s : _root_.Go.ChangeSpec) : _root_.Go.OpenSpec := { _root_.Go.OpenSpec.ofChange s with cond := some uptoSmall }

/-- 'laws.FnBeats', WHERE WHAT IT READS IS OF BULK AT MOST 1048576: true; the input reads as it did. -/
def fnBeatsUptoRow : OpenClaim := { program := "ytgoaofkbegfinaa", sum := "71c677bc60bc5a975d388b9cf66730fab36c0e99b742851ae82a88928b92dcc5", func := "loop.example/g00989/laws.FnBeats", spec := "fnBeats", unfollowed := true, recurses := true, apart := false, narrowed := true }
def FnBeatsUptoSaid : Prop := fnBeatsUptoRow.holds Try.pinned (OpenSpec.upto fnBeatsSpec)

/-- 'laws.FnExactPitchOk', WHERE WHAT IT READS IS OF BULK AT MOST 1048576: true; the input reads as it did. -/
def fnExactPitchOkUptoRow : OpenClaim := { program := "ytgoaofkbegfinaa", sum := "71c677bc60bc5a975d388b9cf66730fab36c0e99b742851ae82a88928b92dcc5", func := "loop.example/g00989/laws.FnExactPitchOk", spec := "fnExactPitchOk", apart := false, narrowed := true }
def FnExactPitchOkUptoSaid : Prop := fnExactPitchOkUptoRow.holds Try.pinned (OpenSpec.upto fnExactPitchOkSpec)

/-- 'laws.FnExactMakePitch', WHERE WHAT IT READS IS OF BULK AT MOST 1048576: true; the input reads as it did. -/
def fnExactMakePitchUptoRow : OpenClaim := { program := "ytgoaofkbegfinaa", sum := "71c677bc60bc5a975d388b9cf66730fab36c0e99b742851ae82a88928b92dcc5", func := "loop.example/g00989/laws.FnExactMakePitch", spec := "fnExactMakePitch", apart := false, narrowed := true }
def FnExactMakePitchUptoSaid : Prop := fnExactMakePitchUptoRow.holds Try.pinned (OpenSpec.upto fnExactMakePitchSpec)

/-- 'laws.FnExactComparePitches', WHERE WHAT IT READS IS OF BULK AT MOST 1048576: true; the input reads as it did. -/
def fnExactComparePitchesUptoRow : OpenClaim := { program := "ytgoaofkbegfinaa", sum := "71c677bc60bc5a975d388b9cf66730fab36c0e99b742851ae82a88928b92dcc5", func := "loop.example/g00989/laws.FnExactComparePitches", spec := "fnExactComparePitches", unfollowed := true, recurses := true, apart := false, narrowed := true }
def FnExactComparePitchesUptoSaid : Prop := fnExactComparePitchesUptoRow.holds Try.pinned (OpenSpec.upto fnExactComparePitchesSpec)

/-- 'laws.FnExactTimesPitch', WHERE WHAT IT READS IS OF BULK AT MOST 1048576: true; the input reads as it did. -/
def fnExactTimesPitchUptoRow : OpenClaim := { program := "ytgoaofkbegfinaa", sum := "71c677bc60bc5a975d388b9cf66730fab36c0e99b742851ae82a88928b92dcc5", func := "loop.example/g00989/laws.FnExactTimesPitch", spec := "fnExactTimesPitch", apart := false, narrowed := true }
def FnExactTimesPitchUptoSaid : Prop := fnExactTimesPitchUptoRow.holds Try.pinned (OpenSpec.upto fnExactTimesPitchSpec)

end Rows
end Go.Proofs.Ytgoaofkbegfinaa
