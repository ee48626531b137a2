/-
  No cell of these rows narrows 'for every input' (looked for: loops, veiled, ifaces, maps, wideKeys, modest, calm, conditions, laid).
  DERIVED. THE GIVEN ROWS OF THIS SEAT. 6 by the template 'for every input the law returns true; each argument reads behind the call as it read before'; 0 by the template 'total and deterministic' (their statements: YtohhocheikdhlaaTotals.lean).
  GIVEN WITH THE SEED: the statements are not yours to turn. If you find one false, say at which input.
  Laid BY PROGRAM, IN A SANDBOX (cutbox-rows.mjs): the forced cells as the released guide's own fill.sh prints them over the translation c8a398caa8aee755… (all of the seat's roots in one cut). By AI agents, Wed Nov 11 2026. No macro, syntax, notation, axiom, sorry.
-/
import Derived.Test.YtohhocheikdhlaaChecked
import GoSem.Claim
import GoSem.ClaimJoined
import GoSem.ClaimMapViews
import Derived.JoinedTies
import Derived.KernelRfl
namespace Go.Proofs.Ytohhocheikdhlaa
/- THE CELL 'sum', in the pinned program and in every row, IS THE sha256 OF THE DUMP (.gsa) THAT YtohhocheikdhlaaProg.lean LOADS. Nothing in Lean hashes anything: it is a label: what it is worth is what the hold of that sum in a sandbox is worth. -/
noncomputable def Try.pinned : Pinned := { name := "ytohhocheikdhlaa", sum := "c8a398caa8aee755327d1742e99f2f288b8c8e93c614b2d842b82e50a39fcc3e", checked := Try.checked }
namespace Rows
def none {H : Type} : Left H := { results := [], args := [] }

/-- 'laws.FnRepeated': WHATEVER THE INPUT: true; the input reads as it did. -/
def fnRepeatedSpec : ChangeSpec := { name := "fnRepeated", fn := fun _ => fun
  | [d] => { results := [.lit (.bool true)], args := [d] }
  | _ => none }
def fnRepeatedRow : OpenClaim := { program := "ytohhocheikdhlaa", sum := "c8a398caa8aee755327d1742e99f2f288b8c8e93c614b2d842b82e50a39fcc3e", func := "loop.example/g00989/laws.FnRepeated", spec := "fnRepeated", apart := false }
def FnRepeatedSaid : Prop := fnRepeatedRow.holds Try.pinned (OpenSpec.ofChange fnRepeatedSpec)

/-- ITS FALSE NEIGHBOUR: 'it returns false'. Refute it at one input. -/
def fnRepeatedWrong : ChangeSpec := { name := "fnRepeated", fn := fun _ => fun
  | [d] => { results := [.lit (.bool false)], args := [d] }
  | _ => none }
def FnRepeatedWrongFalsely : Prop := fnRepeatedRow.holds Try.pinned (OpenSpec.ofChange fnRepeatedWrong)

/-- 'laws.FnExactIntervalOk': WHATEVER THE INPUT: true; the input reads as it did. -/
def fnExactIntervalOkSpec : ChangeSpec := { name := "fnExactIntervalOk", fn := fun _ => fun
  | [d] => { results := [.lit (.bool true)], args := [d] }
  | _ => none }
def fnExactIntervalOkRow : OpenClaim := { program := "ytohhocheikdhlaa", sum := "c8a398caa8aee755327d1742e99f2f288b8c8e93c614b2d842b82e50a39fcc3e", func := "loop.example/g00989/laws.FnExactIntervalOk", spec := "fnExactIntervalOk", apart := false }
def FnExactIntervalOkSaid : Prop := fnExactIntervalOkRow.holds Try.pinned (OpenSpec.ofChange fnExactIntervalOkSpec)

/-- ITS FALSE NEIGHBOUR: 'it returns false'. Refute it at one input. -/
def fnExactIntervalOkWrong : ChangeSpec := { name := "fnExactIntervalOk", fn := fun _ => fun
  | [d] => { results := [.lit (.bool false)], args := [d] }
  | _ => none }
def FnExactIntervalOkWrongFalsely : Prop := fnExactIntervalOkRow.holds Try.pinned (OpenSpec.ofChange fnExactIntervalOkWrong)

/-- 'laws.FnExactSimplestOf': WHATEVER THE INPUT: true; the input reads as it did. -/
def fnExactSimplestOfSpec : ChangeSpec := { name := "fnExactSimplestOf", fn := fun _ => fun
  | [d] => { results := [.lit (.bool true)], args := [d] }
  | _ => none }
def fnExactSimplestOfRow : OpenClaim := { program := "ytohhocheikdhlaa", sum := "c8a398caa8aee755327d1742e99f2f288b8c8e93c614b2d842b82e50a39fcc3e", func := "loop.example/g00989/laws.FnExactSimplestOf", spec := "fnExactSimplestOf", apart := false }
def FnExactSimplestOfSaid : Prop := fnExactSimplestOfRow.holds Try.pinned (OpenSpec.ofChange fnExactSimplestOfSpec)

/-- ITS FALSE NEIGHBOUR: 'it returns false'. Refute it at one input. -/
def fnExactSimplestOfWrong : ChangeSpec := { name := "fnExactSimplestOf", fn := fun _ => fun
  | [d] => { results := [.lit (.bool false)], args := [d] }
  | _ => none }
def FnExactSimplestOfWrongFalsely : Prop := fnExactSimplestOfRow.holds Try.pinned (OpenSpec.ofChange fnExactSimplestOfWrong)

/-- 'laws.FnExactAddIntervals': WHATEVER THE INPUT: true; the input reads as it did. -/
def fnExactAddIntervalsSpec : ChangeSpec := { name := "fnExactAddIntervals", fn := fun _ => fun
  | [d1, d2] => { results := [.lit (.bool true)], args := [d1, d2] }
  | _ => none }
def fnExactAddIntervalsRow : OpenClaim := { program := "ytohhocheikdhlaa", sum := "c8a398caa8aee755327d1742e99f2f288b8c8e93c614b2d842b82e50a39fcc3e", func := "loop.example/g00989/laws.FnExactAddIntervals", spec := "fnExactAddIntervals", apart := false }
def FnExactAddIntervalsSaid : Prop := fnExactAddIntervalsRow.holds Try.pinned (OpenSpec.ofChange fnExactAddIntervalsSpec)

/-- ITS FALSE NEIGHBOUR: 'it returns false'. Refute it at one input. -/
def fnExactAddIntervalsWrong : ChangeSpec := { name := "fnExactAddIntervals", fn := fun _ => fun
  | [d1, d2] => { results := [.lit (.bool false)], args := [d1, d2] }
  | _ => none }
def FnExactAddIntervalsWrongFalsely : Prop := fnExactAddIntervalsRow.holds Try.pinned (OpenSpec.ofChange fnExactAddIntervalsWrong)

/-- 'laws.FnExactTimesInterval': WHATEVER THE INPUT: true; the input reads as it did. -/
def fnExactTimesIntervalSpec : ChangeSpec := { name := "fnExactTimesInterval", fn := fun _ => fun
  | [d1, d2] => { results := [.lit (.bool true)], args := [d1, d2] }
  | _ => none }
def fnExactTimesIntervalRow : OpenClaim := { program := "ytohhocheikdhlaa", sum := "c8a398caa8aee755327d1742e99f2f288b8c8e93c614b2d842b82e50a39fcc3e", func := "loop.example/g00989/laws.FnExactTimesInterval", spec := "fnExactTimesInterval", apart := false }
def FnExactTimesIntervalSaid : Prop := fnExactTimesIntervalRow.holds Try.pinned (OpenSpec.ofChange fnExactTimesIntervalSpec)

/-- ITS FALSE NEIGHBOUR: 'it returns false'. Refute it at one input. -/
def fnExactTimesIntervalWrong : ChangeSpec := { name := "fnExactTimesInterval", fn := fun _ => fun
  | [d1, d2] => { results := [.lit (.bool false)], args := [d1, d2] }
  | _ => none }
def FnExactTimesIntervalWrongFalsely : Prop := fnExactTimesIntervalRow.holds Try.pinned (OpenSpec.ofChange fnExactTimesIntervalWrong)

/-- 'laws.FnExactPureOf': WHATEVER THE INPUT: true; the input reads as it did. -/
def fnExactPureOfSpec : ChangeSpec := { name := "fnExactPureOf", fn := fun _ => fun
  | [d1, d2, d3] => { results := [.lit (.bool true)], args := [d1, d2, d3] }
  | _ => none }
def fnExactPureOfRow : OpenClaim := { program := "ytohhocheikdhlaa", sum := "c8a398caa8aee755327d1742e99f2f288b8c8e93c614b2d842b82e50a39fcc3e", func := "loop.example/g00989/laws.FnExactPureOf", spec := "fnExactPureOf", apart := false }
def FnExactPureOfSaid : Prop := fnExactPureOfRow.holds Try.pinned (OpenSpec.ofChange fnExactPureOfSpec)

/-- ITS FALSE NEIGHBOUR: 'it returns false'. Refute it at one input. -/
def fnExactPureOfWrong : ChangeSpec := { name := "fnExactPureOf", fn := fun _ => fun
  | [d1, d2, d3] => { results := [.lit (.bool false)], args := [d1, d2, d3] }
  | _ => none }
def FnExactPureOfWrongFalsely : Prop := fnExactPureOfRow.holds Try.pinned (OpenSpec.ofChange fnExactPureOfWrong)

/- THE SECOND FORM. 'bulk': how many values and letters a reading holds, each counted each time it is reached (what is shared counts as often as it is met; a slice's spare places count too). A statement '..UptoSaid' is the law's where the arguments, and the package variables that the reading takes, are together of bulk at most 1048576: NARROWER than '..Said'. Prove '..Said' where nothing that the law and all that it calls make is longer than what came in: it says more and counts as full. Else prove '..UptoSaid'. A law counts once. -/
mutual
def uptoBulk {H : Type} : DataW H → Nat
  | .lit (.string bytes) => bytes.length + 1
  | .lit _ => 1
  | .nil => 1
  | .ptr d => uptoBulk d + 1
  | .slice elems spare => uptoBulkAll elems + uptoBulkAll spare + 1
  | .agg parts => uptoBulkAll parts + 1
  | .iface _ d => uptoBulk d + 1
  | .map entries => uptoBulkEntries entries + 1
  | .held _ => 1
def uptoBulkAll {H : Type} : List (DataW H) → Nat
  | [] => 0
  | d :: r => uptoBulk d + uptoBulkAll r
def uptoBulkEntries {H : Type} : List (Lit × DataW H) → Nat
  | [] => 0
  | x :: r => uptoBulkEntry x + uptoBulkEntries r
def uptoBulkEntry {H : Type} : Lit × DataW H → Nat
  | (.string bytes, d) => bytes.length + uptoBulk d + 1
  | (_, d) => uptoBulk d + 1
 end
def uptoSmall : (H : Type) → List (DataW H) → Bool := fun _ ds => decide (uptoBulkAll ds ≤ 1048576)
def OpenSpec.upto (s : _root_.Go.ChangeSpec) : _root_.Go.OpenSpec := { _root_.Go.OpenSpec.ofChange s with cond := some uptoSmall }

/-- 'laws.FnRepeated', WHERE WHAT IT READS IS OF BULK AT MOST 1048576: true; the input reads as it did. -/
def fnRepeatedUptoRow : OpenClaim := { program := "ytohhocheikdhlaa", sum := "c8a398caa8aee755327d1742e99f2f288b8c8e93c614b2d842b82e50a39fcc3e", func := "loop.example/g00989/laws.FnRepeated", spec := "fnRepeated", apart := false, narrowed := true }
def FnRepeatedUptoSaid : Prop := fnRepeatedUptoRow.holds Try.pinned (OpenSpec.upto fnRepeatedSpec)

/-- 'laws.FnExactIntervalOk', WHERE WHAT IT READS IS OF BULK AT MOST 1048576: true; the input reads as it did. -/
def fnExactIntervalOkUptoRow : OpenClaim := { program := "ytohhocheikdhlaa", sum := "c8a398caa8aee755327d1742e99f2f288b8c8e93c614b2d842b82e50a39fcc3e", func := "loop.example/g00989/laws.FnExactIntervalOk", spec := "fnExactIntervalOk", apart := false, narrowed := true }
def FnExactIntervalOkUptoSaid : Prop := fnExactIntervalOkUptoRow.holds Try.pinned (OpenSpec.upto fnExactIntervalOkSpec)

/-- 'laws.FnExactSimplestOf', WHERE WHAT IT READS IS OF BULK AT MOST 1048576: true; the input reads as it did. -/
def fnExactSimplestOfUptoRow : OpenClaim := { program := "ytohhocheikdhlaa", sum := "c8a398caa8aee755327d1742e99f2f288b8c8e93c614b2d842b82e50a39fcc3e", func := "loop.example/g00989/laws.FnExactSimplestOf", spec := "fnExactSimplestOf", apart := false, narrowed := true }
def FnExactSimplestOfUptoSaid : Prop := fnExactSimplestOfUptoRow.holds Try.pinned (OpenSpec.upto fnExactSimplestOfSpec)

/-- 'laws.FnExactAddIntervals', WHERE WHAT IT READS IS OF BULK AT MOST 1048576: true; the input reads as it did. -/
def fnExactAddIntervalsUptoRow : OpenClaim := { program := "ytohhocheikdhlaa", sum := "c8a398caa8aee755327d1742e99f2f288b8c8e93c614b2d842b82e50a39fcc3e", func := "loop.example/g00989/laws.FnExactAddIntervals", spec := "fnExactAddIntervals", apart := false, narrowed := true }
def FnExactAddIntervalsUptoSaid : Prop := fnExactAddIntervalsUptoRow.holds Try.pinned (OpenSpec.upto fnExactAddIntervalsSpec)

/-- 'laws.FnExactTimesInterval', WHERE WHAT IT READS IS OF BULK AT MOST 1048576: true; the input reads as it did. -/
def fnExactTimesIntervalUptoRow : OpenClaim := { program := "ytohhocheikdhlaa", sum := "c8a398caa8aee755327d1742e99f2f288b8c8e93c614b2d842b82e50a39fcc3e", func := "loop.example/g00989/laws.FnExactTimesInterval", spec := "fnExactTimesInterval", apart := false, narrowed := true }
def FnExactTimesIntervalUptoSaid : Prop := fnExactTimesIntervalUptoRow.holds Try.pinned (OpenSpec.upto fnExactTimesIntervalSpec)

/-- 'laws.FnExactPureOf', WHERE WHAT IT READS IS OF BULK AT MOST 1048576: true; the input reads as it did. -/
def fnExactPureOfUptoRow : OpenClaim := { program := "ytohhocheikdhlaa", sum := "c8a398caa8aee755327d1742e99f2f288b8c8e93c614b2d842b82e50a39fcc3e", func := "loop.example/g00989/laws.FnExactPureOf", spec := "fnExactPureOf", apart := false, narrowed := true }
def FnExactPureOfUptoSaid : Prop := fnExactPureOfUptoRow.holds Try.pinned (OpenSpec.upto fnExactPureOfSpec)

end Rows
end Go.Proofs.Ytohhocheikdhlaa
