/-
  No cell of these rows narrows 'for every input' (looked for: loops, veiled, ifaces, maps, wideKeys, modest, calm, conditions, laid).
  DERIVED. THE GIVEN ROWS OF THIS SEAT. 6 by the template 'for every input the law returns true; each argument reads behind the call as it read before'; 0 by the template 'total and deterministic' (their statements: YtjheechgkicklaaTotals.lean).
  GIVEN WITH THE SEED: the statements are not yours to turn. If you find one false, say at which input.
  Laid BY PROGRAM, IN A SANDBOX (cutbox-rows.mjs): the forced cells as the released guide's own fill.sh prints them over the translation a628a43e57284d76… (all of the seat's roots in one cut). By AI agents, Wed Nov 11 2026. No macro, syntax, notation, axiom, sorry.
-/
import Derived.Test.YtjheechgkicklaaChecked
import GoSem.Claim
import GoSem.ClaimJoined
import GoSem.ClaimMapViews
import Derived.JoinedTies
import Derived.KernelRfl
namespace Go.Proofs.Ytjheechgkicklaa
/- THE CELL 'sum', in the pinned program and in every row, IS THE sha256 OF THE DUMP (.gsa) THAT YtjheechgkicklaaProg.lean LOADS. Nothing in Lean hashes anything: it is a label: what it is worth is what the hold of that sum in a sandbox is worth. -/
noncomputable def Try.pinned : Pinned := { name := "ytjheechgkicklaa", sum := "a628a43e57284d769de2e9736470123dfb0bfa0d3d80c2dd125a2eef5ca373c5", checked := Try.checked }
namespace Rows
def none {H : Type} : Left H := { results := [], args := [] }

/-- 'laws.FnPowers': WHATEVER THE INPUT: true; the input reads as it did. -/
def fnPowersSpec : ChangeSpec := { name := "fnPowers", fn := fun _ => fun
  | [d] => { results := [.lit (.bool true)], args := [d] }
  | _ => none }
def fnPowersRow : OpenClaim := { program := "ytjheechgkicklaa", sum := "a628a43e57284d769de2e9736470123dfb0bfa0d3d80c2dd125a2eef5ca373c5", func := "loop.example/g00989/laws.FnPowers", spec := "fnPowers", apart := false }
def FnPowersSaid : Prop := fnPowersRow.holds Try.pinned (OpenSpec.ofChange fnPowersSpec)

/-- ITS FALSE NEIGHBOUR: 'it returns false'. Refute it at one input. -/
def fnPowersWrong : ChangeSpec := { name := "fnPowers", fn := fun _ => fun
  | [d] => { results := [.lit (.bool false)], args := [d] }
  | _ => none }
def FnPowersWrongFalsely : Prop := fnPowersRow.holds Try.pinned (OpenSpec.ofChange fnPowersWrong)

/-- 'laws.FnExactBigOk': WHATEVER THE INPUT: true; the input reads as it did. -/
def fnExactBigOkSpec : ChangeSpec := { name := "fnExactBigOk", fn := fun _ => fun
  | [d] => { results := [.lit (.bool true)], args := [d] }
  | _ => none }
def fnExactBigOkRow : OpenClaim := { program := "ytjheechgkicklaa", sum := "a628a43e57284d769de2e9736470123dfb0bfa0d3d80c2dd125a2eef5ca373c5", func := "loop.example/g00989/laws.FnExactBigOk", spec := "fnExactBigOk", apart := false }
def FnExactBigOkSaid : Prop := fnExactBigOkRow.holds Try.pinned (OpenSpec.ofChange fnExactBigOkSpec)

/-- ITS FALSE NEIGHBOUR: 'it returns false'. Refute it at one input. -/
def fnExactBigOkWrong : ChangeSpec := { name := "fnExactBigOk", fn := fun _ => fun
  | [d] => { results := [.lit (.bool false)], args := [d] }
  | _ => none }
def FnExactBigOkWrongFalsely : Prop := fnExactBigOkRow.holds Try.pinned (OpenSpec.ofChange fnExactBigOkWrong)

/-- 'laws.FnExactBigOf': WHATEVER THE INPUT: true; the input reads as it did. -/
def fnExactBigOfSpec : ChangeSpec := { name := "fnExactBigOf", fn := fun _ => fun
  | [d] => { results := [.lit (.bool true)], args := [d] }
  | _ => none }
def fnExactBigOfRow : OpenClaim := { program := "ytjheechgkicklaa", sum := "a628a43e57284d769de2e9736470123dfb0bfa0d3d80c2dd125a2eef5ca373c5", func := "loop.example/g00989/laws.FnExactBigOf", spec := "fnExactBigOf", apart := false }
def FnExactBigOfSaid : Prop := fnExactBigOfRow.holds Try.pinned (OpenSpec.ofChange fnExactBigOfSpec)

/-- ITS FALSE NEIGHBOUR: 'it returns false'. Refute it at one input. -/
def fnExactBigOfWrong : ChangeSpec := { name := "fnExactBigOf", fn := fun _ => fun
  | [d] => { results := [.lit (.bool false)], args := [d] }
  | _ => none }
def FnExactBigOfWrongFalsely : Prop := fnExactBigOfRow.holds Try.pinned (OpenSpec.ofChange fnExactBigOfWrong)

/-- 'laws.FnExactTimesBig': WHATEVER THE INPUT: true; the input reads as it did. -/
def fnExactTimesBigSpec : ChangeSpec := { name := "fnExactTimesBig", fn := fun _ => fun
  | [d1, d2] => { results := [.lit (.bool true)], args := [d1, d2] }
  | _ => none }
def fnExactTimesBigRow : OpenClaim := { program := "ytjheechgkicklaa", sum := "a628a43e57284d769de2e9736470123dfb0bfa0d3d80c2dd125a2eef5ca373c5", func := "loop.example/g00989/laws.FnExactTimesBig", spec := "fnExactTimesBig", apart := false }
def FnExactTimesBigSaid : Prop := fnExactTimesBigRow.holds Try.pinned (OpenSpec.ofChange fnExactTimesBigSpec)

/-- ITS FALSE NEIGHBOUR: 'it returns false'. Refute it at one input. -/
def fnExactTimesBigWrong : ChangeSpec := { name := "fnExactTimesBig", fn := fun _ => fun
  | [d1, d2] => { results := [.lit (.bool false)], args := [d1, d2] }
  | _ => none }
def FnExactTimesBigWrongFalsely : Prop := fnExactTimesBigRow.holds Try.pinned (OpenSpec.ofChange fnExactTimesBigWrong)

/-- 'laws.FnExactPowerBig': WHATEVER THE INPUT: true; the input reads as it did. -/
def fnExactPowerBigSpec : ChangeSpec := { name := "fnExactPowerBig", fn := fun _ => fun
  | [d1, d2] => { results := [.lit (.bool true)], args := [d1, d2] }
  | _ => none }
def fnExactPowerBigRow : OpenClaim := { program := "ytjheechgkicklaa", sum := "a628a43e57284d769de2e9736470123dfb0bfa0d3d80c2dd125a2eef5ca373c5", func := "loop.example/g00989/laws.FnExactPowerBig", spec := "fnExactPowerBig", apart := false }
def FnExactPowerBigSaid : Prop := fnExactPowerBigRow.holds Try.pinned (OpenSpec.ofChange fnExactPowerBigSpec)

/-- ITS FALSE NEIGHBOUR: 'it returns false'. Refute it at one input. -/
def fnExactPowerBigWrong : ChangeSpec := { name := "fnExactPowerBig", fn := fun _ => fun
  | [d1, d2] => { results := [.lit (.bool false)], args := [d1, d2] }
  | _ => none }
def FnExactPowerBigWrongFalsely : Prop := fnExactPowerBigRow.holds Try.pinned (OpenSpec.ofChange fnExactPowerBigWrong)

/-- 'laws.FnExactCompareBig': WHATEVER THE INPUT: true; the input reads as it did. -/
def fnExactCompareBigSpec : ChangeSpec := { name := "fnExactCompareBig", fn := fun _ => fun
  | [d1, d2] => { results := [.lit (.bool true)], args := [d1, d2] }
  | _ => none }
def fnExactCompareBigRow : OpenClaim := { program := "ytjheechgkicklaa", sum := "a628a43e57284d769de2e9736470123dfb0bfa0d3d80c2dd125a2eef5ca373c5", func := "loop.example/g00989/laws.FnExactCompareBig", spec := "fnExactCompareBig", apart := false }
def FnExactCompareBigSaid : Prop := fnExactCompareBigRow.holds Try.pinned (OpenSpec.ofChange fnExactCompareBigSpec)

/-- ITS FALSE NEIGHBOUR: 'it returns false'. Refute it at one input. -/
def fnExactCompareBigWrong : ChangeSpec := { name := "fnExactCompareBig", fn := fun _ => fun
  | [d1, d2] => { results := [.lit (.bool false)], args := [d1, d2] }
  | _ => none }
def FnExactCompareBigWrongFalsely : Prop := fnExactCompareBigRow.holds Try.pinned (OpenSpec.ofChange fnExactCompareBigWrong)

/- THE SECOND FORM. 'bulk': how many values and letters a reading holds, each counted each time it is reached (what is shared counts as often as it is met; a slice's spare places count too). A statement '..UptoSaid' is the law's where the arguments, and the package variables that the reading takes, are together of bulk at most 1048576: NARROWER than '..Said'. Prove '..Said' where nothing that the law and all that it calls make is longer than what came in: it says more and counts as full. Else prove '..UptoSaid'. A law counts once. -/
mutual
def uptoBulk {H : Type} : DataW H → Nat
  | .lit (.string bytes) => bytes.length + 1
  | .lit _ => 1
  | .nil => 1
  | .ptr d => uptoBulk d + 1
  | .slice elems spare => uptoBulkAll elems + uptoBulkAll spare + 1
  | .agg parts => uptoBulkAll parts + 1
  | .iface _ d => uptoBulk d + 1
  | .map entries => uptoBulkEntries entries + 1
  | .held _ => 1
def uptoBulkAll {H : Type} : List (DataW H) → Nat
  | [] => 0
  | d :: r => uptoBulk d + uptoBulkAll r
def uptoBulkEntries {H : Type} : List (Lit × DataW H) → Nat
  | [] => 0
  | x :: r => uptoBulkEntry x + uptoBulkEntries r
def uptoBulkEntry {H : Type} : Lit × DataW H → Nat
  | (.string bytes, d) => bytes.length + uptoBulk d + 1
  | (_, d) => uptoBulk d + 1
 end
def uptoSmall : (H : Type) → List (DataW H) → Bool := fun _ ds => decide (uptoBulkAll ds ≤ 1048576)
def OpenSpec.upto (s : _root_.Go.ChangeSpec) : _root_.Go.OpenSpec := { _root_.Go.OpenSpec.ofChange s with cond := some uptoSmall }

/-- 'laws.FnPowers', WHERE WHAT IT READS IS OF BULK AT MOST 1048576: true; the input reads as it did. -/
def fnPowersUptoRow : OpenClaim := { program := "ytjheechgkicklaa", sum := "a628a43e57284d769de2e9736470123dfb0bfa0d3d80c2dd125a2eef5ca373c5", func := "loop.example/g00989/laws.FnPowers", spec := "fnPowers", apart := false, narrowed := true }
def FnPowersUptoSaid : Prop := fnPowersUptoRow.holds Try.pinned (OpenSpec.upto fnPowersSpec)

/-- 'laws.FnExactBigOk', WHERE WHAT IT READS IS OF BULK AT MOST 1048576: true; the input reads as it did. -/
def fnExactBigOkUptoRow : OpenClaim := { program := "ytjheechgkicklaa", sum := "a628a43e57284d769de2e9736470123dfb0bfa0d3d80c2dd125a2eef5ca373c5", func := "loop.example/g00989/laws.FnExactBigOk", spec := "fnExactBigOk", apart := false, narrowed := true }
def FnExactBigOkUptoSaid : Prop := fnExactBigOkUptoRow.holds Try.pinned (OpenSpec.upto fnExactBigOkSpec)

/-- 'laws.FnExactBigOf', WHERE WHAT IT READS IS OF BULK AT MOST 1048576: true; the input reads as it did. -/
def fnExactBigOfUptoRow : OpenClaim := { program := "ytjheechgkicklaa", sum := "a628a43e57284d769de2e9736470123dfb0bfa0d3d80c2dd125a2eef5ca373c5", func := "loop.example/g00989/laws.FnExactBigOf", spec := "fnExactBigOf", apart := false, narrowed := true }
def FnExactBigOfUptoSaid : Prop := fnExactBigOfUptoRow.holds Try.pinned (OpenSpec.upto fnExactBigOfSpec)

/-- 'laws.FnExactTimesBig', WHERE WHAT IT READS IS OF BULK AT MOST 1048576: true; the input reads as it did. -/
def fnExactTimesBigUptoRow : OpenClaim := { program := "ytjheechgkicklaa", sum := "a628a43e57284d769de2e9736470123dfb0bfa0d3d80c2dd125a2eef5ca373c5", func := "loop.example/g00989/laws.FnExactTimesBig", spec := "fnExactTimesBig", apart := false, narrowed := true }
def FnExactTimesBigUptoSaid : Prop := fnExactTimesBigUptoRow.holds Try.pinned (OpenSpec.upto fnExactTimesBigSpec)

/-- 'laws.FnExactPowerBig', WHERE WHAT IT READS IS OF BULK AT MOST 1048576: true; the input reads as it did. -/
def fnExactPowerBigUptoRow : OpenClaim := { program := "ytjheechgkicklaa", sum := "a628a43e57284d769de2e9736470123dfb0bfa0d3d80c2dd125a2eef5ca373c5", func := "loop.example/g00989/laws.FnExactPowerBig", spec := "fnExactPowerBig", apart := false, narrowed := true }
def FnExactPowerBigUptoSaid : Prop := fnExactPowerBigUptoRow.holds Try.pinned (OpenSpec.upto fnExactPowerBigSpec)

/-- 'laws.FnExactCompareBig', WHERE WHAT IT READS IS OF BULK AT MOST 1048576: true; the input reads as it did. -/
def fnExactCompareBigUptoRow : OpenClaim := { program := "ytjheechgkicklaa", sum := "a628a43e57284d769de2e9736470123dfb0bfa0d3d80c2dd125a2eef5ca373c5", func := "loop.example/g00989/laws.FnExactCompareBig", spec := "fnExactCompareBig", apart := false, narrowed := true }
def FnExactCompareBigUptoSaid : Prop := fnExactCompareBigUptoRow.holds Try.pinned (OpenSpec.upto fnExactCompareBigSpec)

end Rows
end Go.Proofs.Ytjheechgkicklaa
