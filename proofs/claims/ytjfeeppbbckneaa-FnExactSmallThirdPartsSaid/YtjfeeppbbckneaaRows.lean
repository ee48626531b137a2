/-
  No cell of these rows narrows 'for every input' (looked for: loops, veiled, ifaces, maps, wideKeys, modest, calm, conditions, laid).
  DERIVED. THE GIVEN ROWS OF THIS SEAT. 9 by the template 'for every input the law returns true; each argument reads behind the call as it read before'; 0 by the template 'total and deterministic' (their statements: YtjfeeppbbckneaaTotals.lean).
  GIVEN WITH THE SEED: the statements are not yours to turn. If you find one false, say at which input.
  Laid BY PROGRAM, IN A SANDBOX (cutbox-rows.mjs): the forced cells as the released guide's own fill.sh prints them over the translation 37a9d65c31cfe7b3… (all of the seat's roots in one cut). By AI agents, Wed Nov 11 2026. No macro, syntax, notation, axiom, sorry.
-/
import Derived.Test.YtjfeeppbbckneaaChecked
import GoSem.Claim
import GoSem.ClaimJoined
import GoSem.ClaimMapViews
import Derived.JoinedTies
import Derived.KernelRfl
namespace Go.Proofs.Ytjfeeppbbckneaa
/- THE CELL 'sum', in the pinned program and in every row, IS THE sha256 OF THE DUMP (.gsa) THAT YtjfeeppbbckneaaProg.lean LOADS. Nothing in Lean hashes anything: it is a label: what it is worth is what the hold of that sum in a sandbox is worth. -/
noncomputable def Try.pinned : Pinned := { name := "ytjfeeppbbckneaa", sum := "37a9d65c31cfe7b35f82bd71b26b2446c3ea0d493e04724b02245d9345d52717", checked := Try.checked }
namespace Rows
def none {H : Type} : Left H := { results := [], args := [] }

/-- 'laws.FnCircles': WHATEVER THE INPUT: true; the input reads as it did. -/
def fnCirclesSpec : ChangeSpec := { name := "fnCircles", fn := fun _ => fun
  | [d] => { results := [.lit (.bool true)], args := [d] }
  | _ => none }
def fnCirclesRow : OpenClaim := { program := "ytjfeeppbbckneaa", sum := "37a9d65c31cfe7b35f82bd71b26b2446c3ea0d493e04724b02245d9345d52717", func := "loop.example/g00989/laws.FnCircles", spec := "fnCircles", apart := false }
def FnCirclesSaid : Prop := fnCirclesRow.holds Try.pinned (OpenSpec.ofChange fnCirclesSpec)

/-- ITS FALSE NEIGHBOUR: 'it returns false'. Refute it at one input. -/
def fnCirclesWrong : ChangeSpec := { name := "fnCircles", fn := fun _ => fun
  | [d] => { results := [.lit (.bool false)], args := [d] }
  | _ => none }
def FnCirclesWrongFalsely : Prop := fnCirclesRow.holds Try.pinned (OpenSpec.ofChange fnCirclesWrong)

/-- 'laws.FnExactCircleOk': WHATEVER THE INPUT: true; the input reads as it did. -/
def fnExactCircleOkSpec : ChangeSpec := { name := "fnExactCircleOk", fn := fun _ => fun
  | [d] => { results := [.lit (.bool true)], args := [d] }
  | _ => none }
def fnExactCircleOkRow : OpenClaim := { program := "ytjfeeppbbckneaa", sum := "37a9d65c31cfe7b35f82bd71b26b2446c3ea0d493e04724b02245d9345d52717", func := "loop.example/g00989/laws.FnExactCircleOk", spec := "fnExactCircleOk", apart := false }
def FnExactCircleOkSaid : Prop := fnExactCircleOkRow.holds Try.pinned (OpenSpec.ofChange fnExactCircleOkSpec)

/-- ITS FALSE NEIGHBOUR: 'it returns false'. Refute it at one input. -/
def fnExactCircleOkWrong : ChangeSpec := { name := "fnExactCircleOk", fn := fun _ => fun
  | [d] => { results := [.lit (.bool false)], args := [d] }
  | _ => none }
def FnExactCircleOkWrongFalsely : Prop := fnExactCircleOkRow.holds Try.pinned (OpenSpec.ofChange fnExactCircleOkWrong)

/-- 'laws.FnExactFifthAt': WHATEVER THE INPUT: true; the input reads as it did. -/
def fnExactFifthAtSpec : ChangeSpec := { name := "fnExactFifthAt", fn := fun _ => fun
  | [d1, d2] => { results := [.lit (.bool true)], args := [d1, d2] }
  | _ => none }
def fnExactFifthAtRow : OpenClaim := { program := "ytjfeeppbbckneaa", sum := "37a9d65c31cfe7b35f82bd71b26b2446c3ea0d493e04724b02245d9345d52717", func := "loop.example/g00989/laws.FnExactFifthAt", spec := "fnExactFifthAt", apart := false }
def FnExactFifthAtSaid : Prop := fnExactFifthAtRow.holds Try.pinned (OpenSpec.ofChange fnExactFifthAtSpec)

/-- ITS FALSE NEIGHBOUR: 'it returns false'. Refute it at one input. -/
def fnExactFifthAtWrong : ChangeSpec := { name := "fnExactFifthAt", fn := fun _ => fun
  | [d1, d2] => { results := [.lit (.bool false)], args := [d1, d2] }
  | _ => none }
def FnExactFifthAtWrongFalsely : Prop := fnExactFifthAtRow.holds Try.pinned (OpenSpec.ofChange fnExactFifthAtWrong)

/-- 'laws.FnExactPitchAt': WHATEVER THE INPUT: true; the input reads as it did. -/
def fnExactPitchAtSpec : ChangeSpec := { name := "fnExactPitchAt", fn := fun _ => fun
  | [d1, d2] => { results := [.lit (.bool true)], args := [d1, d2] }
  | _ => none }
def fnExactPitchAtRow : OpenClaim := { program := "ytjfeeppbbckneaa", sum := "37a9d65c31cfe7b35f82bd71b26b2446c3ea0d493e04724b02245d9345d52717", func := "loop.example/g00989/laws.FnExactPitchAt", spec := "fnExactPitchAt", apart := false }
def FnExactPitchAtSaid : Prop := fnExactPitchAtRow.holds Try.pinned (OpenSpec.ofChange fnExactPitchAtSpec)

/-- ITS FALSE NEIGHBOUR: 'it returns false'. Refute it at one input. -/
def fnExactPitchAtWrong : ChangeSpec := { name := "fnExactPitchAt", fn := fun _ => fun
  | [d1, d2] => { results := [.lit (.bool false)], args := [d1, d2] }
  | _ => none }
def FnExactPitchAtWrongFalsely : Prop := fnExactPitchAtRow.holds Try.pinned (OpenSpec.ofChange fnExactPitchAtWrong)

/-- 'laws.FnExactTurnCircle': WHATEVER THE INPUT: true; the input reads as it did. -/
def fnExactTurnCircleSpec : ChangeSpec := { name := "fnExactTurnCircle", fn := fun _ => fun
  | [d1, d2] => { results := [.lit (.bool true)], args := [d1, d2] }
  | _ => none }
def fnExactTurnCircleRow : OpenClaim := { program := "ytjfeeppbbckneaa", sum := "37a9d65c31cfe7b35f82bd71b26b2446c3ea0d493e04724b02245d9345d52717", func := "loop.example/g00989/laws.FnExactTurnCircle", spec := "fnExactTurnCircle", apart := false }
def FnExactTurnCircleSaid : Prop := fnExactTurnCircleRow.holds Try.pinned (OpenSpec.ofChange fnExactTurnCircleSpec)

/-- ITS FALSE NEIGHBOUR: 'it returns false'. Refute it at one input. -/
def fnExactTurnCircleWrong : ChangeSpec := { name := "fnExactTurnCircle", fn := fun _ => fun
  | [d1, d2] => { results := [.lit (.bool false)], args := [d1, d2] }
  | _ => none }
def FnExactTurnCircleWrongFalsely : Prop := fnExactTurnCircleRow.holds Try.pinned (OpenSpec.ofChange fnExactTurnCircleWrong)

/-- 'laws.FnExactThirdParts': WHATEVER THE INPUT: true; the input reads as it did. -/
def fnExactThirdPartsSpec : ChangeSpec := { name := "fnExactThirdParts", fn := fun _ => fun
  | [d1, d2] => { results := [.lit (.bool true)], args := [d1, d2] }
  | _ => none }
def fnExactThirdPartsRow : OpenClaim := { program := "ytjfeeppbbckneaa", sum := "37a9d65c31cfe7b35f82bd71b26b2446c3ea0d493e04724b02245d9345d52717", func := "loop.example/g00989/laws.FnExactThirdParts", spec := "fnExactThirdParts", apart := false }
def FnExactThirdPartsSaid : Prop := fnExactThirdPartsRow.holds Try.pinned (OpenSpec.ofChange fnExactThirdPartsSpec)

/-- ITS FALSE NEIGHBOUR: 'it returns false'. Refute it at one input. -/
def fnExactThirdPartsWrong : ChangeSpec := { name := "fnExactThirdParts", fn := fun _ => fun
  | [d1, d2] => { results := [.lit (.bool false)], args := [d1, d2] }
  | _ => none }
def FnExactThirdPartsWrongFalsely : Prop := fnExactThirdPartsRow.holds Try.pinned (OpenSpec.ofChange fnExactThirdPartsWrong)

/-- 'laws.FnExactThirdAt': WHATEVER THE INPUT: true; the input reads as it did. -/
def fnExactThirdAtSpec : ChangeSpec := { name := "fnExactThirdAt", fn := fun _ => fun
  | [d1, d2] => { results := [.lit (.bool true)], args := [d1, d2] }
  | _ => none }
def fnExactThirdAtRow : OpenClaim := { program := "ytjfeeppbbckneaa", sum := "37a9d65c31cfe7b35f82bd71b26b2446c3ea0d493e04724b02245d9345d52717", func := "loop.example/g00989/laws.FnExactThirdAt", spec := "fnExactThirdAt", apart := false }
def FnExactThirdAtSaid : Prop := fnExactThirdAtRow.holds Try.pinned (OpenSpec.ofChange fnExactThirdAtSpec)

/-- ITS FALSE NEIGHBOUR: 'it returns false'. Refute it at one input. -/
def fnExactThirdAtWrong : ChangeSpec := { name := "fnExactThirdAt", fn := fun _ => fun
  | [d1, d2] => { results := [.lit (.bool false)], args := [d1, d2] }
  | _ => none }
def FnExactThirdAtWrongFalsely : Prop := fnExactThirdAtRow.holds Try.pinned (OpenSpec.ofChange fnExactThirdAtWrong)

/-- 'laws.FnExactThirdError': WHATEVER THE INPUT: true; the input reads as it did. -/
def fnExactThirdErrorSpec : ChangeSpec := { name := "fnExactThirdError", fn := fun _ => fun
  | [d1, d2] => { results := [.lit (.bool true)], args := [d1, d2] }
  | _ => none }
def fnExactThirdErrorRow : OpenClaim := { program := "ytjfeeppbbckneaa", sum := "37a9d65c31cfe7b35f82bd71b26b2446c3ea0d493e04724b02245d9345d52717", func := "loop.example/g00989/laws.FnExactThirdError", spec := "fnExactThirdError", apart := false }
def FnExactThirdErrorSaid : Prop := fnExactThirdErrorRow.holds Try.pinned (OpenSpec.ofChange fnExactThirdErrorSpec)

/-- ITS FALSE NEIGHBOUR: 'it returns false'. Refute it at one input. -/
def fnExactThirdErrorWrong : ChangeSpec := { name := "fnExactThirdError", fn := fun _ => fun
  | [d1, d2] => { results := [.lit (.bool false)], args := [d1, d2] }
  | _ => none }
def FnExactThirdErrorWrongFalsely : Prop := fnExactThirdErrorRow.holds Try.pinned (OpenSpec.ofChange fnExactThirdErrorWrong)

/-- 'laws.FnExactSmallThirdParts': WHATEVER THE INPUT: true; the input reads as it did. -/
def fnExactSmallThirdPartsSpec : ChangeSpec := { name := "fnExactSmallThirdParts", fn := fun _ => fun
  | [d1, d2] => { results := [.lit (.bool true)], args := [d1, d2] }
  | _ => none }
def fnExactSmallThirdPartsRow : OpenClaim := { program := "ytjfeeppbbckneaa", sum := "37a9d65c31cfe7b35f82bd71b26b2446c3ea0d493e04724b02245d9345d52717", func := "loop.example/g00989/laws.FnExactSmallThirdParts", spec := "fnExactSmallThirdParts", apart := false }
def FnExactSmallThirdPartsSaid : Prop := fnExactSmallThirdPartsRow.holds Try.pinned (OpenSpec.ofChange fnExactSmallThirdPartsSpec)

/-- ITS FALSE NEIGHBOUR: 'it returns false'. Refute it at one input. -/
def fnExactSmallThirdPartsWrong : ChangeSpec := { name := "fnExactSmallThirdParts", fn := fun _ => fun
  | [d1, d2] => { results := [.lit (.bool false)], args := [d1, d2] }
  | _ => none }
def FnExactSmallThirdPartsWrongFalsely : Prop := fnExactSmallThirdPartsRow.holds Try.pinned (OpenSpec.ofChange fnExactSmallThirdPartsWrong)

/- THE SECOND FORM. 'bulk': how many values and letters a reading holds, each counted each time it is reached (what is shared counts as often as it is met; a slice's spare places count too). A statement '..UptoSaid' is the law's where the arguments, and the package variables that the reading takes, are together of bulk at most 1048576: NARROWER than '..Said'. Prove '..Said' where nothing that the law and all that it calls make is longer than what came in: it says more and counts as full. Else prove '..UptoSaid'. A law counts once. -/
mutual
def uptoBulk {H : Type} : DataW H → Nat
  | .lit (.string bytes) => bytes.length + 1
  | .lit _ => 1
  | .nil => 1
  | .ptr d => uptoBulk d + 1
  | .slice elems spare => uptoBulkAll elems + uptoBulkAll spare + 1
  | .agg parts => uptoBulkAll parts + 1
  | .iface _ d => uptoBulk d + 1
  | .map entries => uptoBulkEntries entries + 1
  | .held _ => 1
def uptoBulkAll {H : Type} : List (DataW H) → Nat
  | [] => 0
  | d :: r => uptoBulk d + uptoBulkAll r
def uptoBulkEntries {H : Type} : List (Lit × DataW H) → Nat
  | [] => 0
  | x :: r => uptoBulkEntry x + uptoBulkEntries r
def uptoBulkEntry {H : Type} : Lit × DataW H → Nat
  | (.string bytes, d) => bytes.length + uptoBulk d + 1
  | (_, d) => uptoBulk d + 1
 end
def uptoSmall : (H : Type) → List (DataW H) → Bool := fun _ ds => decide (uptoBulkAll ds ≤ 1048576)
def OpenSpec.upto (s : _root_.Go.ChangeSpec) : _root_.Go.OpenSpec := { _root_.Go.OpenSpec.ofChange s with cond := some uptoSmall }

/-- 'laws.FnCircles', WHERE WHAT IT READS IS OF BULK AT MOST 1048576: true; the input reads as it did. -/
def fnCirclesUptoRow : OpenClaim := { program := "ytjfeeppbbckneaa", sum := "37a9d65c31cfe7b35f82bd71b26b2446c3ea0d493e04724b02245d9345d52717", func := "loop.example/g00989/laws.FnCircles", spec := "fnCircles", apart := false, narrowed := true }
def FnCirclesUptoSaid : Prop := fnCirclesUptoRow.holds Try.pinned (OpenSpec.upto fnCirclesSpec)

/-- 'laws.FnExactCircleOk', WHERE WHAT IT READS IS OF BULK AT MOST 1048576: true; the input reads as it did. -/
def fnExactCircleOkUptoRow : OpenClaim := { program := "ytjfeeppbbckneaa", sum := "37a9d65c31cfe7b35f82bd71b26b2446c3ea0d493e04724b02245d9345d52717", func := "loop.example/g00989/laws.FnExactCircleOk", spec := "fnExactCircleOk", apart := false, narrowed := true }
def FnExactCircleOkUptoSaid : Prop := fnExactCircleOkUptoRow.holds Try.pinned (OpenSpec.upto fnExactCircleOkSpec)

/-- 'laws.FnExactFifthAt', WHERE WHAT IT READS IS OF BULK AT MOST 1048576: true; the input reads as it did. -/
def fnExactFifthAtUptoRow : OpenClaim := { program := "ytjfeeppbbckneaa", sum := "37a9d65c31cfe7b35f82bd71b26b2446c3ea0d493e04724b02245d9345d52717", func := "loop.example/g00989/laws.FnExactFifthAt", spec := "fnExactFifthAt", apart := false, narrowed := true }
def FnExactFifthAtUptoSaid : Prop := fnExactFifthAtUptoRow.holds Try.pinned (OpenSpec.upto fnExactFifthAtSpec)

/-- 'laws.FnExactPitchAt', WHERE WHAT IT READS IS OF BULK AT MOST 1048576: true; the input reads as it did. -/
def fnExactPitchAtUptoRow : OpenClaim := { program := "ytjfeeppbbckneaa", sum := "37a9d65c31cfe7b35f82bd71b26b2446c3ea0d493e04724b02245d9345d52717", func := "loop.example/g00989/laws.FnExactPitchAt", spec := "fnExactPitchAt", apart := false, narrowed := true }
def FnExactPitchAtUptoSaid : Prop := fnExactPitchAtUptoRow.holds Try.pinned (OpenSpec.upto fnExactPitchAtSpec)

/-- 'laws.FnExactTurnCircle', WHERE WHAT IT READS IS OF BULK AT MOST 1048576: true; the input reads as it did. -/
def fnExactTurnCircleUptoRow : OpenClaim := { program := "ytjfeeppbbckneaa", sum := "37a9d65c31cfe7b35f82bd71b26b2446c3ea0d493e04724b02245d9345d52717", func := "loop.example/g00989/laws.FnExactTurnCircle", spec := "fnExactTurnCircle", apart := false, narrowed := true }
def FnExactTurnCircleUptoSaid : Prop := fnExactTurnCircleUptoRow.holds Try.pinned (OpenSpec.upto fnExactTurnCircleSpec)

/-- 'laws.FnExactThirdParts', WHERE WHAT IT READS IS OF BULK AT MOST 1048576: true; the input reads as it did. -/
def fnExactThirdPartsUptoRow : OpenClaim := { program := "ytjfeeppbbckneaa", sum := "37a9d65c31cfe7b35f82bd71b26b2446c3ea0d493e04724b02245d9345d52717", func := "loop.example/g00989/laws.FnExactThirdParts", spec := "fnExactThirdParts", apart := false, narrowed := true }
def FnExactThirdPartsUptoSaid : Prop := fnExactThirdPartsUptoRow.holds Try.pinned (OpenSpec.upto fnExactThirdPartsSpec)

/-- 'laws.FnExactThirdAt', WHERE WHAT IT READS IS OF BULK AT MOST 1048576: true; the input reads as it did. -/
def fnExactThirdAtUptoRow : OpenClaim := { program := "ytjfeeppbbckneaa", sum := "37a9d65c31cfe7b35f82bd71b26b2446c3ea0d493e04724b02245d9345d52717", func := "loop.example/g00989/laws.FnExactThirdAt", spec := "fnExactThirdAt", apart := false, narrowed := true }
def FnExactThirdAtUptoSaid : Prop := fnExactThirdAtUptoRow.holds Try.pinned (OpenSpec.upto fnExactThirdAtSpec)

/-- 'laws.FnExactThirdError', WHERE WHAT IT READS IS OF BULK AT MOST 1048576: true; the input reads as it did. -/
def fnExactThirdErrorUptoRow : OpenClaim := { program := "ytjfeeppbbckneaa", sum := "37a9d65c31cfe7b35f82bd71b26b2446c3ea0d493e04724b02245d9345d52717", func := "loop.example/g00989/laws.FnExactThirdError", spec := "fnExactThirdError", apart := false, narrowed := true }
def FnExactThirdErrorUptoSaid : Prop := fnExactThirdErrorUptoRow.holds Try.pinned (OpenSpec.upto fnExactThirdErrorSpec)

/-- 'laws.FnExactSmallThirdParts', WHERE WHAT IT READS IS OF BULK AT MOST 1048576: true; the input reads as it did. -/
def fnExactSmallThirdPartsUptoRow : OpenClaim := { program := "ytjfeeppbbckneaa", sum := "37a9d65c31cfe7b35f82bd71b26b2446c3ea0d493e04724b02245d9345d52717", func := "loop.example/g00989/laws.FnExactSmallThirdParts", spec := "fnExactSmallThirdParts", apart := false, narrowed := true }
def FnExactSmallThirdPartsUptoSaid : Prop := fnExactSmallThirdPartsUptoRow.holds Try.pinned (OpenSpec.upto fnExactSmallThirdPartsSpec)

end Rows
end Go.Proofs.Ytjfeeppbbckneaa
