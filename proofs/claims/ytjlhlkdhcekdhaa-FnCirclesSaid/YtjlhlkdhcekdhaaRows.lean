/-
  No cell of these rows narrows 'for every input' (looked for: loops, veiled, ifaces, maps, wideKeys, modest, calm, conditions, laid).
  DERIVED. THE GIVEN ROWS OF THIS SEAT. 6 by the template 'for every input the law returns true; each argument reads behind the call as it read before'; 0 by the template 'total and deterministic' (their statements: YtjlhlkdhcekdhaaTotals.lean).
  GIVEN WITH THE SEED: the statements are not yours to turn. If you find one false, say at which input.
  Laid BY PROGRAM, IN A SANDBOX (cutbox-rows.mjs): the forced cells as the released guide's own fill.sh prints them over the translation 184caa7c49d85fd7… (all of the seat's roots in one cut). By AI agents, Wed Nov 11 2026. No macro, syntax, notation, axiom, sorry.
-/
import Derived.Test.YtjlhlkdhcekdhaaChecked
import GoSem.Claim
import GoSem.ClaimJoined
import GoSem.ClaimMapViews
import Derived.JoinedTies
import Derived.KernelRfl
namespace Go.Proofs.Ytjlhlkdhcekdhaa
/- THE CELL 'sum', in the pinned program and in every row, IS THE sha256 OF THE DUMP (.gsa) THAT YtjlhlkdhcekdhaaProg.lean LOADS. Nothing in Lean hashes anything: it is a label: what it is worth is what the hold of that sum in a sandbox is worth. -/
noncomputable def Try.pinned : Pinned := { name := "ytjlhlkdhcekdhaa", sum := "184caa7c49d85fd75f49f283c85910f279bb153a0aa741aa44f973de30088b98", checked := Try.checked }
namespace Rows
def none {H : Type} : Left H := { results := [], args := [] }

/-- 'laws.FnCircles': WHATEVER THE INPUT: true; the input reads as it did. -/
def fnCirclesSpec : ChangeSpec := { name := "fnCircles", fn := fun _ => fun
  | [d] => { results := [.lit (.bool true)], args := [d] }
  | _ => none }
def fnCirclesRow : OpenClaim := { program := "ytjlhlkdhcekdhaa", sum := "184caa7c49d85fd75f49f283c85910f279bb153a0aa741aa44f973de30088b98", func := "loop.example/g00989/laws.FnCircles", spec := "fnCircles", apart := false }
def FnCirclesSaid : Prop := fnCirclesRow.holds Try.pinned (OpenSpec.ofChange fnCirclesSpec)

/-- ITS FALSE NEIGHBOUR: 'it returns false'. Refute it at one input. -/
def fnCirclesWrong : ChangeSpec := { name := "fnCircles", fn := fun _ => fun
  | [d] => { results := [.lit (.bool false)], args := [d] }
  | _ => none }
def FnCirclesWrongFalsely : Prop := fnCirclesRow.holds Try.pinned (OpenSpec.ofChange fnCirclesWrong)

/-- 'laws.FnExactCircleOk': WHATEVER THE INPUT: true; the input reads as it did. -/
def fnExactCircleOkSpec : ChangeSpec := { name := "fnExactCircleOk", fn := fun _ => fun
  | [d] => { results := [.lit (.bool true)], args := [d] }
  | _ => none }
def fnExactCircleOkRow : OpenClaim := { program := "ytjlhlkdhcekdhaa", sum := "184caa7c49d85fd75f49f283c85910f279bb153a0aa741aa44f973de30088b98", func := "loop.example/g00989/laws.FnExactCircleOk", spec := "fnExactCircleOk", apart := false }
def FnExactCircleOkSaid : Prop := fnExactCircleOkRow.holds Try.pinned (OpenSpec.ofChange fnExactCircleOkSpec)

/-- ITS FALSE NEIGHBOUR: 'it returns false'. Refute it at one input. -/
def fnExactCircleOkWrong : ChangeSpec := { name := "fnExactCircleOk", fn := fun _ => fun
  | [d] => { results := [.lit (.bool false)], args := [d] }
  | _ => none }
def FnExactCircleOkWrongFalsely : Prop := fnExactCircleOkRow.holds Try.pinned (OpenSpec.ofChange fnExactCircleOkWrong)

/-- 'laws.FnExactEqualCircle': WHATEVER THE INPUT: true; the input reads as it did. -/
def fnExactEqualCircleSpec : ChangeSpec := { name := "fnExactEqualCircle", fn := fun _ => fun
  | [] => { results := [.lit (.bool true)], args := [] }
  | _ => none }
def fnExactEqualCircleRow : OpenClaim := { program := "ytjlhlkdhcekdhaa", sum := "184caa7c49d85fd75f49f283c85910f279bb153a0aa741aa44f973de30088b98", func := "loop.example/g00989/laws.FnExactEqualCircle", spec := "fnExactEqualCircle", apart := false }
def FnExactEqualCircleSaid : Prop := fnExactEqualCircleRow.holds Try.pinned (OpenSpec.ofChange fnExactEqualCircleSpec)

/-- ITS FALSE NEIGHBOUR: 'it returns false'. Refute it at one input. -/
def fnExactEqualCircleWrong : ChangeSpec := { name := "fnExactEqualCircle", fn := fun _ => fun
  | [] => { results := [.lit (.bool false)], args := [] }
  | _ => none }
def FnExactEqualCircleWrongFalsely : Prop := fnExactEqualCircleRow.holds Try.pinned (OpenSpec.ofChange fnExactEqualCircleWrong)

/-- 'laws.FnExactFifthAt': WHATEVER THE INPUT: true; the input reads as it did. -/
def fnExactFifthAtSpec : ChangeSpec := { name := "fnExactFifthAt", fn := fun _ => fun
  | [d1, d2] => { results := [.lit (.bool true)], args := [d1, d2] }
  | _ => none }
def fnExactFifthAtRow : OpenClaim := { program := "ytjlhlkdhcekdhaa", sum := "184caa7c49d85fd75f49f283c85910f279bb153a0aa741aa44f973de30088b98", func := "loop.example/g00989/laws.FnExactFifthAt", spec := "fnExactFifthAt", apart := false }
def FnExactFifthAtSaid : Prop := fnExactFifthAtRow.holds Try.pinned (OpenSpec.ofChange fnExactFifthAtSpec)

/-- ITS FALSE NEIGHBOUR: 'it returns false'. Refute it at one input. -/
def fnExactFifthAtWrong : ChangeSpec := { name := "fnExactFifthAt", fn := fun _ => fun
  | [d1, d2] => { results := [.lit (.bool false)], args := [d1, d2] }
  | _ => none }
def FnExactFifthAtWrongFalsely : Prop := fnExactFifthAtRow.holds Try.pinned (OpenSpec.ofChange fnExactFifthAtWrong)

/-- 'laws.FnExactPitchAt': WHATEVER THE INPUT: true; the input reads as it did. -/
def fnExactPitchAtSpec : ChangeSpec := { name := "fnExactPitchAt", fn := fun _ => fun
  | [d1, d2] => { results := [.lit (.bool true)], args := [d1, d2] }
  | _ => none }
def fnExactPitchAtRow : OpenClaim := { program := "ytjlhlkdhcekdhaa", sum := "184caa7c49d85fd75f49f283c85910f279bb153a0aa741aa44f973de30088b98", func := "loop.example/g00989/laws.FnExactPitchAt", spec := "fnExactPitchAt", apart := false }
def FnExactPitchAtSaid : Prop := fnExactPitchAtRow.holds Try.pinned (OpenSpec.ofChange fnExactPitchAtSpec)

/-- ITS FALSE NEIGHBOUR: 'it returns false'. Refute it at one input. -/
def fnExactPitchAtWrong : ChangeSpec := { name := "fnExactPitchAt", fn := fun _ => fun
  | [d1, d2] => { results := [.lit (.bool false)], args := [d1, d2] }
  | _ => none }
def FnExactPitchAtWrongFalsely : Prop := fnExactPitchAtRow.holds Try.pinned (OpenSpec.ofChange fnExactPitchAtWrong)

/-- 'laws.FnExactTurnCircle': WHATEVER THE INPUT: true; the input reads as it did. -/
def fnExactTurnCircleSpec : ChangeSpec := { name := "fnExactTurnCircle", fn := fun _ => fun
  | [d1, d2] => { results := [.lit (.bool true)], args := [d1, d2] }
  | _ => none }
def fnExactTurnCircleRow : OpenClaim := { program := "ytjlhlkdhcekdhaa", sum := "184caa7c49d85fd75f49f283c85910f279bb153a0aa741aa44f973de30088b98", func := "loop.example/g00989/laws.FnExactTurnCircle", spec := "fnExactTurnCircle", apart := false }
def FnExactTurnCircleSaid : Prop := fnExactTurnCircleRow.holds Try.pinned (OpenSpec.ofChange fnExactTurnCircleSpec)

/-- ITS FALSE NEIGHBOUR: 'it returns false'. Refute it at one input. -/
def fnExactTurnCircleWrong : ChangeSpec := { name := "fnExactTurnCircle", fn := fun _ => fun
  | [d1, d2] => { results := [.lit (.bool false)], args := [d1, d2] }
  | _ => none }
def FnExactTurnCircleWrongFalsely : Prop := fnExactTurnCircleRow.holds Try.pinned (OpenSpec.ofChange fnExactTurnCircleWrong)

/- THE SECOND FORM. 'bulk': how many values and letters a reading holds, each counted each time it is reached (what is shared counts as often as it is met; a slice's spare places count too). A statement '..UptoSaid' is the law's where the arguments, and the package variables that the reading takes, are together of bulk at most 1048576: NARROWER than '..Said'. Prove '..Said' where nothing that the law and all that it calls make is longer than what came in: it says more and counts as full. Else prove '..UptoSaid'. A law counts once. -/
mutual
def uptoBulk {H : Type} : DataW H → Nat
  | .lit (.string bytes) => bytes.length + 1
  | .lit _ => 1
  | .nil => 1
  | .ptr d => uptoBulk d + 1
  | .slice elems spare => uptoBulkAll elems + uptoBulkAll spare + 1
  | .agg parts => uptoBulkAll parts + 1
  | .iface _ d => uptoBulk d + 1
  | .map entries => uptoBulkEntries entries + 1
  | .held _ => 1
def uptoBulkAll {H : Type} : List (DataW H) → Nat
  | [] => 0
  | d :: r => uptoBulk d + uptoBulkAll r
def uptoBulkEntries {H : Type} : List (Lit × DataW H) → Nat
  | [] => 0
  | x :: r => uptoBulkEntry x + uptoBulkEntries r
def uptoBulkEntry {H : Type} : Lit × DataW H → Nat
  | (.string bytes, d) => bytes.length + uptoBulk d + 1
  | (_, d) => uptoBulk d + 1
 end
def uptoSmall : (H : Type) → List (DataW H) → Bool := fun _ ds => decide (uptoBulkAll ds ≤ 1048576)
def OpenSpec.upto (s : _root_.Go.ChangeSpec) : _root_.Go.OpenSpec := { _root_.Go.OpenSpec.ofChange s with cond := some uptoSmall }

/-- 'laws.FnCircles', WHERE WHAT IT READS IS OF BULK AT MOST 1048576: true; the input reads as it did. -/
def fnCirclesUptoRow : OpenClaim := { program := "ytjlhlkdhcekdhaa", sum := "184caa7c49d85fd75f49f283c85910f279bb153a0aa741aa44f973de30088b98", func := "loop.example/g00989/laws.FnCircles", spec := "fnCircles", apart := false, narrowed := true }
def FnCirclesUptoSaid : Prop := fnCirclesUptoRow.holds Try.pinned (OpenSpec.upto fnCirclesSpec)

/-- 'laws.FnExactCircleOk', WHERE WHAT IT READS IS OF BULK AT MOST 1048576: true; the input reads as it did. -/
def fnExactCircleOkUptoRow : OpenClaim := { program := "ytjlhlkdhcekdhaa", sum := "184caa7c49d85fd75f49f283c85910f279bb153a0aa741aa44f973de30088b98", func := "loop.example/g00989/laws.FnExactCircleOk", spec := "fnExactCircleOk", apart := false, narrowed := true }
def FnExactCircleOkUptoSaid : Prop := fnExactCircleOkUptoRow.holds Try.pinned (OpenSpec.upto fnExactCircleOkSpec)

/-- 'laws.FnExactEqualCircle', WHERE WHAT IT READS IS OF BULK AT MOST 1048576: true; the input reads as it did. -/
def fnExactEqualCircleUptoRow : OpenClaim := { program := "ytjlhlkdhcekdhaa", sum := "184caa7c49d85fd75f49f283c85910f279bb153a0aa741aa44f973de30088b98", func := "loop.example/g00989/laws.FnExactEqualCircle", spec := "fnExactEqualCircle", apart := false, narrowed := true }
def FnExactEqualCircleUptoSaid : Prop := fnExactEqualCircleUptoRow.holds Try.pinned (OpenSpec.upto fnExactEqualCircleSpec)

/-- 'laws.FnExactFifthAt', WHERE WHAT IT READS IS OF BULK AT MOST 1048576: true; the input reads as it did. -/
def fnExactFifthAtUptoRow : OpenClaim := { program := "ytjlhlkdhcekdhaa", sum := "184caa7c49d85fd75f49f283c85910f279bb153a0aa741aa44f973de30088b98", func := "loop.example/g00989/laws.FnExactFifthAt", spec := "fnExactFifthAt", apart := false, narrowed := true }
def FnExactFifthAtUptoSaid : Prop := fnExactFifthAtUptoRow.holds Try.pinned (OpenSpec.upto fnExactFifthAtSpec)

/-- 'laws.FnExactPitchAt', WHERE WHAT IT READS IS OF BULK AT MOST 1048576: true; the input reads as it did. -/
def fnExactPitchAtUptoRow : OpenClaim := { program := "ytjlhlkdhcekdhaa", sum := "184caa7c49d85fd75f49f283c85910f279bb153a0aa741aa44f973de30088b98", func := "loop.example/g00989/laws.FnExactPitchAt", spec := "fnExactPitchAt", apart := false, narrowed := true }
def FnExactPitchAtUptoSaid : Prop := fnExactPitchAtUptoRow.holds Try.pinned (OpenSpec.upto fnExactPitchAtSpec)

/-- 'laws.FnExactTurnCircle', WHERE WHAT IT READS IS OF BULK AT MOST 1048576: true; the input reads as it did. -/
def fnExactTurnCircleUptoRow : OpenClaim := { program := "ytjlhlkdhcekdhaa", sum := "184caa7c49d85fd75f49f283c85910f279bb153a0aa741aa44f973de30088b98", func := "loop.example/g00989/laws.FnExactTurnCircle", spec := "fnExactTurnCircle", apart := false, narrowed := true }
def FnExactTurnCircleUptoSaid : Prop := fnExactTurnCircleUptoRow.holds Try.pinned (OpenSpec.upto fnExactTurnCircleSpec)

end Rows
end Go.Proofs.Ytjlhlkdhcekdhaa
