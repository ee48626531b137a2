/-
  NARROWER THAN 'FOR EVERY INPUT', by the rows' own cells (each row's printed sentence says how): FnExactIsWideThird: ifaces, laid · FnThirds: ifaces, laid.
  DERIVED. THE GIVEN ROWS OF THIS SEAT. 2 by the template 'for every input the law returns true; each argument reads behind the call as it read before'; 0 by the template 'total and deterministic' (their statements: YtnlfmiheapcodaaDoorTotals.lean).
  GIVEN WITH THE SEED: the statements are not yours to turn. If you find one false, say at which input.
  Laid BY PROGRAM, IN A SANDBOX (cutbox-rows.mjs): the forced cells as the released guide's own fill.sh prints them over the translation 43676fec22509b11… (all of the seat's roots in one cut). By AI agents, Wed Nov 11 2026. No macro, syntax, notation, axiom, sorry.
-/
import Derived.Test.YtnlfmiheapcodaaDoorChecked
import GoSem.Claim
import GoSem.ClaimJoined
import GoSem.ClaimMapViews
import Derived.JoinedTies
import Derived.KernelRfl
namespace Go.Proofs.YtnlfmiheapcodaaDoor
/- THE CELL 'sum', in the pinned program and in every row, IS THE sha256 OF THE DUMP (.gsa) THAT YtnlfmiheapcodaaDoorProg.lean LOADS. Nothing in Lean hashes anything: it is a label: what it is worth is what the hold of that sum in a sandbox is worth. -/
noncomputable def Tryd.pinned : Pinned := { name := "ytnlfmiheapcodaadoor", sum := "43676fec22509b11602502753e9420ca2d77745631d526ee615da52b30bc759d", checked := Tryd.checked }
namespace Rows
def none {H : Type} : Left H := { results := [], args := [] }

/- WHAT THE LISTED PACKAGE-LEVEL VARIABLES READ AS WHEN THE CALL BEGINS. Each datum BY PROGRAM (the guide's laid-datum.mjs) off the statement by which the dump's own 'gosem.cut.vars' lays the variable. In a bare row this is a premise. The card (YtnlfmiheapcodaaDoorCards.lean) ties it to the program's text. -/
def laid_loop_example_g00989_impl_errInvalidInterval {H : Type} : DataW H := .iface "*errors.errorString" (.ptr (.agg [.lit (.string [116, 104, 101, 32, 105, 110, 116, 101, 114, 118, 97, 108, 32, 105, 115, 32, 110, 111, 116, 32, 118, 97, 108, 105, 100])]))

/-- 'laws.FnExactIsWideThird': WHATEVER THE INPUT: true; the input reads as it did. -/
def fnExactIsWideThirdSpec : ChangeSpec := { name := "fnExactIsWideThird", vars := ["loop.example/g00989/impl.errInvalidInterval"], fn := fun _ => fun
  | [d1, d2, g1] => { results := [.lit (.bool true)], args := [d1, d2], vars := [g1] }
  | _ => none }
def fnExactIsWideThirdRow : OpenClaim := { program := "ytnlfmiheapcodaadoor", sum := "43676fec22509b11602502753e9420ca2d77745631d526ee615da52b30bc759d", func := "loop.example/g00989/laws.FnExactIsWideThird", spec := "fnExactIsWideThird", inPlace := ["internal/reflectlite.TypeOf"], unfollowed := true, recurses := true, named := ["loop.example/g00989/impl.errInvalidInterval"], ifaces := true, apart := false, laid := [("loop.example/g00989/impl.errInvalidInterval", laid_loop_example_g00989_impl_errInvalidInterval)] }
def FnExactIsWideThirdSaid : Prop := fnExactIsWideThirdRow.holds Tryd.pinned (OpenSpec.ofChange fnExactIsWideThirdSpec)

/-- ITS FALSE NEIGHBOUR: 'it returns false'. Refute it at one input. -/
def fnExactIsWideThirdWrong : ChangeSpec := { name := "fnExactIsWideThird", vars := ["loop.example/g00989/impl.errInvalidInterval"], fn := fun _ => fun
  | [d1, d2, g1] => { results := [.lit (.bool false)], args := [d1, d2], vars := [g1] }
  | _ => none }
def FnExactIsWideThirdWrongFalsely : Prop := fnExactIsWideThirdRow.holds Tryd.pinned (OpenSpec.ofChange fnExactIsWideThirdWrong)

/-- 'laws.FnThirds': WHATEVER THE INPUT: true; the input reads as it did. -/
def fnThirdsSpec : ChangeSpec := { name := "fnThirds", vars := ["loop.example/g00989/impl.errInvalidInterval"], fn := fun _ => fun
  | [d, g1] => { results := [.lit (.bool true)], args := [d], vars := [g1] }
  | _ => none }
def fnThirdsRow : OpenClaim := { program := "ytnlfmiheapcodaadoor", sum := "43676fec22509b11602502753e9420ca2d77745631d526ee615da52b30bc759d", func := "loop.example/g00989/laws.FnThirds", spec := "fnThirds", inPlace := ["internal/reflectlite.TypeOf"], unfollowed := true, recurses := true, named := ["loop.example/g00989/impl.errInvalidInterval"], ifaces := true, apart := false, laid := [("loop.example/g00989/impl.errInvalidInterval", laid_loop_example_g00989_impl_errInvalidInterval)] }
def FnThirdsSaid : Prop := fnThirdsRow.holds Tryd.pinned (OpenSpec.ofChange fnThirdsSpec)

/-- ITS FALSE NEIGHBOUR: 'it returns false'. Refute it at one input. -/
def fnThirdsWrong : ChangeSpec := { name := "fnThirds", vars := ["loop.example/g00989/impl.errInvalidInterval"], fn := fun _ => fun
  | [d, g1] => { results := [.lit (.bool false)], args := [d], vars := [g1] }
  | _ => none }
def FnThirdsWrongFalsely : Prop := fnThirdsRow.holds Tryd.pinned (OpenSpec.ofChange fnThirdsWrong)

/- THE SECOND FORM. 'bulk': how many values and letters a reading holds, each counted each time it is reached (what is shared counts as often as it is met; a slice's spare places count too). A statement '..UptoSaid' is the law's where the arguments, and the package variables that the reading takes, are together of bulk at most 1048576: NARROWER than '..Said'. Prove '..Said' where nothing that the law and all that it calls make is longer than what came in: it says more and counts as full. Else prove '..UptoSaid'. A law counts once. -/
mutual
def uptoBulk {H : Type} : DataW H → Nat
  | .lit (.string bytes) => bytes.length + 1
  | .lit _ => 1
  | .nil => 1
  | .ptr d => uptoBulk d + 1
  | .slice elems spare => uptoBulkAll elems + uptoBulkAll spare + 1
  | .agg parts => uptoBulkAll parts + 1
  | .iface _ d => uptoBulk d + 1
  | .map entries => uptoBulkEntries entries + 1
  | .held _ => 1
def uptoBulkAll {H : Type} : List (DataW H) → Nat
  | [] => 0
  | d :: r => uptoBulk d + uptoBulkAll r
def uptoBulkEntries {H : Type} : List (Lit × DataW H) → Nat
  | [] => 0
  | x :: r => uptoBulkEntry x + uptoBulkEntries r
def uptoBulkEntry {H : Type} : Lit × DataW H → Nat
  | (.string bytes, d) => bytes.length + uptoBulk d + 1
  | (_, d) => uptoBulk d + 1
 end
def uptoSmall : (H : Type) → List (DataW H) → Bool := fun _ ds => decide (uptoBulkAll ds ≤ 1048576)
def OpenSpec.upto (s : _root_.Go.ChangeSpec) : _root_.Go.OpenSpec := { _root_.Go.OpenSpec.ofChange s with cond := some uptoSmall }

/-- 'laws.FnExactIsWideThird', WHERE WHAT IT READS IS OF BULK AT MOST 1048576: true; the input reads as it did. -/
def fnExactIsWideThirdUptoRow : OpenClaim := { program := "ytnlfmiheapcodaadoor", sum := "43676fec22509b11602502753e9420ca2d77745631d526ee615da52b30bc759d", func := "loop.example/g00989/laws.FnExactIsWideThird", spec := "fnExactIsWideThird", inPlace := ["internal/reflectlite.TypeOf"], unfollowed := true, recurses := true, named := ["loop.example/g00989/impl.errInvalidInterval"], ifaces := true, apart := false, laid := [("loop.example/g00989/impl.errInvalidInterval", laid_loop_example_g00989_impl_errInvalidInterval)], narrowed := true }
def FnExactIsWideThirdUptoSaid : Prop := fnExactIsWideThirdUptoRow.holds Tryd.pinned (OpenSpec.upto fnExactIsWideThirdSpec)

/-- 'laws.FnThirds', WHERE WHAT IT READS IS OF BULK AT MOST 1048576: true; the input reads as it did. -/
def fnThirdsUptoRow : OpenClaim := { program := "ytnlfmiheapcodaadoor", sum := "43676fec22509b11602502753e9420ca2d77745631d526ee615da52b30bc759d", func := "loop.example/g00989/laws.FnThirds", spec := "fnThirds", inPlace := ["internal/reflectlite.TypeOf"], unfollowed := true, recurses := true, named := ["loop.example/g00989/impl.errInvalidInterval"], ifaces := true, apart := false, laid := [("loop.example/g00989/impl.errInvalidInterval", laid_loop_example_g00989_impl_errInvalidInterval)], narrowed := true }
def FnThirdsUptoSaid : Prop := fnThirdsUptoRow.holds Tryd.pinned (OpenSpec.upto fnThirdsSpec)

end Rows
end Go.Proofs.YtnlfmiheapcodaaDoor
