/-
  NARROWER THAN 'FOR EVERY INPUT', by the rows' own cells (each row's printed sentence says how): FnFifths: ifaces, laid · FnThreeSteps: ifaces, laid · FnExactChainOf: ifaces, laid · FnOctaves: ifaces, laid.
  DERIVED. THE GIVEN ROWS OF THIS SEAT. 4 by the template 'for every input the law returns true; each argument reads behind the call as it read before'; 0 by the template 'total and deterministic' (their statements: YtbckbmcnakedcaaDoorTotals.lean).
  GIVEN WITH THE SEED: the statements are not yours to turn. If you find one false, say at which input.
  Laid BY PROGRAM, IN A SANDBOX (cutbox-rows.mjs): the forced cells as the released guide's own fill.sh prints them over the translation d362f1a0f31c9a39… (all of the seat's roots in one cut). By AI agents, Wed Nov 11 2026. No macro, syntax, notation, axiom, sorry.
-/
import Derived.Test.YtbckbmcnakedcaaDoorChecked
import GoSem.Claim
import GoSem.ClaimJoined
import GoSem.ClaimMapViews
import Derived.JoinedTies
import Derived.KernelRfl
namespace Go.Proofs.YtbckbmcnakedcaaDoor
/- THE CELL 'sum', in the pinned program and in every row, IS THE sha256 OF THE DUMP (.gsa) THAT YtbckbmcnakedcaaDoorProg.lean LOADS. Nothing in Lean hashes anything: it is a label: what it is worth is what the hold of that sum in a sandbox is worth. -/
noncomputable def Tryd.pinned : Pinned := { name := "ytbckbmcnakedcaadoor", sum := "d362f1a0f31c9a39f259ce67ba91b0ae2ab403b2381167df572ea431c0fc013f", checked := Tryd.checked }
namespace Rows
def none {H : Type} : Left H := { results := [], args := [] }

/- WHAT THE LISTED PACKAGE-LEVEL VARIABLES READ AS WHEN THE CALL BEGINS. Each datum BY PROGRAM (the guide's laid-datum.mjs) off the statement by which the dump's own 'gosem.cut.vars' lays the variable. In a bare row this is a premise. The card (YtbckbmcnakedcaaDoorCards.lean) ties it to the program's text. -/
def laid_loop_example_g00989_impl_errInvalidInterval {H : Type} : DataW H := .iface "*errors.errorString" (.ptr (.agg [.lit (.string [116, 104, 101, 32, 105, 110, 116, 101, 114, 118, 97, 108, 32, 105, 115, 32, 110, 111, 116, 32, 118, 97, 108, 105, 100])]))

/-- 'laws.FnFifths': WHATEVER THE INPUT: true; the input reads as it did. -/
def fnFifthsSpec : ChangeSpec := { name := "fnFifths", vars := ["loop.example/g00989/impl.errInvalidInterval"], fn := fun _ => fun
  | [d, g1] => { results := [.lit (.bool true)], args := [d], vars := [g1] }
  | _ => none }
def fnFifthsRow : OpenClaim := { program := "ytbckbmcnakedcaadoor", sum := "d362f1a0f31c9a39f259ce67ba91b0ae2ab403b2381167df572ea431c0fc013f", func := "loop.example/g00989/laws.FnFifths", spec := "fnFifths", inPlace := ["internal/reflectlite.TypeOf"], unfollowed := true, recurses := true, named := ["loop.example/g00989/impl.errInvalidInterval"], ifaces := true, plainKeys := false, apart := false, laid := [("loop.example/g00989/impl.errInvalidInterval", laid_loop_example_g00989_impl_errInvalidInterval)] }
def FnFifthsSaid : Prop := fnFifthsRow.holds Tryd.pinned (OpenSpec.ofChange fnFifthsSpec)

/-- ITS FALSE NEIGHBOUR: 'it returns false'. Refute it at one input. -/
def fnFifthsWrong : ChangeSpec := { name := "fnFifths", vars := ["loop.example/g00989/impl.errInvalidInterval"], fn := fun _ => fun
  | [d, g1] => { results := [.lit (.bool false)], args := [d], vars := [g1] }
  | _ => none }
def FnFifthsWrongFalsely : Prop := fnFifthsRow.holds Tryd.pinned (OpenSpec.ofChange fnFifthsWrong)

/-- 'laws.FnThreeSteps': WHATEVER THE INPUT: true; the input reads as it did. -/
def fnThreeStepsSpec : ChangeSpec := { name := "fnThreeSteps", vars := ["loop.example/g00989/impl.errInvalidInterval"], fn := fun _ => fun
  | [d, g1] => { results := [.lit (.bool true)], args := [d], vars := [g1] }
  | _ => none }
def fnThreeStepsRow : OpenClaim := { program := "ytbckbmcnakedcaadoor", sum := "d362f1a0f31c9a39f259ce67ba91b0ae2ab403b2381167df572ea431c0fc013f", func := "loop.example/g00989/laws.FnThreeSteps", spec := "fnThreeSteps", inPlace := ["internal/reflectlite.TypeOf"], unfollowed := true, recurses := true, named := ["loop.example/g00989/impl.errInvalidInterval"], ifaces := true, plainKeys := false, apart := false, laid := [("loop.example/g00989/impl.errInvalidInterval", laid_loop_example_g00989_impl_errInvalidInterval)] }
def FnThreeStepsSaid : Prop := fnThreeStepsRow.holds Tryd.pinned (OpenSpec.ofChange fnThreeStepsSpec)

/-- ITS FALSE NEIGHBOUR: 'it returns false'. Refute it at one input. -/
def fnThreeStepsWrong : ChangeSpec := { name := "fnThreeSteps", vars := ["loop.example/g00989/impl.errInvalidInterval"], fn := fun _ => fun
  | [d, g1] => { results := [.lit (.bool false)], args := [d], vars := [g1] }
  | _ => none }
def FnThreeStepsWrongFalsely : Prop := fnThreeStepsRow.holds Tryd.pinned (OpenSpec.ofChange fnThreeStepsWrong)

/-- 'laws.FnExactChainOf': WHATEVER THE INPUT: true; the input reads as it did. -/
def fnExactChainOfSpec : ChangeSpec := { name := "fnExactChainOf", vars := ["loop.example/g00989/impl.errInvalidInterval"], fn := fun _ => fun
  | [d1, d2, g1] => { results := [.lit (.bool true)], args := [d1, d2], vars := [g1] }
  | _ => none }
def fnExactChainOfRow : OpenClaim := { program := "ytbckbmcnakedcaadoor", sum := "d362f1a0f31c9a39f259ce67ba91b0ae2ab403b2381167df572ea431c0fc013f", func := "loop.example/g00989/laws.FnExactChainOf", spec := "fnExactChainOf", inPlace := ["internal/reflectlite.TypeOf"], unfollowed := true, recurses := true, named := ["loop.example/g00989/impl.errInvalidInterval"], ifaces := true, plainKeys := false, apart := false, laid := [("loop.example/g00989/impl.errInvalidInterval", laid_loop_example_g00989_impl_errInvalidInterval)] }
def FnExactChainOfSaid : Prop := fnExactChainOfRow.holds Tryd.pinned (OpenSpec.ofChange fnExactChainOfSpec)

/-- ITS FALSE NEIGHBOUR: 'it returns false'. Refute it at one input. -/
def fnExactChainOfWrong : ChangeSpec := { name := "fnExactChainOf", vars := ["loop.example/g00989/impl.errInvalidInterval"], fn := fun _ => fun
  | [d1, d2, g1] => { results := [.lit (.bool false)], args := [d1, d2], vars := [g1] }
  | _ => none }
def FnExactChainOfWrongFalsely : Prop := fnExactChainOfRow.holds Tryd.pinned (OpenSpec.ofChange fnExactChainOfWrong)

/-- 'laws.FnOctaves': WHATEVER THE INPUT: true; the input reads as it did. -/
def fnOctavesSpec : ChangeSpec := { name := "fnOctaves", vars := ["loop.example/g00989/impl.errInvalidInterval"], fn := fun _ => fun
  | [d, g1] => { results := [.lit (.bool true)], args := [d], vars := [g1] }
  | _ => none }
def fnOctavesRow : OpenClaim := { program := "ytbckbmcnakedcaadoor", sum := "d362f1a0f31c9a39f259ce67ba91b0ae2ab403b2381167df572ea431c0fc013f", func := "loop.example/g00989/laws.FnOctaves", spec := "fnOctaves", inPlace := ["internal/reflectlite.TypeOf"], unfollowed := true, recurses := true, named := ["loop.example/g00989/impl.errInvalidInterval"], ifaces := true, plainKeys := false, apart := false, laid := [("loop.example/g00989/impl.errInvalidInterval", laid_loop_example_g00989_impl_errInvalidInterval)] }
def FnOctavesSaid : Prop := fnOctavesRow.holds Tryd.pinned (OpenSpec.ofChange fnOctavesSpec)

/-- ITS FALSE NEIGHBOUR: 'it returns false'. Refute it at one input. -/
def fnOctavesWrong : ChangeSpec := { name := "fnOctaves", vars := ["loop.example/g00989/impl.errInvalidInterval"], fn := fun _ => fun
  | [d, g1] => { results := [.lit (.bool false)], args := [d], vars := [g1] }
  | _ => none }
def FnOctavesWrongFalsely : Prop := fnOctavesRow.holds Tryd.pinned (OpenSpec.ofChange fnOctavesWrong)

/- THE SECOND FORM. 'bulk': how many values and letters a reading holds, each counted each time it is reached (what is shared counts as often as it is met; a slice's spare places count too). A statement '..UptoSaid' is the law's where the arguments, and the package variables that the reading takes, are together of bulk at most 1048576: NARROWER than '..Said'. Prove '..Said' where nothing that the law and all that it calls make is longer than what came in: it says more and counts as full. Else prove '..UptoSaid'. A law counts once. -/
mutual
def uptoBulk {H : Type} : DataW H → Nat
  | .lit (.string bytes) => bytes.length + 1
  | .lit _ => 1
  | .nil => 1
  | .ptr d => uptoBulk d + 1
  | .slice elems spare => uptoBulkAll elems + uptoBulkAll spare + 1
  | .agg parts => uptoBulkAll parts + 1
  | .iface _ d => uptoBulk d + 1
  | .map entries => uptoBulkEntries entries + 1
  | .held _ => 1
def uptoBulkAll {H : Type} : List (DataW H) → Nat
  | [] => 0
  | d :: r => uptoBulk d + uptoBulkAll r
def uptoBulkEntries {H : Type} : List (Lit × DataW H) → Nat
  | [] => 0
  | x :: r => uptoBulkEntry x + uptoBulkEntries r
def uptoBulkEntry {H : Type} : Lit × DataW H → Nat
  | (.string bytes, d) => bytes.length + uptoBulk d + 1
  | (_, d) => uptoBulk d + 1
 end
def uptoSmall : (H : Type) → List (DataW H) → Bool := fun _ ds => decide (uptoBulkAll ds ≤ 1048576)
def OpenSpec.upto (s : _root_.Go.ChangeSpec) : _root_.Go.OpenSpec := { _root_.Go.OpenSpec.ofChange s with cond := some uptoSmall }

/-- 'laws.FnFifths', WHERE WHAT IT READS IS OF BULK AT MOST 1048576: true; the input reads as it did. -/
def fnFifthsUptoRow : OpenClaim := { program := "ytbckbmcnakedcaadoor", sum := "d362f1a0f31c9a39f259ce67ba91b0ae2ab403b2381167df572ea431c0fc013f", func := "loop.example/g00989/laws.FnFifths", spec := "fnFifths", inPlace := ["internal/reflectlite.TypeOf"], unfollowed := true, recurses := true, named := ["loop.example/g00989/impl.errInvalidInterval"], ifaces := true, plainKeys := false, apart := false, laid := [("loop.example/g00989/impl.errInvalidInterval", laid_loop_example_g00989_impl_errInvalidInterval)], narrowed := true }
def FnFifthsUptoSaid : Prop := fnFifthsUptoRow.holds Tryd.pinned (OpenSpec.upto fnFifthsSpec)

/-- 'laws.FnThreeSteps', WHERE WHAT IT READS IS OF BULK AT MOST 1048576: true; the input reads as it did. -/
def fnThreeStepsUptoRow : OpenClaim := { program := "ytbckbmcnakedcaadoor", sum := "d362f1a0f31c9a39f259ce67ba91b0ae2ab403b2381167df572ea431c0fc013f", func := "loop.example/g00989/laws.FnThreeSteps", spec := "fnThreeSteps", inPlace := ["internal/reflectlite.TypeOf"], unfollowed := true, recurses := true, named := ["loop.example/g00989/impl.errInvalidInterval"], ifaces := true, plainKeys := false, apart := false, laid := [("loop.example/g00989/impl.errInvalidInterval", laid_loop_example_g00989_impl_errInvalidInterval)], narrowed := true }
def FnThreeStepsUptoSaid : Prop := fnThreeStepsUptoRow.holds Tryd.pinned (OpenSpec.upto fnThreeStepsSpec)

/-- 'laws.FnExactChainOf', WHERE WHAT IT READS IS OF BULK AT MOST 1048576: true; the input reads as it did. -/
def fnExactChainOfUptoRow : OpenClaim := { program := "ytbckbmcnakedcaadoor", sum := "d362f1a0f31c9a39f259ce67ba91b0ae2ab403b2381167df572ea431c0fc013f", func := "loop.example/g00989/laws.FnExactChainOf", spec := "fnExactChainOf", inPlace := ["internal/reflectlite.TypeOf"], unfollowed := true, recurses := true, named := ["loop.example/g00989/impl.errInvalidInterval"], ifaces := true, plainKeys := false, apart := false, laid := [("loop.example/g00989/impl.errInvalidInterval", laid_loop_example_g00989_impl_errInvalidInterval)], narrowed := true }
def FnExactChainOfUptoSaid : Prop := fnExactChainOfUptoRow.holds Tryd.pinned (OpenSpec.upto fnExactChainOfSpec)

/-- 'laws.FnOctaves', WHERE WHAT IT READS IS OF BULK AT MOST 1048576: true; the input reads as it did. -/
def fnOctavesUptoRow : OpenClaim := { program := "ytbckbmcnakedcaadoor", sum := "d362f1a0f31c9a39f259ce67ba91b0ae2ab403b2381167df572ea431c0fc013f", func := "loop.example/g00989/laws.FnOctaves", spec := "fnOctaves", inPlace := ["internal/reflectlite.TypeOf"], unfollowed := true, recurses := true, named := ["loop.example/g00989/impl.errInvalidInterval"], ifaces := true, plainKeys := false, apart := false, laid := [("loop.example/g00989/impl.errInvalidInterval", laid_loop_example_g00989_impl_errInvalidInterval)], narrowed := true }
def FnOctavesUptoSaid : Prop := fnOctavesUptoRow.holds Tryd.pinned (OpenSpec.upto fnOctavesSpec)

end Rows
end Go.Proofs.YtbckbmcnakedcaaDoor
