/-
  NARROWER THAN 'FOR EVERY INPUT', by the rows' own cells (each row's printed sentence says how): FnShared: ifaces, laid · FnHidden: ifaces, laid · FnExactHiddenCommas: ifaces, laid · FnExactSharedBy: ifaces, laid.
  DERIVED. THE GIVEN ROWS OF THIS SEAT. 4 by the template 'for every input the law returns true; each argument reads behind the call as it read before'; 0 by the template 'total and deterministic' (their statements: YtfhefakacjkmiaaDoorTotals.lean).
  GIVEN WITH THE SEED: the statements are not yours to turn. If you find one false, say at which input.
  Laid BY PROGRAM, IN A SANDBOX (cutbox-rows.mjs): the forced cells as the released guide's own fill.sh prints them over the translation c9075a93e824c38e… (all of the seat's roots in one cut). By AI agents, Wed Nov 11 2026. No macro, syntax, notation, axiom, sorry.
-/
import Derived.Test.YtfhefakacjkmiaaDoorChecked
import GoSem.Claim
import GoSem.ClaimJoined
import GoSem.ClaimMapViews
import Derived.JoinedTies
import Derived.KernelRfl
namespace Go.Proofs.YtfhefakacjkmiaaDoor
/- THE CELL 'sum', in the pinned program and in every row, IS THE sha256 OF THE DUMP (.gsa) THAT YtfhefakacjkmiaaDoorProg.lean LOADS. Nothing in Lean hashes anything: it is a label: what it is worth is what the hold of that sum in a sandbox is worth. -/
noncomputable def Tryd.pinned : Pinned := { name := "ytfhefakacjkmiaadoor", sum := "c9075a93e824c38e3397b19664482ea90d5cb0ce922b9b6bbf908203a58b9a8d", checked := Tryd.checked }
namespace Rows
def none {H : Type} : Left H := { results := [], args := [] }

/- WHAT THE LISTED PACKAGE-LEVEL VARIABLES READ AS WHEN THE CALL BEGINS. Each datum BY PROGRAM (the guide's laid-datum.mjs) off the statement by which the dump's own 'gosem.cut.vars' lays the variable. In a bare row this is a premise. The card (YtfhefakacjkmiaaDoorCards.lean) ties it to the program's text. -/
def laid_loop_example_g00989_impl_errInvalidInterval {H : Type} : DataW H := .iface "*errors.errorString" (.ptr (.agg [.lit (.string [116, 104, 101, 32, 105, 110, 116, 101, 114, 118, 97, 108, 32, 105, 115, 32, 110, 111, 116, 32, 118, 97, 108, 105, 100])]))

/-- 'laws.FnShared': WHATEVER THE INPUT: true; the input reads as it did. -/
def fnSharedSpec : ChangeSpec := { name := "fnShared", vars := ["loop.example/g00989/impl.errInvalidInterval"], fn := fun _ => fun
  | [d, g1] => { results := [.lit (.bool true)], args := [d], vars := [g1] }
  | _ => none }
def fnSharedRow : OpenClaim := { program := "ytfhefakacjkmiaadoor", sum := "c9075a93e824c38e3397b19664482ea90d5cb0ce922b9b6bbf908203a58b9a8d", func := "loop.example/g00989/laws.FnShared", spec := "fnShared", inPlace := ["internal/reflectlite.TypeOf"], unfollowed := true, recurses := true, named := ["loop.example/g00989/impl.errInvalidInterval"], ifaces := true, apart := false, laid := [("loop.example/g00989/impl.errInvalidInterval", laid_loop_example_g00989_impl_errInvalidInterval)] }
def FnSharedSaid : Prop := fnSharedRow.holds Tryd.pinned (OpenSpec.ofChange fnSharedSpec)

/-- ITS FALSE NEIGHBOUR: 'it returns false'. Refute it at one input. -/
def fnSharedWrong : ChangeSpec := { name := "fnShared", vars := ["loop.example/g00989/impl.errInvalidInterval"], fn := fun _ => fun
  | [d, g1] => { results := [.lit (.bool false)], args := [d], vars := [g1] }
  | _ => none }
def FnSharedWrongFalsely : Prop := fnSharedRow.holds Tryd.pinned (OpenSpec.ofChange fnSharedWrong)

/-- 'laws.FnHidden': WHATEVER THE INPUT: true; the input reads as it did. -/
def fnHiddenSpec : ChangeSpec := { name := "fnHidden", vars := ["loop.example/g00989/impl.errInvalidInterval"], fn := fun _ => fun
  | [d, g1] => { results := [.lit (.bool true)], args := [d], vars := [g1] }
  | _ => none }
def fnHiddenRow : OpenClaim := { program := "ytfhefakacjkmiaadoor", sum := "c9075a93e824c38e3397b19664482ea90d5cb0ce922b9b6bbf908203a58b9a8d", func := "loop.example/g00989/laws.FnHidden", spec := "fnHidden", inPlace := ["internal/reflectlite.TypeOf"], unfollowed := true, recurses := true, named := ["loop.example/g00989/impl.errInvalidInterval"], ifaces := true, apart := false, laid := [("loop.example/g00989/impl.errInvalidInterval", laid_loop_example_g00989_impl_errInvalidInterval)] }
def FnHiddenSaid : Prop := fnHiddenRow.holds Tryd.pinned (OpenSpec.ofChange fnHiddenSpec)

/-- ITS FALSE NEIGHBOUR: 'it returns false'. Refute it at one input. -/
def fnHiddenWrong : ChangeSpec := { name := "fnHidden", vars := ["loop.example/g00989/impl.errInvalidInterval"], fn := fun _ => fun
  | [d, g1] => { results := [.lit (.bool false)], args := [d], vars := [g1] }
  | _ => none }
def FnHiddenWrongFalsely : Prop := fnHiddenRow.holds Tryd.pinned (OpenSpec.ofChange fnHiddenWrong)

/-- 'laws.FnExactHiddenCommas': WHATEVER THE INPUT: true; the input reads as it did. -/
def fnExactHiddenCommasSpec : ChangeSpec := { name := "fnExactHiddenCommas", vars := ["loop.example/g00989/impl.errInvalidInterval"], fn := fun _ => fun
  | [d1, d2, g1] => { results := [.lit (.bool true)], args := [d1, d2], vars := [g1] }
  | _ => none }
def fnExactHiddenCommasRow : OpenClaim := { program := "ytfhefakacjkmiaadoor", sum := "c9075a93e824c38e3397b19664482ea90d5cb0ce922b9b6bbf908203a58b9a8d", func := "loop.example/g00989/laws.FnExactHiddenCommas", spec := "fnExactHiddenCommas", inPlace := ["internal/reflectlite.TypeOf"], unfollowed := true, recurses := true, named := ["loop.example/g00989/impl.errInvalidInterval"], ifaces := true, apart := false, laid := [("loop.example/g00989/impl.errInvalidInterval", laid_loop_example_g00989_impl_errInvalidInterval)] }
def FnExactHiddenCommasSaid : Prop := fnExactHiddenCommasRow.holds Tryd.pinned (OpenSpec.ofChange fnExactHiddenCommasSpec)

/-- ITS FALSE NEIGHBOUR: 'it returns false'. Refute it at one input. -/
def fnExactHiddenCommasWrong : ChangeSpec := { name := "fnExactHiddenCommas", vars := ["loop.example/g00989/impl.errInvalidInterval"], fn := fun _ => fun
  | [d1, d2, g1] => { results := [.lit (.bool false)], args := [d1, d2], vars := [g1] }
  | _ => none }
def FnExactHiddenCommasWrongFalsely : Prop := fnExactHiddenCommasRow.holds Tryd.pinned (OpenSpec.ofChange fnExactHiddenCommasWrong)

/-- 'laws.FnExactSharedBy': WHATEVER THE INPUT: true; the input reads as it did. -/
def fnExactSharedBySpec : ChangeSpec := { name := "fnExactSharedBy", vars := ["loop.example/g00989/impl.errInvalidInterval"], fn := fun _ => fun
  | [d1, d2, g1] => { results := [.lit (.bool true)], args := [d1, d2], vars := [g1] }
  | _ => none }
def fnExactSharedByRow : OpenClaim := { program := "ytfhefakacjkmiaadoor", sum := "c9075a93e824c38e3397b19664482ea90d5cb0ce922b9b6bbf908203a58b9a8d", func := "loop.example/g00989/laws.FnExactSharedBy", spec := "fnExactSharedBy", inPlace := ["internal/reflectlite.TypeOf"], unfollowed := true, recurses := true, named := ["loop.example/g00989/impl.errInvalidInterval"], ifaces := true, apart := false, laid := [("loop.example/g00989/impl.errInvalidInterval", laid_loop_example_g00989_impl_errInvalidInterval)] }
def FnExactSharedBySaid : Prop := fnExactSharedByRow.holds Tryd.pinned (OpenSpec.ofChange fnExactSharedBySpec)

/-- ITS FALSE NEIGHBOUR: 'it returns false'. Refute it at one input. -/
def fnExactSharedByWrong : ChangeSpec := { name := "fnExactSharedBy", vars := ["loop.example/g00989/impl.errInvalidInterval"], fn := fun _ => fun
  | [d1, d2, g1] => { results := [.lit (.bool false)], args := [d1, d2], vars := [g1] }
  | _ => none }
def FnExactSharedByWrongFalsely : Prop := fnExactSharedByRow.holds Tryd.pinned (OpenSpec.ofChange fnExactSharedByWrong)

/- THE SECOND FORM. 'bulk': how many values and letters a reading holds, each counted each time it is reached (what is shared counts as often as it is met; a slice's spare places count too). A statement '..UptoSaid' is the law's where the arguments, and the package variables that the reading takes, are together of bulk at most 1048576: NARROWER than '..Said'. Prove '..Said' where nothing that the law and all that it calls make is longer than what came in: it says more and counts as full. Else prove '..UptoSaid'. A law counts once. -/
mutual
def uptoBulk {H : Type} : DataW H → Nat
  | .lit (.string bytes) => bytes.length + 1
  | .lit _ => 1
  | .nil => 1
  | .ptr d => uptoBulk d + 1
  | .slice elems spare => uptoBulkAll elems + uptoBulkAll spare + 1
  | .agg parts => uptoBulkAll parts + 1
  | .iface _ d => uptoBulk d + 1
  | .map entries => uptoBulkEntries entries + 1
  | .held _ => 1
def uptoBulkAll {H : Type} : List (DataW H) → Nat
  | [] => 0
  | d :: r => uptoBulk d + uptoBulkAll r
def uptoBulkEntries {H : Type} : List (Lit × DataW H) → Nat
  | [] => 0
  | x :: r => uptoBulkEntry x + uptoBulkEntries r
def uptoBulkEntry {H : Type} : Lit × DataW H → Nat
  | (.string bytes, d) => bytes.length + uptoBulk d + 1
  | (_, d) => uptoBulk d + 1
 end
def uptoSmall : (H : Type) → List (DataW H) → Bool := fun _ ds => decide (uptoBulkAll ds ≤ 1048576)
def OpenSpec.upto (s : _root_.Go.ChangeSpec) : _root_.Go.OpenSpec := { _root_.Go.OpenSpec.ofChange s with cond := some uptoSmall }

/-- 'laws.FnShared', WHERE WHAT IT READS IS OF BULK AT MOST 1048576: true; the input reads as it did. -/
def fnSharedUptoRow : OpenClaim := { program := "ytfhefakacjkmiaadoor", sum := "c9075a93e824c38e3397b19664482ea90d5cb0ce922b9b6bbf908203a58b9a8d", func := "loop.example/g00989/laws.FnShared", spec := "fnShared", inPlace := ["internal/reflectlite.TypeOf"], unfollowed := true, recurses := true, named := ["loop.example/g00989/impl.errInvalidInterval"], ifaces := true, apart := false, laid := [("loop.example/g00989/impl.errInvalidInterval", laid_loop_example_g00989_impl_errInvalidInterval)], narrowed := true }
def FnSharedUptoSaid : Prop := fnSharedUptoRow.holds Tryd.pinned (OpenSpec.upto fnSharedSpec)

/-- 'laws.FnHidden', WHERE WHAT IT READS IS OF BULK AT MOST 1048576: true; the input reads as it did. -/
def fnHiddenUptoRow : OpenClaim := { program := "ytfhefakacjkmiaadoor", sum := "c9075a93e824c38e3397b19664482ea90d5cb0ce922b9b6bbf908203a58b9a8d", func := "loop.example/g00989/laws.FnHidden", spec := "fnHidden", inPlace := ["internal/reflectlite.TypeOf"], unfollowed := true, recurses := true, named := ["loop.example/g00989/impl.errInvalidInterval"], ifaces := true, apart := false, laid := [("loop.example/g00989/impl.errInvalidInterval", laid_loop_example_g00989_impl_errInvalidInterval)], narrowed := true }
def FnHiddenUptoSaid : Prop := fnHiddenUptoRow.holds Tryd.pinned (OpenSpec.upto fnHiddenSpec)

/-- 'laws.FnExactHiddenCommas', WHERE WHAT IT READS IS OF BULK AT MOST 1048576: true; the input reads as it did. -/
def fnExactHiddenCommasUptoRow : OpenClaim := { program := "ytfhefakacjkmiaadoor", sum := "c9075a93e824c38e3397b19664482ea90d5cb0ce922b9b6bbf908203a58b9a8d", func := "loop.example/g00989/laws.FnExactHiddenCommas", spec := "fnExactHiddenCommas", inPlace := ["internal/reflectlite.TypeOf"], unfollowed := true, recurses := true, named := ["loop.example/g00989/impl.errInvalidInterval"], ifaces := true, apart := false, laid := [("loop.example/g00989/impl.errInvalidInterval", laid_loop_example_g00989_impl_errInvalidInterval)], narrowed := true }
def FnExactHiddenCommasUptoSaid : Prop := fnExactHiddenCommasUptoRow.holds Tryd.pinned (OpenSpec.upto fnExactHiddenCommasSpec)

/-- 'laws.FnExactSharedBy', WHERE WHAT IT READS IS OF BULK AT MOST 1048576: true; the input reads as it did. -/
def fnExactSharedByUptoRow : OpenClaim := { program := "ytfhefakacjkmiaadoor", sum := "c9075a93e824c38e3397b19664482ea90d5cb0ce922b9b6bbf908203a58b9a8d", func := "loop.example/g00989/laws.FnExactSharedBy", spec := "fnExactSharedBy", inPlace := ["internal/reflectlite.TypeOf"], unfollowed := true, recurses := true, named := ["loop.example/g00989/impl.errInvalidInterval"], ifaces := true, apart := false, laid := [("loop.example/g00989/impl.errInvalidInterval", laid_loop_example_g00989_impl_errInvalidInterval)], narrowed := true }
def FnExactSharedByUptoSaid : Prop := fnExactSharedByUptoRow.holds Tryd.pinned (OpenSpec.upto fnExactSharedBySpec)

end Rows
end Go.Proofs.YtfhefakacjkmiaaDoor
