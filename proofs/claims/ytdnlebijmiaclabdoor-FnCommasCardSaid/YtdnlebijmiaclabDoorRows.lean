/-
  NARROWER THAN 'FOR EVERY INPUT', by the rows' own cells (each row's printed sentence says how): FnOrder: ifaces, laid · FnSameSizes: ifaces, laid · FnExactCompareIntervals: ifaces, laid · FnExactGreatestOf: ifaces, laid · FnExactIsBetween: ifaces, laid · FnOctaves: ifaces, laid · FnFifths: ifaces, laid · FnThreeSteps: ifaces, laid · FnExactChainOf: ifaces, laid · FnCommas: ifaces, laid · FnExactIsComma: ifaces, laid · FnExactCommasWithin: ifaces, laid.
  DERIVED. THE GIVEN ROWS OF THIS SEAT. 12 by the template 'for every input the law returns true; each argument reads behind the call as it read before'; 0 by the template 'total and deterministic' (their statements: YtdnlebijmiaclabDoorTotals.lean).
  GIVEN WITH THE SEED: the statements are not yours to turn. If you find one false, say at which input.
  Laid BY PROGRAM, IN A SANDBOX (cutbox-rows.mjs): the forced cells as the released guide's own fill.sh prints them over the translation 4997a457c80b58a1… (all of the seat's roots in one cut). By AI agents, Wed Nov 11 2026. No macro, syntax, notation, axiom, sorry.
-/
import Derived.Test.YtdnlebijmiaclabDoorChecked
import GoSem.Claim
import GoSem.ClaimJoined
import GoSem.ClaimMapViews
import Derived.JoinedTies
import Derived.KernelRfl
namespace Go.Proofs.YtdnlebijmiaclabDoor
/- THE CELL 'sum', in the pinned program and in every row, IS THE sha256 OF THE DUMP (.gsa) THAT YtdnlebijmiaclabDoorProg.lean LOADS. Nothing in Lean hashes anything: it is a label: what it is worth is what the hold of that sum in a sandbox is worth. -/
noncomputable def Tryd.pinned : Pinned := { name := "ytdnlebijmiaclabdoor", sum := "4997a457c80b58a1c575501264df2d25f44a0cf3f1f19c9eca0026ec2b3fa667", checked := Tryd.checked }
namespace Rows
def none {H : Type} : Left H := { results := [], args := [] }

/- WHAT THE LISTED PACKAGE-LEVEL VARIABLES READ AS WHEN THE CALL BEGINS. Each datum BY PROGRAM (the guide's laid-datum.mjs) off the statement by which the dump's own 'gosem.cut.vars' lays the variable. In a bare row this is a premise. The card (YtdnlebijmiaclabDoorCards.lean) ties it to the program's text. -/
def laid_loop_example_g00989_impl_errInvalidInterval {H : Type} : DataW H := .iface "*errors.errorString" (.ptr (.agg [.lit (.string [116, 104, 101, 32, 105, 110, 116, 101, 114, 118, 97, 108, 32, 105, 115, 32, 110, 111, 116, 32, 118, 97, 108, 105, 100])]))

/-- 'laws.FnOrder': WHATEVER THE INPUT: true; the input reads as it did. -/
def fnOrderSpec : ChangeSpec := { name := "fnOrder", vars := ["loop.example/g00989/impl.errInvalidInterval"], fn := fun _ => fun
  | [d, g1] => { results := [.lit (.bool true)], args := [d], vars := [g1] }
  | _ => none }
def fnOrderRow : OpenClaim := { program := "ytdnlebijmiaclabdoor", sum := "4997a457c80b58a1c575501264df2d25f44a0cf3f1f19c9eca0026ec2b3fa667", func := "loop.example/g00989/laws.FnOrder", spec := "fnOrder", inPlace := ["internal/reflectlite.TypeOf"], unfollowed := true, recurses := true, named := ["loop.example/g00989/impl.errInvalidInterval"], ifaces := true, plainKeys := false, apart := false, laid := [("loop.example/g00989/impl.errInvalidInterval", laid_loop_example_g00989_impl_errInvalidInterval)] }
def FnOrderSaid : Prop := fnOrderRow.holds Tryd.pinned (OpenSpec.ofChange fnOrderSpec)

/-- ITS FALSE NEIGHBOUR: 'it returns false'. Refute it at one input. -/
def fnOrderWrong : ChangeSpec := { name := "fnOrder", vars := ["loop.example/g00989/impl.errInvalidInterval"], fn := fun _ => fun
  | [d, g1] => { results := [.lit (.bool false)], args := [d], vars := [g1] }
  | _ => none }
def FnOrderWrongFalsely : Prop := fnOrderRow.holds Tryd.pinned (OpenSpec.ofChange fnOrderWrong)

/-- 'laws.FnSameSizes': WHATEVER THE INPUT: true; the input reads as it did. -/
def fnSameSizesSpec : ChangeSpec := { name := "fnSameSizes", vars := ["loop.example/g00989/impl.errInvalidInterval"], fn := fun _ => fun
  | [d, g1] => { results := [.lit (.bool true)], args := [d], vars := [g1] }
  | _ => none }
def fnSameSizesRow : OpenClaim := { program := "ytdnlebijmiaclabdoor", sum := "4997a457c80b58a1c575501264df2d25f44a0cf3f1f19c9eca0026ec2b3fa667", func := "loop.example/g00989/laws.FnSameSizes", spec := "fnSameSizes", inPlace := ["internal/reflectlite.TypeOf"], unfollowed := true, recurses := true, named := ["loop.example/g00989/impl.errInvalidInterval"], ifaces := true, plainKeys := false, apart := false, laid := [("loop.example/g00989/impl.errInvalidInterval", laid_loop_example_g00989_impl_errInvalidInterval)] }
def FnSameSizesSaid : Prop := fnSameSizesRow.holds Tryd.pinned (OpenSpec.ofChange fnSameSizesSpec)

/-- ITS FALSE NEIGHBOUR: 'it returns false'. Refute it at one input. -/
def fnSameSizesWrong : ChangeSpec := { name := "fnSameSizes", vars := ["loop.example/g00989/impl.errInvalidInterval"], fn := fun _ => fun
  | [d, g1] => { results := [.lit (.bool false)], args := [d], vars := [g1] }
  | _ => none }
def FnSameSizesWrongFalsely : Prop := fnSameSizesRow.holds Tryd.pinned (OpenSpec.ofChange fnSameSizesWrong)

/-- 'laws.FnExactCompareIntervals': WHATEVER THE INPUT: true; the input reads as it did. -/
def fnExactCompareIntervalsSpec : ChangeSpec := { name := "fnExactCompareIntervals", vars := ["loop.example/g00989/impl.errInvalidInterval"], fn := fun _ => fun
  | [d1, d2, g1] => { results := [.lit (.bool true)], args := [d1, d2], vars := [g1] }
  | _ => none }
def fnExactCompareIntervalsRow : OpenClaim := { program := "ytdnlebijmiaclabdoor", sum := "4997a457c80b58a1c575501264df2d25f44a0cf3f1f19c9eca0026ec2b3fa667", func := "loop.example/g00989/laws.FnExactCompareIntervals", spec := "fnExactCompareIntervals", inPlace := ["internal/reflectlite.TypeOf"], unfollowed := true, recurses := true, named := ["loop.example/g00989/impl.errInvalidInterval"], ifaces := true, plainKeys := false, apart := false, laid := [("loop.example/g00989/impl.errInvalidInterval", laid_loop_example_g00989_impl_errInvalidInterval)] }
def FnExactCompareIntervalsSaid : Prop := fnExactCompareIntervalsRow.holds Tryd.pinned (OpenSpec.ofChange fnExactCompareIntervalsSpec)

/-- ITS FALSE NEIGHBOUR: 'it returns false'. Refute it at one input. -/
def fnExactCompareIntervalsWrong : ChangeSpec := { name := "fnExactCompareIntervals", vars := ["loop.example/g00989/impl.errInvalidInterval"], fn := fun _ => fun
  | [d1, d2, g1] => { results := [.lit (.bool false)], args := [d1, d2], vars := [g1] }
  | _ => none }
def FnExactCompareIntervalsWrongFalsely : Prop := fnExactCompareIntervalsRow.holds Tryd.pinned (OpenSpec.ofChange fnExactCompareIntervalsWrong)

/-- 'laws.FnExactGreatestOf': WHATEVER THE INPUT: true; the input reads as it did. -/
def fnExactGreatestOfSpec : ChangeSpec := { name := "fnExactGreatestOf", vars := ["loop.example/g00989/impl.errInvalidInterval"], fn := fun _ => fun
  | [d, g1] => { results := [.lit (.bool true)], args := [d], vars := [g1] }
  | _ => none }
def fnExactGreatestOfRow : OpenClaim := { program := "ytdnlebijmiaclabdoor", sum := "4997a457c80b58a1c575501264df2d25f44a0cf3f1f19c9eca0026ec2b3fa667", func := "loop.example/g00989/laws.FnExactGreatestOf", spec := "fnExactGreatestOf", inPlace := ["internal/reflectlite.TypeOf"], unfollowed := true, recurses := true, named := ["loop.example/g00989/impl.errInvalidInterval"], ifaces := true, plainKeys := false, apart := false, laid := [("loop.example/g00989/impl.errInvalidInterval", laid_loop_example_g00989_impl_errInvalidInterval)] }
def FnExactGreatestOfSaid : Prop := fnExactGreatestOfRow.holds Tryd.pinned (OpenSpec.ofChange fnExactGreatestOfSpec)

/-- ITS FALSE NEIGHBOUR: 'it returns false'. Refute it at one input. -/
def fnExactGreatestOfWrong : ChangeSpec := { name := "fnExactGreatestOf", vars := ["loop.example/g00989/impl.errInvalidInterval"], fn := fun _ => fun
  | [d, g1] => { results := [.lit (.bool false)], args := [d], vars := [g1] }
  | _ => none }
def FnExactGreatestOfWrongFalsely : Prop := fnExactGreatestOfRow.holds Tryd.pinned (OpenSpec.ofChange fnExactGreatestOfWrong)

/-- 'laws.FnExactIsBetween': WHATEVER THE INPUT: true; the input reads as it did. -/
def fnExactIsBetweenSpec : ChangeSpec := { name := "fnExactIsBetween", vars := ["loop.example/g00989/impl.errInvalidInterval"], fn := fun _ => fun
  | [d1, d2, d3, g1] => { results := [.lit (.bool true)], args := [d1, d2, d3], vars := [g1] }
  | _ => none }
def fnExactIsBetweenRow : OpenClaim := { program := "ytdnlebijmiaclabdoor", sum := "4997a457c80b58a1c575501264df2d25f44a0cf3f1f19c9eca0026ec2b3fa667", func := "loop.example/g00989/laws.FnExactIsBetween", spec := "fnExactIsBetween", inPlace := ["internal/reflectlite.TypeOf"], unfollowed := true, recurses := true, named := ["loop.example/g00989/impl.errInvalidInterval"], ifaces := true, plainKeys := false, apart := false, laid := [("loop.example/g00989/impl.errInvalidInterval", laid_loop_example_g00989_impl_errInvalidInterval)] }
def FnExactIsBetweenSaid : Prop := fnExactIsBetweenRow.holds Tryd.pinned (OpenSpec.ofChange fnExactIsBetweenSpec)

/-- ITS FALSE NEIGHBOUR: 'it returns false'. Refute it at one input. -/
def fnExactIsBetweenWrong : ChangeSpec := { name := "fnExactIsBetween", vars := ["loop.example/g00989/impl.errInvalidInterval"], fn := fun _ => fun
  | [d1, d2, d3, g1] => { results := [.lit (.bool false)], args := [d1, d2, d3], vars := [g1] }
  | _ => none }
def FnExactIsBetweenWrongFalsely : Prop := fnExactIsBetweenRow.holds Tryd.pinned (OpenSpec.ofChange fnExactIsBetweenWrong)

/-- 'laws.FnOctaves': WHATEVER THE INPUT: true; the input reads as it did. -/
def fnOctavesSpec : ChangeSpec := { name := "fnOctaves", vars := ["loop.example/g00989/impl.errInvalidInterval"], fn := fun _ => fun
  | [d, g1] => { results := [.lit (.bool true)], args := [d], vars := [g1] }
  | _ => none }
def fnOctavesRow : OpenClaim := { program := "ytdnlebijmiaclabdoor", sum := "4997a457c80b58a1c575501264df2d25f44a0cf3f1f19c9eca0026ec2b3fa667", func := "loop.example/g00989/laws.FnOctaves", spec := "fnOctaves", inPlace := ["internal/reflectlite.TypeOf"], unfollowed := true, recurses := true, named := ["loop.example/g00989/impl.errInvalidInterval"], ifaces := true, plainKeys := false, apart := false, laid := [("loop.example/g00989/impl.errInvalidInterval", laid_loop_example_g00989_impl_errInvalidInterval)] }
def FnOctavesSaid : Prop := fnOctavesRow.holds Tryd.pinned (OpenSpec.ofChange fnOctavesSpec)

/-- ITS FALSE NEIGHBOUR: 'it returns false'. Refute it at one input. -/
def fnOctavesWrong : ChangeSpec := { name := "fnOctaves", vars := ["loop.example/g00989/impl.errInvalidInterval"], fn := fun _ => fun
  | [d, g1] => { results := [.lit (.bool false)], args := [d], vars := [g1] }
  | _ => none }
def FnOctavesWrongFalsely : Prop := fnOctavesRow.holds Tryd.pinned (OpenSpec.ofChange fnOctavesWrong)

/-- 'laws.FnFifths': WHATEVER THE INPUT: true; the input reads as it did. -/
def fnFifthsSpec : ChangeSpec := { name := "fnFifths", vars := ["loop.example/g00989/impl.errInvalidInterval"], fn := fun _ => fun
  | [d, g1] => { results := [.lit (.bool true)], args := [d], vars := [g1] }
  | _ => none }
def fnFifthsRow : OpenClaim := { program := "ytdnlebijmiaclabdoor", sum := "4997a457c80b58a1c575501264df2d25f44a0cf3f1f19c9eca0026ec2b3fa667", func := "loop.example/g00989/laws.FnFifths", spec := "fnFifths", inPlace := ["internal/reflectlite.TypeOf"], unfollowed := true, recurses := true, named := ["loop.example/g00989/impl.errInvalidInterval"], ifaces := true, plainKeys := false, apart := false, laid := [("loop.example/g00989/impl.errInvalidInterval", laid_loop_example_g00989_impl_errInvalidInterval)] }
def FnFifthsSaid : Prop := fnFifthsRow.holds Tryd.pinned (OpenSpec.ofChange fnFifthsSpec)

/-- ITS FALSE NEIGHBOUR: 'it returns false'. Refute it at one input. -/
def fnFifthsWrong : ChangeSpec := { name := "fnFifths", vars := ["loop.example/g00989/impl.errInvalidInterval"], fn := fun _ => fun
  | [d, g1] => { results := [.lit (.bool false)], args := [d], vars := [g1] }
  | _ => none }
def FnFifthsWrongFalsely : Prop := fnFifthsRow.holds Tryd.pinned (OpenSpec.ofChange fnFifthsWrong)

/-- 'laws.FnThreeSteps': WHATEVER THE INPUT: true; the input reads as it did. -/
def fnThreeStepsSpec : ChangeSpec := { name := "fnThreeSteps", vars := ["loop.example/g00989/impl.errInvalidInterval"], fn := fun _ => fun
  | [d, g1] => { results := [.lit (.bool true)], args := [d], vars := [g1] }
  | _ => none }
def fnThreeStepsRow : OpenClaim := { program := "ytdnlebijmiaclabdoor", sum := "4997a457c80b58a1c575501264df2d25f44a0cf3f1f19c9eca0026ec2b3fa667", func := "loop.example/g00989/laws.FnThreeSteps", spec := "fnThreeSteps", inPlace := ["internal/reflectlite.TypeOf"], unfollowed := true, recurses := true, named := ["loop.example/g00989/impl.errInvalidInterval"], ifaces := true, plainKeys := false, apart := false, laid := [("loop.example/g00989/impl.errInvalidInterval", laid_loop_example_g00989_impl_errInvalidInterval)] }
def FnThreeStepsSaid : Prop := fnThreeStepsRow.holds Tryd.pinned (OpenSpec.ofChange fnThreeStepsSpec)

/-- ITS FALSE NEIGHBOUR: 'it returns false'. Refute it at one input. -/
def fnThreeStepsWrong : ChangeSpec := { name := "fnThreeSteps", vars := ["loop.example/g00989/impl.errInvalidInterval"], fn := fun _ => fun
  | [d, g1] => { results := [.lit (.bool false)], args := [d], vars := [g1] }
  | _ => none }
def FnThreeStepsWrongFalsely : Prop := fnThreeStepsRow.holds Tryd.pinned (OpenSpec.ofChange fnThreeStepsWrong)

/-- 'laws.FnExactChainOf': WHATEVER THE INPUT: true; the input reads as it did. -/
def fnExactChainOfSpec : ChangeSpec := { name := "fnExactChainOf", vars := ["loop.example/g00989/impl.errInvalidInterval"], fn := fun _ => fun
  | [d1, d2, g1] => { results := [.lit (.bool true)], args := [d1, d2], vars := [g1] }
  | _ => none }
def fnExactChainOfRow : OpenClaim := { program := "ytdnlebijmiaclabdoor", sum := "4997a457c80b58a1c575501264df2d25f44a0cf3f1f19c9eca0026ec2b3fa667", func := "loop.example/g00989/laws.FnExactChainOf", spec := "fnExactChainOf", inPlace := ["internal/reflectlite.TypeOf"], unfollowed := true, recurses := true, named := ["loop.example/g00989/impl.errInvalidInterval"], ifaces := true, plainKeys := false, apart := false, laid := [("loop.example/g00989/impl.errInvalidInterval", laid_loop_example_g00989_impl_errInvalidInterval)] }
def FnExactChainOfSaid : Prop := fnExactChainOfRow.holds Tryd.pinned (OpenSpec.ofChange fnExactChainOfSpec)

/-- ITS FALSE NEIGHBOUR: 'it returns false'. Refute it at one input. -/
def fnExactChainOfWrong : ChangeSpec := { name := "fnExactChainOf", vars := ["loop.example/g00989/impl.errInvalidInterval"], fn := fun _ => fun
  | [d1, d2, g1] => { results := [.lit (.bool false)], args := [d1, d2], vars := [g1] }
  | _ => none }
def FnExactChainOfWrongFalsely : Prop := fnExactChainOfRow.holds Tryd.pinned (OpenSpec.ofChange fnExactChainOfWrong)

/-- 'laws.FnCommas': WHATEVER THE INPUT: true; the input reads as it did. -/
def fnCommasSpec : ChangeSpec := { name := "fnCommas", vars := ["loop.example/g00989/impl.errInvalidInterval"], fn := fun _ => fun
  | [d, g1] => { results := [.lit (.bool true)], args := [d], vars := [g1] }
  | _ => none }
def fnCommasRow : OpenClaim := { program := "ytdnlebijmiaclabdoor", sum := "4997a457c80b58a1c575501264df2d25f44a0cf3f1f19c9eca0026ec2b3fa667", func := "loop.example/g00989/laws.FnCommas", spec := "fnCommas", inPlace := ["internal/reflectlite.TypeOf"], unfollowed := true, recurses := true, named := ["loop.example/g00989/impl.errInvalidInterval"], ifaces := true, plainKeys := false, apart := false, laid := [("loop.example/g00989/impl.errInvalidInterval", laid_loop_example_g00989_impl_errInvalidInterval)] }
def FnCommasSaid : Prop := fnCommasRow.holds Tryd.pinned (OpenSpec.ofChange fnCommasSpec)

/-- ITS FALSE NEIGHBOUR: 'it returns false'. Refute it at one input. -/
def fnCommasWrong : ChangeSpec := { name := "fnCommas", vars := ["loop.example/g00989/impl.errInvalidInterval"], fn := fun _ => fun
  | [d, g1] => { results := [.lit (.bool false)], args := [d], vars := [g1] }
  | _ => none }
def FnCommasWrongFalsely : Prop := fnCommasRow.holds Tryd.pinned (OpenSpec.ofChange fnCommasWrong)

/-- 'laws.FnExactIsComma': WHATEVER THE INPUT: true; the input reads as it did. -/
def fnExactIsCommaSpec : ChangeSpec := { name := "fnExactIsComma", vars := ["loop.example/g00989/impl.errInvalidInterval"], fn := fun _ => fun
  | [d, g1] => { results := [.lit (.bool true)], args := [d], vars := [g1] }
  | _ => none }
def fnExactIsCommaRow : OpenClaim := { program := "ytdnlebijmiaclabdoor", sum := "4997a457c80b58a1c575501264df2d25f44a0cf3f1f19c9eca0026ec2b3fa667", func := "loop.example/g00989/laws.FnExactIsComma", spec := "fnExactIsComma", inPlace := ["internal/reflectlite.TypeOf"], unfollowed := true, recurses := true, named := ["loop.example/g00989/impl.errInvalidInterval"], ifaces := true, plainKeys := false, apart := false, laid := [("loop.example/g00989/impl.errInvalidInterval", laid_loop_example_g00989_impl_errInvalidInterval)] }
def FnExactIsCommaSaid : Prop := fnExactIsCommaRow.holds Tryd.pinned (OpenSpec.ofChange fnExactIsCommaSpec)

/-- ITS FALSE NEIGHBOUR: 'it returns false'. Refute it at one input. -/
def fnExactIsCommaWrong : ChangeSpec := { name := "fnExactIsComma", vars := ["loop.example/g00989/impl.errInvalidInterval"], fn := fun _ => fun
  | [d, g1] => { results := [.lit (.bool false)], args := [d], vars := [g1] }
  | _ => none }
def FnExactIsCommaWrongFalsely : Prop := fnExactIsCommaRow.holds Tryd.pinned (OpenSpec.ofChange fnExactIsCommaWrong)

/-- 'laws.FnExactCommasWithin': WHATEVER THE INPUT: true; the input reads as it did. -/
def fnExactCommasWithinSpec : ChangeSpec := { name := "fnExactCommasWithin", vars := ["loop.example/g00989/impl.errInvalidInterval"], fn := fun _ => fun
  | [d, g1] => { results := [.lit (.bool true)], args := [d], vars := [g1] }
  | _ => none }
def fnExactCommasWithinRow : OpenClaim := { program := "ytdnlebijmiaclabdoor", sum := "4997a457c80b58a1c575501264df2d25f44a0cf3f1f19c9eca0026ec2b3fa667", func := "loop.example/g00989/laws.FnExactCommasWithin", spec := "fnExactCommasWithin", inPlace := ["internal/reflectlite.TypeOf"], unfollowed := true, recurses := true, named := ["loop.example/g00989/impl.errInvalidInterval"], ifaces := true, plainKeys := false, apart := false, laid := [("loop.example/g00989/impl.errInvalidInterval", laid_loop_example_g00989_impl_errInvalidInterval)] }
def FnExactCommasWithinSaid : Prop := fnExactCommasWithinRow.holds Tryd.pinned (OpenSpec.ofChange fnExactCommasWithinSpec)

/-- ITS FALSE NEIGHBOUR: 'it returns false'. Refute it at one input. -/
def fnExactCommasWithinWrong : ChangeSpec := { name := "fnExactCommasWithin", vars := ["loop.example/g00989/impl.errInvalidInterval"], fn := fun _ => fun
  | [d, g1] => { results := [.lit (.bool false)], args := [d], vars := [g1] }
  | _ => none }
def FnExactCommasWithinWrongFalsely : Prop := fnExactCommasWithinRow.holds Tryd.pinned (OpenSpec.ofChange fnExactCommasWithinWrong)

/- THE SECOND FORM. 'bulk': how many values and letters a reading holds, each counted each time it is reached (what is shared counts as often as it is met; a slice's spare places count too). A statement '..UptoSaid' is the law's where the arguments, and the package variables that the reading takes, are together of bulk at most 1048576: NARROWER than '..Said'. Prove '..Said' where nothing that the law and all that it calls make is longer than what came in: it says more and counts as full. Else prove '..UptoSaid'. A law counts once. -/
mutual
def uptoBulk {H : Type} : DataW H → Nat
  | .lit (.string bytes) => bytes.length + 1
  | .lit _ => 1
  | .nil => 1
  | .ptr d => uptoBulk d + 1
  | .slice elems spare => uptoBulkAll elems + uptoBulkAll spare + 1
  | .agg parts => uptoBulkAll parts + 1
  | .iface _ d => uptoBulk d + 1
  | .map entries => uptoBulkEntries entries + 1
  | .held _ => 1
def uptoBulkAll {H : Type} : List (DataW H) → Nat
  | [] => 0
  | d :: r => uptoBulk d + uptoBulkAll r
def uptoBulkEntries {H : Type} : List (Lit × DataW H) → Nat
  | [] => 0
  | x :: r => uptoBulkEntry x + uptoBulkEntries r
def uptoBulkEntry {H : Type} : Lit × DataW H → Nat
  | (.string bytes, d) => bytes.length + uptoBulk d + 1
  | (_, d) => uptoBulk d + 1
 end
def uptoSmall : (H : Type) → List (DataW H) → Bool := fun _ ds => decide (uptoBulkAll ds ≤ 1048576)
def OpenSpec.upto (s : _root_.Go.ChangeSpec) : _root_.Go.OpenSpec := { _root_.Go.OpenSpec.ofChange s with cond := some uptoSmall }

/-- 'laws.FnOrder', WHERE WHAT IT READS IS OF BULK AT MOST 1048576: true; the input reads as it did. -/
def fnOrderUptoRow : OpenClaim := { program := "ytdnlebijmiaclabdoor", sum := "4997a457c80b58a1c575501264df2d25f44a0cf3f1f19c9eca0026ec2b3fa667", func := "loop.example/g00989/laws.FnOrder", spec := "fnOrder", inPlace := ["internal/reflectlite.TypeOf"], unfollowed := true, recurses := true, named := ["loop.example/g00989/impl.errInvalidInterval"], ifaces := true, plainKeys := false, apart := false, laid := [("loop.example/g00989/impl.errInvalidInterval", laid_loop_example_g00989_impl_errInvalidInterval)], narrowed := true }
def FnOrderUptoSaid : Prop := fnOrderUptoRow.holds Tryd.pinned (OpenSpec.upto fnOrderSpec)

/-- 'laws.FnSameSizes', WHERE WHAT IT READS IS OF BULK AT MOST 1048576: true; the input reads as it did. -/
def fnSameSizesUptoRow : OpenClaim := { program := "ytdnlebijmiaclabdoor", sum := "4997a457c80b58a1c575501264df2d25f44a0cf3f1f19c9eca0026ec2b3fa667", func := "loop.example/g00989/laws.FnSameSizes", spec := "fnSameSizes", inPlace := ["internal/reflectlite.TypeOf"], unfollowed := true, recurses := true, named := ["loop.example/g00989/impl.errInvalidInterval"], ifaces := true, plainKeys := false, apart := false, laid := [("loop.example/g00989/impl.errInvalidInterval", laid_loop_example_g00989_impl_errInvalidInterval)], narrowed := true }
def FnSameSizesUptoSaid : Prop := fnSameSizesUptoRow.holds Tryd.pinned (OpenSpec.upto fnSameSizesSpec)

/-- 'laws.FnExactCompareIntervals', WHERE WHAT IT READS IS OF BULK AT MOST 1048576: true; the input reads as it did. -/
def fnExactCompareIntervalsUptoRow : OpenClaim := { program := "ytdnlebijmiaclabdoor", sum := "4997a457c80b58a1c575501264df2d25f44a0cf3f1f19c9eca0026ec2b3fa667", func := "loop.example/g00989/laws.FnExactCompareIntervals", spec := "fnExactCompareIntervals", inPlace := ["internal/reflectlite.TypeOf"], unfollowed := true, recurses := true, named := ["loop.example/g00989/impl.errInvalidInterval"], ifaces := true, plainKeys := false, apart := false, laid := [("loop.example/g00989/impl.errInvalidInterval", laid_loop_example_g00989_impl_errInvalidInterval)], narrowed := true }
def FnExactCompareIntervalsUptoSaid : Prop := fnExactCompareIntervalsUptoRow.holds Tryd.pinned (OpenSpec.upto fnExactCompareIntervalsSpec)

/-- 'laws.FnExactGreatestOf', WHERE WHAT IT READS IS OF BULK AT MOST 1048576: true; the input reads as it did. -/
def fnExactGreatestOfUptoRow : OpenClaim := { program := "ytdnlebijmiaclabdoor", sum := "4997a457c80b58a1c575501264df2d25f44a0cf3f1f19c9eca0026ec2b3fa667", func := "loop.example/g00989/laws.FnExactGreatestOf", spec := "fnExactGreatestOf", inPlace := ["internal/reflectlite.TypeOf"], unfollowed := true, recurses := true, named := ["loop.example/g00989/impl.errInvalidInterval"], ifaces := true, plainKeys := false, apart := false, laid := [("loop.example/g00989/impl.errInvalidInterval", laid_loop_example_g00989_impl_errInvalidInterval)], narrowed := true }
def FnExactGreatestOfUptoSaid : Prop := fnExactGreatestOfUptoRow.holds Tryd.pinned (OpenSpec.upto fnExactGreatestOfSpec)

/-- 'laws.FnExactIsBetween', WHERE WHAT IT READS IS OF BULK AT MOST 1048576: true; the input reads as it did. -/
def fnExactIsBetweenUptoRow : OpenClaim := { program := "ytdnlebijmiaclabdoor", sum := "4997a457c80b58a1c575501264df2d25f44a0cf3f1f19c9eca0026ec2b3fa667", func := "loop.example/g00989/laws.FnExactIsBetween", spec := "fnExactIsBetween", inPlace := ["internal/reflectlite.TypeOf"], unfollowed := true, recurses := true, named := ["loop.example/g00989/impl.errInvalidInterval"], ifaces := true, plainKeys := false, apart := false, laid := [("loop.example/g00989/impl.errInvalidInterval", laid_loop_example_g00989_impl_errInvalidInterval)], narrowed := true }
def FnExactIsBetweenUptoSaid : Prop := fnExactIsBetweenUptoRow.holds Tryd.pinned (OpenSpec.upto fnExactIsBetweenSpec)

/-- 'laws.FnOctaves', WHERE WHAT IT READS IS OF BULK AT MOST 1048576: true; the input reads as it did. -/
def fnOctavesUptoRow : OpenClaim := { program := "ytdnlebijmiaclabdoor", sum := "4997a457c80b58a1c575501264df2d25f44a0cf3f1f19c9eca0026ec2b3fa667", func := "loop.example/g00989/laws.FnOctaves", spec := "fnOctaves", inPlace := ["internal/reflectlite.TypeOf"], unfollowed := true, recurses := true, named := ["loop.example/g00989/impl.errInvalidInterval"], ifaces := true, plainKeys := false, apart := false, laid := [("loop.example/g00989/impl.errInvalidInterval", laid_loop_example_g00989_impl_errInvalidInterval)], narrowed := true }
def FnOctavesUptoSaid : Prop := fnOctavesUptoRow.holds Tryd.pinned (OpenSpec.upto fnOctavesSpec)

/-- 'laws.FnFifths', WHERE WHAT IT READS IS OF BULK AT MOST 1048576: true; the input reads as it did. -/
def fnFifthsUptoRow : OpenClaim := { program := "ytdnlebijmiaclabdoor", sum := "4997a457c80b58a1c575501264df2d25f44a0cf3f1f19c9eca0026ec2b3fa667", func := "loop.example/g00989/laws.FnFifths", spec := "fnFifths", inPlace := ["internal/reflectlite.TypeOf"], unfollowed := true, recurses := true, named := ["loop.example/g00989/impl.errInvalidInterval"], ifaces := true, plainKeys := false, apart := false, laid := [("loop.example/g00989/impl.errInvalidInterval", laid_loop_example_g00989_impl_errInvalidInterval)], narrowed := true }
def FnFifthsUptoSaid : Prop := fnFifthsUptoRow.holds Tryd.pinned (OpenSpec.upto fnFifthsSpec)

/-- 'laws.FnThreeSteps', WHERE WHAT IT READS IS OF BULK AT MOST 1048576: true; the input reads as it did. -/
def fnThreeStepsUptoRow : OpenClaim := { program := "ytdnlebijmiaclabdoor", sum := "4997a457c80b58a1c575501264df2d25f44a0cf3f1f19c9eca0026ec2b3fa667", func := "loop.example/g00989/laws.FnThreeSteps", spec := "fnThreeSteps", inPlace := ["internal/reflectlite.TypeOf"], unfollowed := true, recurses := true, named := ["loop.example/g00989/impl.errInvalidInterval"], ifaces := true, plainKeys := false, apart := false, laid := [("loop.example/g00989/impl.errInvalidInterval", laid_loop_example_g00989_impl_errInvalidInterval)], narrowed := true }
def FnThreeStepsUptoSaid : Prop := fnThreeStepsUptoRow.holds Tryd.pinned (OpenSpec.upto fnThreeStepsSpec)

/-- 'laws.FnExactChainOf', WHERE WHAT IT READS IS OF BULK AT MOST 1048576: true; the input reads as it did. -/
def fnExactChainOfUptoRow : OpenClaim := { program := "ytdnlebijmiaclabdoor", sum := "4997a457c80b58a1c575501264df2d25f44a0cf3f1f19c9eca0026ec2b3fa667", func := "loop.example/g00989/laws.FnExactChainOf", spec := "fnExactChainOf", inPlace := ["internal/reflectlite.TypeOf"], unfollowed := true, recurses := true, named := ["loop.example/g00989/impl.errInvalidInterval"], ifaces := true, plainKeys := false, apart := false, laid := [("loop.example/g00989/impl.errInvalidInterval", laid_loop_example_g00989_impl_errInvalidInterval)], narrowed := true }
def FnExactChainOfUptoSaid : Prop := fnExactChainOfUptoRow.holds Tryd.pinned (OpenSpec.upto fnExactChainOfSpec)

/-- 'laws.FnCommas', WHERE WHAT IT READS IS OF BULK AT MOST 1048576: true; the input reads as it did. -/
def fnCommasUptoRow : OpenClaim := { program := "ytdnlebijmiaclabdoor", sum := "4997a457c80b58a1c575501264df2d25f44a0cf3f1f19c9eca0026ec2b3fa667", func := "loop.example/g00989/laws.FnCommas", spec := "fnCommas", inPlace := ["internal/reflectlite.TypeOf"], unfollowed := true, recurses := true, named := ["loop.example/g00989/impl.errInvalidInterval"], ifaces := true, plainKeys := false, apart := false, laid := [("loop.example/g00989/impl.errInvalidInterval", laid_loop_example_g00989_impl_errInvalidInterval)], narrowed := true }
def FnCommasUptoSaid : Prop := fnCommasUptoRow.holds Tryd.pinned (OpenSpec.upto fnCommasSpec)

/-- 'laws.FnExactIsComma', WHERE WHAT IT READS IS OF BULK AT MOST 1048576: true; the input reads as it did. -/
def fnExactIsCommaUptoRow : OpenClaim := { program := "ytdnlebijmiaclabdoor", sum := "4997a457c80b58a1c575501264df2d25f44a0cf3f1f19c9eca0026ec2b3fa667", func := "loop.example/g00989/laws.FnExactIsComma", spec := "fnExactIsComma", inPlace := ["internal/reflectlite.TypeOf"], unfollowed := true, recurses := true, named := ["loop.example/g00989/impl.errInvalidInterval"], ifaces := true, plainKeys := false, apart := false, laid := [("loop.example/g00989/impl.errInvalidInterval", laid_loop_example_g00989_impl_errInvalidInterval)], narrowed := true }
def FnExactIsCommaUptoSaid : Prop := fnExactIsCommaUptoRow.holds Tryd.pinned (OpenSpec.upto fnExactIsCommaSpec)

/-- 'laws.FnExactCommasWithin', WHERE WHAT IT READS IS OF BULK AT MOST 1048576: true; the input reads as it did. -/
def fnExactCommasWithinUptoRow : OpenClaim := { program := "ytdnlebijmiaclabdoor", sum := "4997a457c80b58a1c575501264df2d25f44a0cf3f1f19c9eca0026ec2b3fa667", func := "loop.example/g00989/laws.FnExactCommasWithin", spec := "fnExactCommasWithin", inPlace := ["internal/reflectlite.TypeOf"], unfollowed := true, recurses := true, named := ["loop.example/g00989/impl.errInvalidInterval"], ifaces := true, plainKeys := false, apart := false, laid := [("loop.example/g00989/impl.errInvalidInterval", laid_loop_example_g00989_impl_errInvalidInterval)], narrowed := true }
def FnExactCommasWithinUptoSaid : Prop := fnExactCommasWithinUptoRow.holds Tryd.pinned (OpenSpec.upto fnExactCommasWithinSpec)

end Rows
end Go.Proofs.YtdnlebijmiaclabDoor
