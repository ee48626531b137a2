/- The walk of laws.FnExactModeOf. -/
import Derived.Test.YtneblpplkidkfaaModeCode
import Derived.Test.YtneblpplkidkfaaModeLaw
namespace Go.Proofs.Ytneblpplkidkfaa
open Go.RowKit Go.Joins
set_option linter.unusedVariables false
theorem walk_FnExactModeOf (a : Option Addr) (len cap : Nat) (zs : List Int) (i : Int) (w : World) (hr : IsRow .i64 w a len cap zs) (hi : (Lit.int .i64 i).wf = true) : Calls Try.prog 4 #[cirV (.slice a len cap), .int .i64 i] w fun e w' => e = .returned (.bool true) ∧ Below w.heap.size w w' := walk_ModeOfBy mode_off a len cap zs i w hr hi
end Go.Proofs.Ytneblpplkidkfaa
