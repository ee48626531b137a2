/- The walks of laws.FnExactCountModes and laws.FnExactBrightestMode. -/
import Derived.Test.YtneblpplkidkfaaModeCode
import Derived.Test.YtneblpplkidkfaaCntModeLaw
import Derived.Test.YtneblpplkidkfaaBrightLaw
namespace Go.Proofs.Ytneblpplkidkfaa
open Go.RowKit Go.Joins
set_option linter.unusedVariables false
theorem walk_FnExactCountModes (a : Option Addr) (len cap : Nat) (zs : List Int) (w : World) (hr : IsRow .i64 w a len cap zs) : Calls Try.prog 5 #[cirV (.slice a len cap)] w fun e w' => e = .returned (.bool true) ∧ Below w.heap.size w w' := walk_CountModesBy (fun xs y hy w b e v hl h => cnt_off xs y hy w b v hl (off_own h)) a len cap zs w hr
theorem walk_FnExactBrightestMode (a : Option Addr) (len cap : Nat) (zs : List Int) (w : World) (hr : IsRow .i64 w a len cap zs) : Calls Try.prog 6 #[cirV (.slice a len cap)] w fun e w' => e = .returned (.bool true) ∧ Below w.heap.size w w' := walk_BrightestModeBy (fun xs y hy w b e v hl h => bright_off xs y hy w b v hl (off_own h)) a len cap zs w hr
end Go.Proofs.Ytneblpplkidkfaa
