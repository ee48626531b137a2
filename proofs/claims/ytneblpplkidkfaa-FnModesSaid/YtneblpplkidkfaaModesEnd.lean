/- The walk of laws.FnModes. -/
import Derived.Test.YtneblpplkidkfaaModeCode
import Derived.Test.YtneblpplkidkfaaModesLaw
namespace Go.Proofs.Ytneblpplkidkfaa
open Go.RowKit Go.Joins
set_option linter.unusedVariables false
theorem walk_FnModes (a : Option Addr) (len cap : Nat) (zs : List Int) (w : World) (hr : IsRow .u8 w a len cap zs) : Calls Try.prog 3 #[.slice a len cap] w fun e w' => e = .returned (.bool true) ∧ Below w.heap.size w w' := walk_FnModesBy mode_off cnt_off bright_off rev_off (fun xs y hy w b v hl h => two_off xs y hy w b v hl h) sm_off mir_off a len cap zs w hr
end Go.Proofs.Ytneblpplkidkfaa
