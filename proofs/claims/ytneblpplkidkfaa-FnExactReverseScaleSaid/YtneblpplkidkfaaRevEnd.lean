/- The walk of laws.FnExactReverseScale. -/
import Derived.Test.YtneblpplkidkfaaModeCode
import Derived.Test.YtneblpplkidkfaaRevLaw
namespace Go.Proofs.Ytneblpplkidkfaa
open Go.RowKit Go.Joins
set_option linter.unusedVariables false
theorem walk_FnExactReverseScale (a : Option Addr) (len cap : Nat) (zs : List Int) (w : World) (hr : IsRow .i64 w a len cap zs) : Calls Try.prog 7 #[cirV (.slice a len cap)] w fun e w' => e = .returned (.bool true) ∧ Below w.heap.size w w' := walk_ReverseScaleBy (fun xs ys hy w b e v hl h => rev_off xs ys hy w b v hl (off_own h)) a len cap zs w hr
end Go.Proofs.Ytneblpplkidkfaa
