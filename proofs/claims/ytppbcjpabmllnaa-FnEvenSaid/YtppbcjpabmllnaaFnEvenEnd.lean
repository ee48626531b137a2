/- The walk of laws.FnEven. -/
import Derived.Test.YtppbcjpabmllnaaEvenCode
import Derived.Test.YtppbcjpabmllnaaModeCode
import Derived.Test.YtppbcjpabmllnaaFnEvenLaw
namespace Go.Proofs.Ytppbcjpabmllnaa
open Go.RowKit Go.Joins
set_option linter.unusedVariables false
theorem walk_FnEven (a : Option Addr) (len cap : Nat) (zs : List Int) (w : World) (hr : IsRow .u8 w a len cap zs) : Calls Try.prog 3 #[.slice a len cap] w fun e w' => e = .returned (.bool true) ∧ Below w.heap.size w w' := walk_FnEvenBy isEven_impl uneven_impl evenScale_impl scSum_impl two_impl (fun xs ys y hy w b b' e e' v v' hl hl' h h' => sm_off xs ys y hy w b b' v v' hl hl' (off_own h) (off_own h')) a len cap zs w hr
end Go.Proofs.Ytppbcjpabmllnaa
