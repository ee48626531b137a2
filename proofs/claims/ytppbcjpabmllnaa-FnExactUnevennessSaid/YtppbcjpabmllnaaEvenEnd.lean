/- The walks of laws.FnExactIsEven and laws.FnExactUnevenness. -/
import Derived.Test.YtppbcjpabmllnaaEvenCode
import Derived.Test.YtppbcjpabmllnaaEvenLaw
import Derived.Test.YtppbcjpabmllnaaUnevenLaw
namespace Go.Proofs.Ytppbcjpabmllnaa
open Go.RowKit Go.Joins
set_option linter.unusedVariables false
theorem walk_FnExactIsEven (a : Option Addr) (len cap : Nat) (zs : List Int) (w : World) (hr : IsRow .i64 w a len cap zs) : Calls Try.prog 6 #[cirV (.slice a len cap)] w fun e w' => e = .returned (.bool true) ∧ Below w.heap.size w w' := walk_IsEvenBy isEven_impl a len cap zs w hr
theorem walk_FnExactUnevenness (a : Option Addr) (len cap : Nat) (zs : List Int) (w : World) (hr : IsRow .i64 w a len cap zs) : Calls Try.prog 7 #[cirV (.slice a len cap)] w fun e w' => e = .returned (.bool true) ∧ Below w.heap.size w w' := walk_UnevennessBy uneven_impl a len cap zs w hr
end Go.Proofs.Ytppbcjpabmllnaa
