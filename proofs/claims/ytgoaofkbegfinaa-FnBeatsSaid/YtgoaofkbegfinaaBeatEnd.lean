/- The walks of laws.FnExactComparePitches and FnBeats over the landed program. -/
import Derived.Test.YtgoaofkbegfinaaBeatImpl
import Derived.Test.YtgoaofkbegfinaaBeatsLaw
namespace Go.Proofs.Ytgoaofkbegfinaa
open Go.RowKit Go.Joins
theorem walk_FnExactComparePitches (an ad bn bd : Int) (w : World) : Calls Try.prog 6 #[pchV an ad, pchV bn bd] w fun e w' => e = .returned (.bool true) ∧ Below w.heap.size w w' := walk_CompareBy17 cmp_impl17 an ad bn bd w
theorem walk_FnBeats (a : Option Addr) (len cap : Nat) (zs : List Int) (w : World) (hr : IsRow .u8 w a len cap zs) : Calls Try.prog 3 #[.slice a len cap] w fun e w' => e = .returned (.bool true) ∧ Below w.heap.size w w' := walk_BeatsBy pk_impl cmp_impl17 tp_impl17 bt_impl a len cap zs w hr
end Go.Proofs.Ytgoaofkbegfinaa
