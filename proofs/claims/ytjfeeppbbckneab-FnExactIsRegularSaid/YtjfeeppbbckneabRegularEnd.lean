/- The walk of laws.FnExactIsRegular over the landed program. -/
import Derived.Test.YtjfeeppbbckneabRegularLaw
import Derived.Test.YtjfeeppbbckneabClosWalks
namespace Go.Proofs.Ytjfeeppbbckneab
open Go.RowKit Go.Joins
theorem walk_FnExactIsRegular (a : Option Addr) (len cap : Nat) (zs : List Int) (w : World) (hr : IsRow .i64 w a len cap zs) :
    Calls Try.prog 9 #[cirV (.slice a len cap)] w fun e w' => e = .returned (.bool true) ∧ Below w.heap.size w w' :=
  walk_IsRegularBy regular_impl a len cap zs w hr
end Go.Proofs.Ytjfeeppbbckneab
