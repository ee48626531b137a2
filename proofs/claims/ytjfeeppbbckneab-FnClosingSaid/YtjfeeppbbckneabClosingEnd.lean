/- The walk of laws.FnClosing over the landed program. -/
import Derived.Test.YtjfeeppbbckneabClosingLaw
import Derived.Test.YtjfeeppbbckneabClosWalks
import Derived.Test.YtjfeeppbbckneabGroupSum
namespace Go.Proofs.Ytjfeeppbbckneab
open Go.RowKit Go.Joins
theorem walk_FnClosing (a : Option Addr) (len cap : Nat) (zs : List Int) (w : World) (hr : IsRow .u8 w a len cap zs) :
    Calls Try.prog 5 #[.slice a len cap] w fun e w' => e = .returned (.bool true) ∧ Below w.heap.size w w' :=
  walk_ClosingBy groupThirds_impl last_impl wolf_impl groupSum_impl closes_impl regular_impl a len cap zs w hr
end Go.Proofs.Ytjfeeppbbckneab
