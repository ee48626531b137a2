/- The walk of laws.FnExactCloses over the landed program. -/
import Derived.Test.YtjfeeppbbckneabClosesLaw
import Derived.Test.YtjfeeppbbckneabClosWalks
namespace Go.Proofs.Ytjfeeppbbckneab
open Go.RowKit Go.Joins
theorem walk_FnExactCloses (a : Option Addr) (len cap : Nat) (zs : List Int) (w : World) (hr : IsRow .i64 w a len cap zs) :
    Calls Try.prog 6 #[.slice a len cap] w fun e w' => e = .returned (.bool true) ∧ Below w.heap.size w w' :=
  walk_ClosesBy closes_impl a len cap zs w hr
end Go.Proofs.Ytjfeeppbbckneab
