/- The walk of laws.FnExactWolfAt over the landed program. -/
import Derived.Test.YtjfeeppbbckneabWolfLaw
import Derived.Test.YtjfeeppbbckneabClosWalks
namespace Go.Proofs.Ytjfeeppbbckneab
open Go.RowKit Go.Joins
theorem walk_FnExactWolfAt (a : Option Addr) (len cap : Nat) (zs : List Int) (w : World) (hr : IsRow .i64 w a len cap zs) :
    Calls Try.prog 10 #[cirV (.slice a len cap)] w fun e w' => e = .returned (.bool true) ∧ Below w.heap.size w w' :=
  walk_WolfAtBy wolf_impl a len cap zs w hr
end Go.Proofs.Ytjfeeppbbckneab
