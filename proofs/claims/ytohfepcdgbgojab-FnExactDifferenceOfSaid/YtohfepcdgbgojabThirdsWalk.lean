/- The walks of laws.FnExactThirdsOf and laws.FnExactDifferenceOf. -/
import Derived.Test.YtohfepcdgbgojabThirdsImpl
import Derived.Test.YtohfepcdgbgojabThirdsLaw15
namespace Go.Proofs.Ytohfepcdgbgojab
open Go.RowKit Go.Joins
theorem walk_FnExactThirdsOf (a : Option Addr) (len cap : Nat) (zs : List Int) (w : World) (hr : IsRow .i64 w a len cap zs) :
    Calls Try.prog 9 #[cirV (.slice a len cap)] w fun e w' => e = .returned (.bool true) ∧ Below w.heap.size w w' :=
  walk_ThirdsBy thirds_impl a len cap zs w hr
theorem walk_FnExactDifferenceOf (a : Option Addr) (len cap : Nat) (zs : List Int) (a' : Option Addr) (len' cap' : Nat) (zs' : List Int) (w : World) (hr : IsRow .i64 w a len cap zs) (hr' : IsRow .i64 w a' len' cap' zs') :
    Calls Try.prog 12 #[cirV (.slice a len cap), cirV (.slice a' len' cap')] w fun e w' => e = .returned (.bool true) ∧ Below w.heap.size w w' :=
  walk_DifferenceBy diff_impl a len cap zs a' len' cap' zs' w hr hr'
end Go.Proofs.Ytohfepcdgbgojab
