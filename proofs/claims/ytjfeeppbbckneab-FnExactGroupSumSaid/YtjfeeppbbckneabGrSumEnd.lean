/- The walk of laws.FnExactGroupSum over the landed program. -/
import Derived.Test.YtjfeeppbbckneabGrSumLaw
import Derived.Test.YtjfeeppbbckneabGroupSum
namespace Go.Proofs.Ytjfeeppbbckneab
open Go.RowKit Go.Joins
theorem walk_FnExactGroupSum (a : Option Addr) (len cap : Nat) (zs : List Int) (i : Int) (w : World) (hr : IsRow .i64 w a len cap zs) (hi : (Lit.int .i64 i).wf = true) :
    Calls Try.prog 8 #[cirV (.slice a len cap), .int .i64 i] w fun e w' => e = .returned (.bool true) ∧ Below w.heap.size w w' :=
  walk_GroupSumBy groupSum_impl a len cap zs i w hr hi
end Go.Proofs.Ytjfeeppbbckneab
