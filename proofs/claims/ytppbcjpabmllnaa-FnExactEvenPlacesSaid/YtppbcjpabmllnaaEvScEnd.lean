/- The walks of laws.FnExactEvenScale and laws.FnExactEvenPlaces. -/
import Derived.Test.YtppbcjpabmllnaaEvenCode
import Derived.Test.YtppbcjpabmllnaaEvScLaw
import Derived.Test.YtppbcjpabmllnaaPlacesLaw
namespace Go.Proofs.Ytppbcjpabmllnaa
open Go.RowKit Go.Joins
set_option linter.unusedVariables false
theorem walk_FnExactEvenScale (c : Int) (hc : (Lit.int .i64 c).wf = true) (s : Int) (hs : (Lit.int .i64 s).wf = true) (w : World) : Calls Try.prog 5 #[.int .i64 c, .int .i64 s] w fun e w' => e = .returned (.bool true) ∧ Below w.heap.size w w' := walk_EvenScaleBy evenScale_impl c s w hc hs
theorem walk_FnExactEvenPlaces (c : Int) (hc : (Lit.int .i64 c).wf = true) (s : Int) (hs : (Lit.int .i64 s).wf = true) (w : World) : Calls Try.prog 4 #[.int .i64 c, .int .i64 s] w fun e w' => e = .returned (.bool true) ∧ Below w.heap.size w w' := walk_EvenPlacesBy places_impl c s w hc hs
end Go.Proofs.Ytppbcjpabmllnaa
