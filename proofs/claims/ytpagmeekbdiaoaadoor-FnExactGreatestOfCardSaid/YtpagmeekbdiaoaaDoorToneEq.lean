/- Contract of laws.eqInterval at two equal intervals. -/
import Derived.Test.YtpagmeekbdiaoaaDoorToneWalks
namespace Go.Proofs.YtpagmeekbdiaoaaDoor
open Go.RowKit Go.Joins
set_option linter.unusedVariables false
theorem eqInterval_same (a b c d : Int) (w : World) :
    Calls Tryd.prog 51 #[ivV a b c d, ivV a b c d] w fun e w' => e = .returned (.bool true) ∧ Below w.heap.size w w' := by
  go_enter Tryd.func51, Tryd.ntmps51
  go_wp2
  go_ret
  exact ⟨rfl, below_alloc2 _ _ _⟩
end Go.Proofs.YtpagmeekbdiaoaaDoor
