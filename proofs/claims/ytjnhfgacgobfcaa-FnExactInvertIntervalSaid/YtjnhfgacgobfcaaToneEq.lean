/- Contract of laws.eqInterval at two equal intervals. -/
import Derived.Test.YtjnhfgacgobfcaaToneWalks
namespace Go.Proofs.Ytjnhfgacgobfcaa
open Go.RowKit Go.Joins
set_option linter.unusedVariables false
theorem eqInterval_same (a b c d : Int) (w : World) :
    Calls Try.prog 12 #[ivV a b c d, ivV a b c d] w fun e w' => e = .returned (.bool true) ∧ Below w.heap.size w w' := by
  go_enter Try.func12, Try.ntmps12
  go_wp2
  go_ret
  exact ⟨rfl, below_alloc2 _ _ _⟩
end Go.Proofs.Ytjnhfgacgobfcaa
