/- Contract of laws.eqIntS over slices of ints that the call owns. -/
import Derived.Test.YtjnhfgacgobfcaaToInts
namespace Go.Proofs.Ytjnhfgacgobfcaa
open Go.RowKit
set_option linter.unusedVariables false
theorem ret_bool {a b : Bool} (h : a = b) : Ending.returned (.bool a) = .returned (.bool b) := by rw [h]
end Go.Proofs.Ytjnhfgacgobfcaa
