/- Contract of laws.eqIntS over slices of ints that the call owns. -/
import Derived.Test.YtjnhfgacgobfcaaDoorToInts
namespace Go.Proofs.YtjnhfgacgobfcaaDoor
open Go.RowKit
set_option linter.unusedVariables false
theorem ret_bool {a b : Bool} (h : a = b) : Ending.returned (.bool a) = .returned (.bool b) := by rw [h]
end Go.Proofs.YtjnhfgacgobfcaaDoor
