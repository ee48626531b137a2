/- Contracts of laws.toIntS, laws.markIntS and laws.heldIntS. -/
import Derived.Test.YtifpknhhbdeopaaDoorProg
import Derived.Test.YtifpknhhbdeopaaDoorIntRows
import Derived.WalkKit
import Derived.Lib.Hide
import Derived.Laws.OwnMore
import Derived.Deep.QuietTactic
import Derived.BigQuiet
import Derived.Deep.AppendLies
namespace Go.Proofs.YtifpknhhbdeopaaDoor
open Go.RowKit
set_option linter.unusedVariables false
end Go.Proofs.YtifpknhhbdeopaaDoor
