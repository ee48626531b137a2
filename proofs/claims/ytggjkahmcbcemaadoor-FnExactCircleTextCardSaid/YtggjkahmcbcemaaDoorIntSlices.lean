/- Contracts of laws.toIntS, laws.markIntS and laws.heldIntS. -/
import Derived.Test.YtggjkahmcbcemaaDoorProg
import Derived.Test.YtggjkahmcbcemaaDoorIntRows
import Derived.WalkKit
import Derived.Lib.Hide
import Derived.Laws.OwnMore
import Derived.Deep.QuietTactic
import Derived.BigQuiet
import Derived.Deep.AppendLies
namespace Go.Proofs.YtggjkahmcbcemaaDoor
open Go.RowKit
set_option linter.unusedVariables false
end Go.Proofs.YtggjkahmcbcemaaDoor
