/- Contracts of laws.toIntS, laws.markIntS and laws.heldIntS. -/
import Derived.Test.YtnlfmiheapcodaaDoorProg
import Derived.Test.YtnlfmiheapcodaaDoorIntRows
import Derived.WalkKit
import Derived.Lib.Hide
import Derived.Laws.OwnMore
import Derived.Deep.QuietTactic
import Derived.BigQuiet
import Derived.Deep.AppendLies
namespace Go.Proofs.YtnlfmiheapcodaaDoor
open Go.RowKit
set_option linter.unusedVariables false
end Go.Proofs.YtnlfmiheapcodaaDoor
