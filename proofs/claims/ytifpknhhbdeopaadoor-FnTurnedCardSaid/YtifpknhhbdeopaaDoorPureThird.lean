/- Contract of impl.pureThird. -/
import Derived.Test.YtifpknhhbdeopaaDoorComWalks
import Derived.Test.YtifpknhhbdeopaaDoorOctWalks
namespace Go.Proofs.YtifpknhhbdeopaaDoor
open Go.RowKit Go.Joins
set_option linter.unusedVariables false
end Go.Proofs.YtifpknhhbdeopaaDoor
