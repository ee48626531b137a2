/- Contracts of impl.AddIntervals. -/
import Derived.Test.YthbjndaemmaoaaaDoorIfOkWalks
namespace Go.Proofs.YthbjndaemmaoaaaDoor
open Go.RowKit Go.Joins
set_option linter.unusedVariables false
end Go.Proofs.YthbjndaemmaoaaaDoor
