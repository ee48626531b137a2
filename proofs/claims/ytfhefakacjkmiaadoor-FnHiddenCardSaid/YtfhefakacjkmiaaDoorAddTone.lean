/- Contracts of impl.AddIntervals. -/
import Derived.Test.YtfhefakacjkmiaaDoorIfOkWalks
namespace Go.Proofs.YtfhefakacjkmiaaDoor
open Go.RowKit Go.Joins
set_option linter.unusedVariables false
end Go.Proofs.YtfhefakacjkmiaaDoor
