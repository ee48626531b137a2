/- Contracts of impl.AddIntervals. -/
import Derived.Test.YtfhefakacjkmiaaIfOkWalks
namespace Go.Proofs.Ytfhefakacjkmiaa
open Go.RowKit Go.Joins
set_option linter.unusedVariables false
end Go.Proofs.Ytfhefakacjkmiaa
