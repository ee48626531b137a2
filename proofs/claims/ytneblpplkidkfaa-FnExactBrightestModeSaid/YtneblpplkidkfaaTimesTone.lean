/- Contracts of impl.AddIntervals. -/
import Derived.Test.YtneblpplkidkfaaIfOkWalks
namespace Go.Proofs.Ytneblpplkidkfaa
open Go.RowKit Go.Joins
set_option linter.unusedVariables false
end Go.Proofs.Ytneblpplkidkfaa
/- Contracts of impl.TimesInterval and spec.TimesInterval. -/
namespace Go.Proofs.Ytneblpplkidkfaa
open Go.RowKit Go.Joins
set_option linter.unusedVariables false
end Go.Proofs.Ytneblpplkidkfaa
