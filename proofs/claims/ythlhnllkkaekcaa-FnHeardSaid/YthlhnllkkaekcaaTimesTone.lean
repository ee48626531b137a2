/- Contracts of impl.AddIntervals. -/
import Derived.Test.YthlhnllkkaekcaaIfOkWalks
namespace Go.Proofs.Ythlhnllkkaekcaa
open Go.RowKit Go.Joins
set_option linter.unusedVariables false
end Go.Proofs.Ythlhnllkkaekcaa
/- Contracts of impl.TimesInterval and spec.TimesInterval. -/
namespace Go.Proofs.Ythlhnllkkaekcaa
open Go.RowKit Go.Joins
set_option linter.unusedVariables false
end Go.Proofs.Ythlhnllkkaekcaa
