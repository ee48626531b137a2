/- Contracts of impl.AddIntervals. -/
import Derived.Test.YtfkimbpohlllkaaIfOkWalks
namespace Go.Proofs.Ytfkimbpohlllkaa
open Go.RowKit Go.Joins
set_option linter.unusedVariables false
end Go.Proofs.Ytfkimbpohlllkaa
/- Contracts of impl.TimesInterval and spec.TimesInterval. -/
namespace Go.Proofs.Ytfkimbpohlllkaa
open Go.RowKit Go.Joins
set_option linter.unusedVariables false
end Go.Proofs.Ytfkimbpohlllkaa
