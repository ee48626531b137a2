/- Contracts of impl.TimesInterval and spec.TimesInterval. -/
import Derived.Test.YtfhefakacjkmiaaIfOkWalks
namespace Go.Proofs.Ytfhefakacjkmiaa
open Go.RowKit Go.Joins
set_option linter.unusedVariables false
end Go.Proofs.Ytfhefakacjkmiaa
