/- Contracts of impl.AddIntervals. -/
import Derived.Test.YtohfepcdgbgojabIfOkWalks
namespace Go.Proofs.Ytohfepcdgbgojab
open Go.RowKit Go.Joins
set_option linter.unusedVariables false
end Go.Proofs.Ytohfepcdgbgojab
/- Contracts of impl.TimesInterval and spec.TimesInterval. -/
namespace Go.Proofs.Ytohfepcdgbgojab
open Go.RowKit Go.Joins
set_option linter.unusedVariables false
end Go.Proofs.Ytohfepcdgbgojab
