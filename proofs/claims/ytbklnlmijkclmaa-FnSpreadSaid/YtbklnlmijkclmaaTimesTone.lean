/- Contracts of impl.AddIntervals. -/
import Derived.Test.YtbklnlmijkclmaaIfOkWalks
namespace Go.Proofs.Ytbklnlmijkclmaa
open Go.RowKit Go.Joins
set_option linter.unusedVariables false
end Go.Proofs.Ytbklnlmijkclmaa
/- Contracts of impl.TimesInterval and spec.TimesInterval. -/
namespace Go.Proofs.Ytbklnlmijkclmaa
open Go.RowKit Go.Joins
set_option linter.unusedVariables false
end Go.Proofs.Ytbklnlmijkclmaa
