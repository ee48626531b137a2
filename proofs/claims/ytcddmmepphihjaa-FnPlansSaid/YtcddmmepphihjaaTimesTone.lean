/- Contracts of impl.AddIntervals. -/
import Derived.Test.YtcddmmepphihjaaIfOkWalks
namespace Go.Proofs.Ytcddmmepphihjaa
open Go.RowKit Go.Joins
set_option linter.unusedVariables false
end Go.Proofs.Ytcddmmepphihjaa
/- Contracts of impl.TimesInterval and spec.TimesInterval. -/
namespace Go.Proofs.Ytcddmmepphihjaa
open Go.RowKit Go.Joins
set_option linter.unusedVariables false
end Go.Proofs.Ytcddmmepphihjaa
