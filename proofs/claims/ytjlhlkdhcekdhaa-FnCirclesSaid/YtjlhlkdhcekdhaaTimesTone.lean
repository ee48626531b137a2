/- Contracts of impl.TimesInterval and spec.TimesInterval. -/
import Derived.Test.YtjlhlkdhcekdhaaIfOkWalks
namespace Go.Proofs.Ytjlhlkdhcekdhaa
open Go.RowKit Go.Joins
set_option linter.unusedVariables false
end Go.Proofs.Ytjlhlkdhcekdhaa
