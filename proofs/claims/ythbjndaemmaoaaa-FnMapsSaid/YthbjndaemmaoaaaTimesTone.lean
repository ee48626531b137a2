/- Contracts of impl.TimesInterval and spec.TimesInterval. -/
import Derived.Test.YthbjndaemmaoaaaIfOkWalks
namespace Go.Proofs.Ythbjndaemmaoaaa
open Go.RowKit Go.Joins
set_option linter.unusedVariables false
end Go.Proofs.Ythbjndaemmaoaaa
