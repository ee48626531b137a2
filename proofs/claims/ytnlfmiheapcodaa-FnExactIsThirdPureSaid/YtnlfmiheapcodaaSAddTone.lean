/- Contracts of spec.AddIntervals. -/
import Derived.Test.YtnlfmiheapcodaaIfOkWalks
namespace Go.Proofs.Ytnlfmiheapcodaa
open Go.RowKit Go.Joins
set_option linter.unusedVariables false
end Go.Proofs.Ytnlfmiheapcodaa
