/- Contract of laws.eqInterval at two equal intervals. -/
import Derived.Test.YtefndomhidaaiaaToneWalks
namespace Go.Proofs.Ytefndomhidaaiaa
open Go.RowKit Go.Joins
set_option linter.unusedVariables false
end Go.Proofs.Ytefndomhidaaiaa
