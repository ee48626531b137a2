/- The walk of laws.FnTuned over the program's contracts. -/
import Derived.Test.YtbklnlmijkclmaaTuneLaw
namespace Go.Proofs.Ytbklnlmijkclmaa
open Go.RowKit Go.Joins
set_option linter.unusedVariables false
end Go.Proofs.Ytbklnlmijkclmaa
