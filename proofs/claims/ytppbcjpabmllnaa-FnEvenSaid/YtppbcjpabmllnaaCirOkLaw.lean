/- The walk of laws.FnExactCircleOk; the end of a law that looks at a circle's row once more. -/
import Derived.Test.YtppbcjpabmllnaaCirOk
import Derived.Deep.RegionWith
namespace Go.Proofs.Ytppbcjpabmllnaa
open Go.RowKit Go.Joins
set_option linter.unusedVariables false
end Go.Proofs.Ytppbcjpabmllnaa
