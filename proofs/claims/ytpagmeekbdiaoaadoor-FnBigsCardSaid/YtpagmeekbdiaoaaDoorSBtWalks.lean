/- Contract of spec.BigText. -/
import Derived.Test.YtpagmeekbdiaoaaDoorBtMath
import Derived.Test.YtpagmeekbdiaoaaDoorOkWalks
import Derived.Test.YtpagmeekbdiaoaaDoorFmText
namespace Go.Proofs.YtpagmeekbdiaoaaDoor
open Go.RowKit
set_option linter.unusedVariables false
end Go.Proofs.YtpagmeekbdiaoaaDoor
