/- Contract of spec.l01Figure. -/
import Derived.Test.YtpagmeekbdiaoaaDoorProg
import Derived.Test.YtpagmeekbdiaoaaDoorHexMath
import Derived.WalkKit
import Derived.Below
import Derived.Deep.AppendLies
import Derived.Deep.RegionLaw
import Derived.Lib.Hide
namespace Go.Proofs.YtpagmeekbdiaoaaDoor
open Go.RowKit
set_option linter.unusedVariables false
end Go.Proofs.YtpagmeekbdiaoaaDoor
