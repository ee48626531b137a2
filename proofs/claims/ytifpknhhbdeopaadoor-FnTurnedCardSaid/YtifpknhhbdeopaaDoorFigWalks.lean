/- Contract of spec.l01Figure. -/
import Derived.Test.YtifpknhhbdeopaaDoorProg
import Derived.Test.YtifpknhhbdeopaaDoorHexMath
import Derived.WalkKit
import Derived.Below
import Derived.Deep.AppendLies
import Derived.Deep.RegionLaw
import Derived.Lib.Hide
namespace Go.Proofs.YtifpknhhbdeopaaDoor
open Go.RowKit
set_option linter.unusedVariables false
end Go.Proofs.YtifpknhhbdeopaaDoor
