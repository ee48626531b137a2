/- Contracts of spec.l09Nearest and spec.BestMap. -/
import Derived.Test.YthbjndaemmaoaaaDoorMapWalks
import Derived.Test.YthbjndaemmaoaaaDoorSSign04
namespace Go.Proofs.YthbjndaemmaoaaaDoor
open Go.RowKit Go.Joins
set_option linter.unusedVariables false
def intOfN : Value → Int | .int _ q => q | _ => 0
end Go.Proofs.YthbjndaemmaoaaaDoor
