/- Contracts of impl.SimplestOf and spec.SimplestOf. -/
import Derived.Test.YtjnhfgacgobfcaaSimpleWalks
namespace Go.Proofs.Ytjnhfgacgobfcaa
open Go.RowKit Go.Joins
set_option linter.unusedVariables false
end Go.Proofs.Ytjnhfgacgobfcaa
