/- Contract of laws.sameInts over slices of ints that the call owns. -/
import Derived.Test.YtppbcjpabmllnaaIntRows
namespace Go.Proofs.Ytppbcjpabmllnaa
open Go.RowKit
set_option linter.unusedVariables false
end Go.Proofs.Ytppbcjpabmllnaa
