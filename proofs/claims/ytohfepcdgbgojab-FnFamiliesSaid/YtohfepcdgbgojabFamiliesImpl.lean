/- The walk of laws.FnFamilies over the program's contract of FamilyOf. -/
import Derived.Test.YtohfepcdgbgojabFamImpl
import Derived.Test.YtohfepcdgbgojabFamiliesLaw
namespace Go.Proofs.Ytohfepcdgbgojab
open Go.RowKit Go.Joins
set_option linter.unusedVariables false
theorem walk_FnFamilies (a0 : Option Addr) (len0 cap0 : Nat) (z0 : List Int) (w : World) (hr : IsRow .u8 w a0 len0 cap0 z0) :
    Calls Try.prog 3 #[.slice a0 len0 cap0] w fun e w' => e = .returned (.bool true) ∧ Below w.heap.size w w' :=
  walk_FamiliesBy family_impl a0 len0 cap0 z0 w hr
end Go.Proofs.Ytohfepcdgbgojab
