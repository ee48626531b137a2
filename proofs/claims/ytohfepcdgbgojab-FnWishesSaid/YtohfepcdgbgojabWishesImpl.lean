/- The walk of laws.FnWishes over the program's contracts. -/
import Derived.Test.YtohfepcdgbgojabFirstImpl
import Derived.Test.YtohfepcdgbgojabConfImpl
namespace Go.Proofs.Ytohfepcdgbgojab
open Go.RowKit Go.Joins
set_option linter.unusedVariables false
theorem walk_FnWishes (a0 : Option Addr) (len0 cap0 : Nat) (z0 : List Int) (w : World) (hr : IsRow .u8 w a0 len0 cap0 z0) :
    Calls Try.prog 4 #[.slice a0 len0 cap0] w fun e w' => e = .returned (.bool true) ∧ Below w.heap.size w w' :=
  walk_WishesBy meets_impl count_impl first_impl conf_impl equal_impl a0 len0 cap0 z0 w hr
end Go.Proofs.Ytohfepcdgbgojab
