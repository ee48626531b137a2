/- The walk of laws.FnHeard. -/
import Derived.Test.YtohfepcdgbgojabHearLaw
import Derived.Test.YtohfepcdgbgojabHeardImpl
import Derived.Test.YtohfepcdgbgojabNearImpl
namespace Go.Proofs.Ytohfepcdgbgojab
open Go.RowKit Go.Joins
theorem walk_FnHeard (a0 : Option Addr) (len0 cap0 : Nat) (z0 : List Int) (w : World) (hr : IsRow .u8 w a0 len0 cap0 z0) :
    Calls Try.prog 8 #[.slice a0 len0 cap0] w fun e w' => e = .returned (.bool true) ∧ Below w.heap.size w w' :=
  walk_HearBy heard_impl near_impl thirds_impl diff_impl a0 len0 cap0 z0 w hr
end Go.Proofs.Ytohfepcdgbgojab
