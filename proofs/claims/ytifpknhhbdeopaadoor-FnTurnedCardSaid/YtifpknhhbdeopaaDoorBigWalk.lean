/- Contract of laws.big. -/
import Derived.Test.YtifpknhhbdeopaaDoorProg
import Derived.Test.YtifpknhhbdeopaaDoorNumBase
namespace Go.Proofs.YtifpknhhbdeopaaDoor
open Go.RowKit
set_option linter.unusedVariables false
theorem bigW_any (a : Option Addr) (len cap : Nat) (w : World) (h : len ≤ 9223372036854775807) : Calls Tryd.prog 4 #[.slice a len cap] w fun e w' => e = .returned (.bool (decide (1048576 < (len : Int)))) ∧ w = w' := by
  go_enter Tryd.func4, Tryd.ntmps4
  go_wp2
  go_ret
  exact ⟨rfl, rfl⟩
end Go.Proofs.YtifpknhhbdeopaaDoor
