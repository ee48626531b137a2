/- Contract of laws.big. -/
import Derived.Test.YtnlfmiheapcodaaDoorProg
import Derived.Test.YtnlfmiheapcodaaDoorNumBase
namespace Go.Proofs.YtnlfmiheapcodaaDoor
open Go.RowKit
set_option linter.unusedVariables false
theorem bigW_any (a : Option Addr) (len cap : Nat) (w : World) (h : len ≤ 9223372036854775807) : Calls Tryd.prog 10 #[.slice a len cap] w fun e w' => e = .returned (.bool (decide (1048576 < (len : Int)))) ∧ w = w' := by
  go_enter Tryd.func10, Tryd.ntmps10
  go_wp2
  go_ret
  exact ⟨rfl, rfl⟩
end Go.Proofs.YtnlfmiheapcodaaDoor
