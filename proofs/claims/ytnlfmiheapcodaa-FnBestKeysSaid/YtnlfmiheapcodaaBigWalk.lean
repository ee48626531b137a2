/- Contract of laws.big. -/
import Derived.Test.YtnlfmiheapcodaaProg
import Derived.Test.YtnlfmiheapcodaaNumBase
namespace Go.Proofs.Ytnlfmiheapcodaa
open Go.RowKit
set_option linter.unusedVariables false
theorem bigW_any (a : Option Addr) (len cap : Nat) (w : World) (h : len ≤ 9223372036854775807) : Calls Try.prog 31 #[.slice a len cap] w fun e w' => e = .returned (.bool (decide (1048576 < (len : Int)))) ∧ w = w' := by
  go_enter Try.func31, Try.ntmps31
  go_wp2
  go_ret
  exact ⟨rfl, rfl⟩
end Go.Proofs.Ytnlfmiheapcodaa
