/- Contract of laws.big. -/
import Derived.Test.YtjlhlkdhcekdhaaProg
import Derived.Test.YtjlhlkdhcekdhaaNumBase
namespace Go.Proofs.Ytjlhlkdhcekdhaa
open Go.RowKit
set_option linter.unusedVariables false
theorem bigW_any (a : Option Addr) (len cap : Nat) (w : World) (h : len ≤ 9223372036854775807) : Calls Try.prog 9 #[.slice a len cap] w fun e w' => e = .returned (.bool (decide (1048576 < (len : Int)))) ∧ w = w' := by
  go_enter Try.func9, Try.ntmps9
  go_wp2
  go_ret
  exact ⟨rfl, rfl⟩
end Go.Proofs.Ytjlhlkdhcekdhaa
