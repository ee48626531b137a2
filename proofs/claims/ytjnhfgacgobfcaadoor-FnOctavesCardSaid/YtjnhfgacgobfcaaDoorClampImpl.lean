/- Contract of the Go function impl.Clamp. -/
import Derived.Test.YtjnhfgacgobfcaaDoorProg
import Derived.Test.YtjnhfgacgobfcaaDoorBase
import Derived.WalkKit
import Derived.Below
namespace Go.Proofs.YtjnhfgacgobfcaaDoor
open Go.RowKit
set_option linter.unusedVariables false
def clampI (n lo hi : Int) : Int := if hi < lo ∨ n < lo then lo else if hi < n then hi else n
theorem clamp_impl (n lo hi : Int) (w : World) : Calls Tryd.prog 34 #[.int .i64 n, .int .i64 lo, .int .i64 hi] w fun e w' => e = .returned (.int .i64 (clampI n lo hi)) ∧ w = w' := by
  by_cases h1 : n < lo
  · go_enter Tryd.func34, Tryd.ntmps34
    go_wp2
    go_ret
    exact ⟨ret_int (by unfold clampI; (repeat' split) <;> omega), rfl⟩
  · by_cases h2 : hi < lo
    · go_enter Tryd.func34, Tryd.ntmps34
      go_wp2
      go_ret
      exact ⟨ret_int (by unfold clampI; (repeat' split) <;> omega), rfl⟩
    · by_cases h3 : hi < n
      · go_enter Tryd.func34, Tryd.ntmps34
        go_wp2
        go_ret
        exact ⟨ret_int (by unfold clampI; (repeat' split) <;> omega), rfl⟩
      · go_enter Tryd.func34, Tryd.ntmps34
        go_wp2
        go_ret
        exact ⟨ret_int (by unfold clampI; (repeat' split) <;> omega), rfl⟩
end Go.Proofs.YtjnhfgacgobfcaaDoor
