/- Contract of spec.l01Figure. -/
import Derived.Test.YtohfepcdgbgojabDoorProg
import Derived.Test.YtohfepcdgbgojabDoorHexMath
import Derived.WalkKit
import Derived.Below
import Derived.Deep.AppendLies
import Derived.Deep.RegionLaw
import Derived.Lib.Hide
namespace Go.Proofs.YtohfepcdgbgojabDoor
open Go.RowKit
set_option linter.unusedVariables false
theorem figure_ok (x : Int) (w : World) (h0 : 0 ≤ x) (h1 : x < 16) : Calls Tryd.prog 71 #[.int .i64 x] w fun e w' => e = .returned (.int .u8 (figN x.toNat)) ∧ w = w' := by
  by_cases h : x < 10
  · have hw : IntKind.u8.wrap (48 + x) = 48 + x := IntWalk.u8_in _ ⟨by omega, by omega⟩
    go_enter Tryd.func71, Tryd.ntmps71
    go_wp2
    go_ret
    exact ⟨ret_int (by unfold figN; split <;> omega), rfl⟩
  · have hw : IntKind.u8.wrap (97 + x - 10) = 97 + x - 10 := IntWalk.u8_in _ ⟨by omega, by omega⟩
    go_enter Tryd.func71, Tryd.ntmps71
    go_wp2
    go_ret
    exact ⟨ret_int (by unfold figN; split <;> omega), rfl⟩
end Go.Proofs.YtohfepcdgbgojabDoor
