/- Contracts of laws.big, laws.at and laws.btoi; laws.at with one answer in every world behind. -/
import Derived.Test.YtppbcjpabmllnaaProg
import Derived.Test.YtppbcjpabmllnaaCurWalks
import Derived.Test.YtppbcjpabmllnaaNumBase
import Derived.WalkKit
import Derived.Lib.Hide
namespace Go.Proofs.Ytppbcjpabmllnaa
open Go.RowKit
set_option linter.unusedVariables false
theorem bigA_any (a : Option Addr) (len cap : Nat) (w : World) (h : len ≤ 9223372036854775807) : Calls Try.prog 8 #[.slice a len cap] w fun e w' => e = .returned (.bool (decide (1048576 < (len : Int)))) ∧ w = w' := by
  go_enter Try.func8, Try.ntmps8
  go_wp2
  go_ret
  exact ⟨rfl, rfl⟩
def AtPost (w : World) (e : Ending) (w' : World) : Prop := ∃ u : Nat, u ≤ 255 ∧ e = .returned (.int .i64 (u : Int)) ∧ w = w'
end Go.Proofs.Ytppbcjpabmllnaa
/- Contract of laws.big. -/
namespace Go.Proofs.Ytppbcjpabmllnaa
open Go.RowKit
set_option linter.unusedVariables false
theorem bigW_any (a : Option Addr) (len cap : Nat) (w : World) (h : len ≤ 9223372036854775807) : Calls Try.prog 8 #[.slice a len cap] w fun e w' => e = .returned (.bool (decide (1048576 < (len : Int)))) ∧ w = w' := by
  go_enter Try.func8, Try.ntmps8
  go_wp2
  go_ret
  exact ⟨rfl, rfl⟩
end Go.Proofs.Ytppbcjpabmllnaa
