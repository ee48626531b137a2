/- Contracts of laws.toInterval, spec.l01In, spec.IntervalOk, impl.clampedInterval and impl.IntervalOk. -/
import Derived.Test.YtjnhfgacgobfcaaDoorProg
import Derived.Test.YtjnhfgacgobfcaaDoorToneMath
import Derived.Test.YtjnhfgacgobfcaaDoorClampImpl
import Derived.Laws.StructEq
import Derived.Laws.NewDeep
import Derived.Deep.QuietTactic
import Derived.Deep.RegionHeld3
import Derived.StillTailTactics
import Derived.BigQuiet
import Derived.RegionTactic
import Derived.IntWalk
import Derived.Lib.Hide
import Derived.Lib.SmallJoins
namespace Go.Proofs.YtjnhfgacgobfcaaDoor
open Go.RowKit Go.Joins
set_option linter.unusedVariables false
/-- The value of an interval. -/
abbrev ivV (a b c d : Int) : Value := .agg #[.int .i64 a, .int .i64 b, .int .i64 c, .int .i64 d]
/-- IntervalOk. -/
def okI (a b c d : Int) : Bool := decide (1 ≤ d ∧ d ≤ 12 ∧ -400 ≤ a ∧ a ≤ 400 ∧ -400 ≤ b ∧ b ≤ 400 ∧ -400 ≤ c ∧ c ≤ 400)
theorem ret_boolT {x y : Bool} (h : x = y) : Ending.returned (.bool x) = .returned (.bool y) := by rw [h]
end Go.Proofs.YtjnhfgacgobfcaaDoor
