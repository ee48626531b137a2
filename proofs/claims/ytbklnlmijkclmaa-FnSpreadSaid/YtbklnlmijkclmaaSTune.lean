/- Contracts of spec.l18Pitch, spec.TunedPitch, spec.BeatsHeard and spec.IsNarrow. -/
import Derived.Deep.DeepCutAuto
import Derived.Test.YtbklnlmijkclmaaToneWalks
import Derived.Test.YtbklnlmijkclmaaTuneMath
namespace Go.Proofs.Ytbklnlmijkclmaa
open Go.RowKit Go.Joins
set_option linter.unusedVariables false
theorem wrap_in18 {x : Int} (h : -9223372036854775808 ≤ x ∧ x ≤ 9223372036854775807) : wrap64 x = x := by unfold wrap64; omega
theorem in_at {n lo hi : Int} {b : Bool} (h : decide (lo ≤ n ∧ n ≤ hi) = b) (w : World) : Calls Try.prog 56 #[.int .i64 n, .int .i64 lo, .int .i64 hi] w fun e w' => e = .returned (.bool b) ∧ w = w' := h ▸ inT_any n lo hi w
end Go.Proofs.Ytbklnlmijkclmaa
