/- Contracts of spec.l01In, spec.BigOk and impl.BigOk, and the walk of laws.FnExactBigOk. -/
import Derived.Test.YtjnhfgacgobfcaaEqInts
import Derived.Test.YtjnhfgacgobfcaaBigMath
namespace Go.Proofs.Ytjnhfgacgobfcaa
open Go.RowKit
set_option linter.unusedVariables false
theorem in_any (n lo hi : Int) (w : World) : Calls Try.prog 27 #[.int .i64 n, .int .i64 lo, .int .i64 hi] w fun e w' => e = .returned (.bool (decide (lo ≤ n ∧ n ≤ hi))) ∧ w = w' := by
  by_cases h1 : lo ≤ n
  · by_cases h2 : n ≤ hi
    · have R := Lib.hid (And.intro h1 h2)
      go_enter Try.func27, Try.ntmps27
      go_wp2
      go_ret
      exact ⟨ret_bool (decide_eq_true R.out).symm, rfl⟩
    · have R := Lib.hid h2
      go_enter Try.func27, Try.ntmps27
      go_wp2
      go_ret
      exact ⟨ret_bool (decide_eq_false (fun h => by have := R.out; omega)).symm, rfl⟩
  · have R := Lib.hid h1
    go_enter Try.func27, Try.ntmps27
    go_wp2
    go_ret
    exact ⟨ret_bool (by have := R.out; simp; omega), rfl⟩
end Go.Proofs.Ytjnhfgacgobfcaa
