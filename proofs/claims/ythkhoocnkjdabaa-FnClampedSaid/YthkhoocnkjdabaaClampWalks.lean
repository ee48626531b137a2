/- Contracts of the Go functions impl.Clamp and spec.Clamp, and the walk of laws.FnExactClamp over them. -/
import Derived.Test.YthkhoocnkjdabaaProg
import Derived.Test.YthkhoocnkjdabaaBase
import Derived.WalkKit
import Derived.Below
namespace Go.Proofs.Ythkhoocnkjdabaa
open Go.RowKit
set_option linter.unusedVariables false
def clampI (n lo hi : Int) : Int := if hi < lo ∨ n < lo then lo else if hi < n then hi else n
theorem clamp_impl (n lo hi : Int) (w : World) : Calls Try.prog 11 #[.int .i64 n, .int .i64 lo, .int .i64 hi] w fun e w' => e = .returned (.int .i64 (clampI n lo hi)) ∧ w = w' := by
  by_cases h1 : n < lo
  · go_enter Try.func11, Try.ntmps11
    go_wp2
    go_ret
    exact ⟨ret_int (by unfold clampI; (repeat' split) <;> omega), rfl⟩
  · by_cases h2 : hi < lo
    · go_enter Try.func11, Try.ntmps11
      go_wp2
      go_ret
      exact ⟨ret_int (by unfold clampI; (repeat' split) <;> omega), rfl⟩
    · by_cases h3 : hi < n
      · go_enter Try.func11, Try.ntmps11
        go_wp2
        go_ret
        exact ⟨ret_int (by unfold clampI; (repeat' split) <;> omega), rfl⟩
      · go_enter Try.func11, Try.ntmps11
        go_wp2
        go_ret
        exact ⟨ret_int (by unfold clampI; (repeat' split) <;> omega), rfl⟩
theorem clamp_spec (n lo hi : Int) (w : World) : Calls Try.prog 23 #[.int .i64 n, .int .i64 lo, .int .i64 hi] w fun e w' => e = .returned (.int .i64 (clampI n lo hi)) ∧ w = w' := by
  by_cases h2 : hi < lo
  · go_enter Try.func23, Try.ntmps23
    go_wp2
    go_ret
    exact ⟨ret_int (by unfold clampI; (repeat' split) <;> omega), rfl⟩
  · by_cases h1 : n < lo
    · go_enter Try.func23, Try.ntmps23
      go_wp2
      go_ret
      exact ⟨ret_int (by unfold clampI; (repeat' split) <;> omega), rfl⟩
    · by_cases h3 : hi < n
      · go_enter Try.func23, Try.ntmps23
        go_wp2
        go_ret
        exact ⟨ret_int (by unfold clampI; (repeat' split) <;> omega), rfl⟩
      · go_enter Try.func23, Try.ntmps23
        go_wp2
        go_ret
        exact ⟨ret_int (by unfold clampI; (repeat' split) <;> omega), rfl⟩
theorem walk_FnExactClamp (a0 : Int) (w0 : (Lit.int .i64 a0).wf = true) (a1 : Int) (w1 : (Lit.int .i64 a1).wf = true) (a2 : Int) (w2 : (Lit.int .i64 a2).wf = true) (w : World) :
    Calls Try.prog 8 #[.int .i64 a0, .int .i64 a1, .int .i64 a2] w fun e w' => e = .returned (.bool true) ∧ Below w.heap.size w w' := by
  clear w0 w1 w2
  go_enter Try.func8, Try.ntmps8
  go_wp2_with fail
  refine (clamp_spec _ _ _ _).mono ?_
  rintro e w' ⟨rfl, rfl⟩
  go_wp2_with fail
  refine (clamp_impl _ _ _ _).mono ?_
  rintro e w' ⟨rfl, rfl⟩
  go_wp2_with fail
  go_ret
  exact ⟨rfl, Below.refl _ _⟩
end Go.Proofs.Ythkhoocnkjdabaa
