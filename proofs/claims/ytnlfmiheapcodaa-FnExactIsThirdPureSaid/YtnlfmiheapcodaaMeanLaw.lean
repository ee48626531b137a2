/- The walks of the exact laws of chapter 11. -/
import Derived.Test.YtnlfmiheapcodaaSMeanTone
namespace Go.Proofs.Ytnlfmiheapcodaa
open Go.RowKit Go.Joins
set_option linter.unusedVariables false
set_option maxHeartbeats 1000000 in
theorem walk_FnExactIsThirdPure (num : Int) (wnum : (Lit.int .i64 num).wf = true) (den : Int) (wden : (Lit.int .i64 den).wf = true) (w : World) :
    Calls Try.prog 8 #[.int .i64 num, .int .i64 den] w fun e w' => e = .returned (.bool true) ∧ Below w.heap.size w w' := by
  obtain ⟨y, h⟩ := tpAt_ex num den
  have HS := Lib.hid (fun w => third_spec h w)
  have HI := Lib.hid (fun w => third_impl h w)
  clear h wnum wden
  go_enter Try.func8, Try.ntmps8
  go_wp2_with fail
  refine (HS.out _).mono ?_
  rintro e w1 ⟨rfl, hb⟩
  have B1 := Lib.hid hb
  clear hb HS
  go_wp2_with fail
  refine (HI.out _).mono ?_
  rintro e w2 ⟨rfl, hb⟩
  have B2 := Lib.hid (B1.out.trans (hb.mono B1.out.size))
  clear hb HI B1
  have ty : (y != y) = false := by cases y <;> rfl
  go_wp2_with fail
  go_ret
  exact ⟨rfl, B2.out⟩
end Go.Proofs.Ytnlfmiheapcodaa
