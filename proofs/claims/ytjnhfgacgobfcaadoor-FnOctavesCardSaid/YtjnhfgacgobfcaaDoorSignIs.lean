/- Contract of impl.SignOf. -/
import Derived.Test.YtjnhfgacgobfcaaDoorCompareTone
namespace Go.Proofs.YtjnhfgacgobfcaaDoor
open Go.RowKit Go.Joins
set_option linter.unusedVariables false
set_option maxRecDepth 100000 in
set_option maxHeartbeats 1000000 in
theorem sign_impl (A : Addr) (a b c d : Int) (w : World) (hs : SenAt A w) :
    Calls Tryd.prog 12 #[ivV a b c d] w fun en w' => en = .returned (.int .i64 (cmp8 a b c d 0 0 0 1)) ∧ Below w.heap.size w w' := by
  have HS := Lib.hid hs
  clear hs
  go_enter Tryd.func12, Tryd.ntmps12
  go_wp2_with fail
  refine (compare_impl A _ _ _ _ _ _ _ _ _ (senAt_below HS.out (below_alloc1 w _))).mono ?_
  rintro en w1 ⟨rfl, hb⟩
  have KB := Lib.hid ((below_alloc1 w _).trans (hb.mono (by simp)))
  clear hb
  go_wp2_with fail
  go_ret
  exact ⟨rfl, KB.out⟩
/-- The sign of an interval is its comparison with the prime. -/
theorem cmpV_prime {x : Iv} (h : okV x = true) : cmpV x ⟨0, 0, 0, 1⟩ = sgnV x := by
  unfold cmpV
  rw [if_pos ⟨h, by decide⟩]
  unfold difV sgnV
  simp only [Int.mul_one, Int.zero_mul, Int.sub_zero]
end Go.Proofs.YtjnhfgacgobfcaaDoor
