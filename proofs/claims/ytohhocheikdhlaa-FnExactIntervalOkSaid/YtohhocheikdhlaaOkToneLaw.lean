/- The walk of laws.FnExactIntervalOk. -/
import Derived.Test.YtohhocheikdhlaaToneOk
namespace Go.Proofs.Ytohhocheikdhlaa
open Go.RowKit Go.Joins
set_option linter.unusedVariables false
set_option maxHeartbeats 400000 in
theorem walk_FnExactIntervalOk (a b c d : Int) (w : World) :
    Calls Try.prog 4 #[ivV a b c d] w fun e w' => e = .returned (.bool true) ∧ Below w.heap.size w w' := by
  go_enter Try.func4, Try.ntmps4
  go_wp2_with fail
  refine (toInterval_any _ _ _ _ _).mono ?_
  rintro e w1 ⟨rfl, h1⟩
  go_wp2_with fail
  refine (sintervalOk_any _ _ _ _ _).mono ?_
  rintro e w2 ⟨rfl, h2⟩
  have k2 : Below (w.heap.size + 1) (w.alloc (.cells #[.int .i64 a, .int .i64 b, .int .i64 c, .int .i64 d] 32)) w2 := (h1.mono (by simp)).trans (h2.mono (by have := h1.size; simp at this; omega))
  obtain ⟨hc, hf⟩ := bcellT (W := w.alloc (.cells #[.int .i64 a, .int .i64 b, .int .i64 c, .int .i64 d] 32)) (k2.mono (by simp))
  have K2 := Lib.hid k2
  clear h1 h2 k2
  go_wp2_with fail
  refine (toInterval_any _ _ _ _ _).mono ?_
  rintro e w3 ⟨rfl, h3⟩
  go_wp2_with fail
  refine (intervalOk_any _ _ _ _ _).mono ?_
  rintro e w4 ⟨rfl, h4⟩
  have hs := K2.out.size
  simp at hs
  have k4 : Below w.heap.size w w4 := (below_alloc1 w _).trans ((K2.out.mono (by omega)).trans ((h3.mono (by omega)).trans (h4.mono (by have := h3.size; omega))))
  clear hs
  go_wp2_with fail
  go_ret
  exact ⟨rfl, k4⟩
end Go.Proofs.Ytohhocheikdhlaa
