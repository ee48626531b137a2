/- Contract of impl.pureThird. -/
import Derived.Test.YtnlfmiheapcodaaDoorComWalks
import Derived.Test.YtnlfmiheapcodaaDoorOctWalks
namespace Go.Proofs.YtnlfmiheapcodaaDoor
open Go.RowKit Go.Joins
set_option linter.unusedVariables false
set_option maxHeartbeats 1000000 in
theorem pureThird_impl (w : World) : Calls Tryd.prog 36 #[] w fun e w' => e = .returned (ivV (-2) 0 1 1) ∧ Below w.heap.size w w' := by
  go_enter Tryd.func36, Tryd.ntmps36
  go_wp2_with fail
  refine (calls_zero (m := w.heap.size) zero4_alloc (Below.refl _ _) (pure_impl_yes (-2) 0 1 _ (by decide))).mono ?_
  rintro e w1 ⟨rfl, hb, ⟨zm, z0, z1, z2, z3⟩, zf⟩
  have B1 := Lib.hid ((below_alloc1 w _).trans (hb.mono (by simp)))
  clear hb
  go_wp2_with fail
  obtain ⟨X, hX, ⟨gm, g0, g1, g2, g3⟩, gb⟩ := zed4_store (w := w) (p := -2) (q := 0) (r := 1) (s := 1) (Nat.le_refl _) B1.out ⟨zm, z0, z1, z2, z3⟩
  rw [← hX]
  have GB := Lib.hid gb
  clear hX gb z0 z1 z2 z3 zm zf B1
  refine bodyPost_ret (v := ivV (-2) 0 1 1) (by simp [results, Tryd.results36, go_sem, g0, g1, g2, g3]) rfl ⟨rfl, GB.out⟩
end Go.Proofs.YtnlfmiheapcodaaDoor
