/- The walk of laws.FnExactMapOk. -/
import Derived.Test.YthbjndaemmaoaaaMapImpl
namespace Go.Proofs.Ythbjndaemmaoaaa
open Go.RowKit Go.Joins
set_option linter.unusedVariables false
theorem walk_FnExactMapOk (a b c : Int) (w : World) :
    Calls Try.prog 4 #[mapV a b c] w fun e w' => e = .returned (.bool true) ∧ Below w.heap.size w w' := by
  go_enter Try.func4, Try.ntmps4
  go_wp2_with fail
  have F0 := Lib.hid (tri_alloc (w := w) (p := a) (q := b) (r := c) (t := 38))
  refine (toMap_any _ _ _ _).mono ?_
  rintro e w1 ⟨rfl, h1⟩
  have F1 := Lib.hid (tri_keep h1 F0.out)
  have B1 := Lib.hid ((below_alloc1 w _).trans (h1.mono (by simp)))
  clear h1 F0
  go_wp2_with fail
  refine (smapOk_any _ _ _ _).mono ?_
  rintro e w2 ⟨rfl, h2⟩
  have F2 := Lib.hid (tri_keep h2 F1.out)
  have B2 := Lib.hid (B1.out.trans (h2.mono B1.out.size))
  clear h2 F1 B1
  obtain ⟨z0, z1, z2, z3⟩ := F2.out
  go_wp2_with fail
  refine (toMap_any _ _ _ _).mono ?_
  rintro e w3 ⟨rfl, h3⟩
  have B3 := Lib.hid (B2.out.trans (h3.mono B2.out.size))
  clear h3 F2 B2 z0 z1 z2 z3
  go_wp2_with fail
  refine (mapOk_impl _ _ _ _).mono ?_
  rintro e w4 ⟨rfl, h4⟩
  have B4 := Lib.hid (B3.out.trans (h4.mono B3.out.size))
  clear h4 B3
  go_wp2_with fail
  go_ret
  exact ⟨rfl, B4.out⟩
end Go.Proofs.Ythbjndaemmaoaaa
