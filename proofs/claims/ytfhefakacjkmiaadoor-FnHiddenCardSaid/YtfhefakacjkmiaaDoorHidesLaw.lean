/- Contracts of spec.Hides and impl.Hides, and the walk of laws.FnExactHides. -/
import Derived.Test.YtfhefakacjkmiaaDoorStepsLaw
namespace Go.Proofs.YtfhefakacjkmiaaDoor
open Go.RowKit Go.Joins
set_option linter.unusedVariables false
/-- What Hides answers. -/
def HidesAt (a b c t h f d : Int) (x : Bool) : Prop := ∃ z y, StepsAt a b c t h f d z y ∧ x = (y && z == 0)
theorem hidesAt_ex (a b c t h f d : Int) : ∃ x, HidesAt a b c t h f d x := by
  obtain ⟨z, y, h⟩ := stepsAt_ex a b c t h f d
  exact ⟨_, z, y, h, rfl⟩
set_option maxHeartbeats 2000000 in
theorem hides_spec {a b c t h f d : Int} {x : Bool} (H : HidesAt a b c t h f d x) (w : World) :
    Calls Tryd.prog 51 #[mapV a b c, ivV t h f d] w fun e w' => e = .returned (.bool x) ∧ Below w.heap.size w w' := by
  obtain ⟨z, y, hst, hx⟩ := H
  have SS := Lib.hid (fun w => steps_spec hst w)
  have HX := Lib.hid hx
  clear hst hx
  go_enter Tryd.func51, Tryd.ntmps51
  go_upto_region 1 with fail
  obtain ⟨W0, hW0⟩ : ∃ W0, W0 = ((w.alloc (.cells #[.int .i64 a, .int .i64 b, .int .i64 c] 25)).alloc (.cells #[.int .i64 t, .int .i64 h, .int .i64 f, .int .i64 d] 29)) := ⟨_, rfl⟩
  have TB : Hid (TF w.heap.size a b c t h f d W0) := Lib.hid (by rw [hW0]; exact tf_start _ _ _ _ _ _ _ _ _ _)
  have B0 : Hid (Below w.heap.size w W0) := Lib.hid (by rw [hW0]; exact below_alloc2 _ _ _)
  rw [← hW0]
  clear hW0
  generalize hn : w.heap.size = n at TB ⊢
  obtain ⟨z0, z1, z2, z3, z4, z5, z6⟩ := TB.out
  go_wp2_with fail
  refine (SS.out _).mono ?_
  rintro e w1 ⟨rfl, h1⟩
  have B1 := Lib.hid (B0.out.trans (h1.mono B0.out.size))
  clear z0 z1 z2 z3 z4 z5 z6 h1 TB B0
  cases y
  · go_wp2_with fail
    go_ret
    exact ⟨by rw [HX.out]; rfl, hn ▸ B1.out⟩
  · by_cases hz : z = 0
    · subst hz
      go_wp2_with fail
      go_ret
      exact ⟨by rw [HX.out]; rfl, hn ▸ B1.out⟩
    · have tz : (z == 0) = false := by simp [hz]
      have TZ := Lib.hid tz
      go_wp2_with fail
      go_ret
      exact ⟨by rw [HX.out, TZ.out]; rfl, hn ▸ B1.out⟩
set_option maxHeartbeats 2000000 in
theorem hides_impl {a b c t h f d : Int} {x : Bool} (H : HidesAt a b c t h f d x) (w : World) :
    Calls Tryd.prog 13 #[mapV a b c, ivV t h f d] w fun e w' => e = .returned (.bool x) ∧ Below w.heap.size w w' := by
  obtain ⟨z, y, hst, hx⟩ := H
  have SS := Lib.hid (fun w => steps_impl hst w)
  have HX := Lib.hid hx
  clear hst hx
  go_enter Tryd.func13, Tryd.ntmps13
  go_upto_region 1 with fail
  obtain ⟨W0, hW0⟩ : ∃ W0, W0 = ((w.alloc (.cells #[.int .i64 a, .int .i64 b, .int .i64 c] 25)).alloc (.cells #[.int .i64 t, .int .i64 h, .int .i64 f, .int .i64 d] 29)) := ⟨_, rfl⟩
  have TB : Hid (TF w.heap.size a b c t h f d W0) := Lib.hid (by rw [hW0]; exact tf_start _ _ _ _ _ _ _ _ _ _)
  have B0 : Hid (Below w.heap.size w W0) := Lib.hid (by rw [hW0]; exact below_alloc2 _ _ _)
  rw [← hW0]
  clear hW0
  generalize hn : w.heap.size = n at TB ⊢
  obtain ⟨z0, z1, z2, z3, z4, z5, z6⟩ := TB.out
  go_wp2_with fail
  refine (SS.out _).mono ?_
  rintro e w1 ⟨rfl, h1⟩
  have B1 := Lib.hid (B0.out.trans (h1.mono B0.out.size))
  clear z0 z1 z2 z3 z4 z5 z6 h1 TB B0
  cases y
  · go_wp2_with fail
    go_ret
    exact ⟨by rw [HX.out]; rfl, hn ▸ B1.out⟩
  · by_cases hz : z = 0
    · subst hz
      go_wp2_with fail
      go_ret
      exact ⟨by rw [HX.out]; rfl, hn ▸ B1.out⟩
    · have tz : (z == 0) = false := by simp [hz]
      have TZ := Lib.hid tz
      go_wp2_with fail
      go_ret
      exact ⟨by rw [HX.out, TZ.out]; rfl, hn ▸ B1.out⟩
end Go.Proofs.YtfhefakacjkmiaaDoor
