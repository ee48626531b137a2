/- Contracts of spec.Hides and impl.Hides, and the walk of laws.FnExactHides. -/
import Derived.Test.YtfhefakacjkmiaaStepsLaw
namespace Go.Proofs.Ytfhefakacjkmiaa
open Go.RowKit Go.Joins
set_option linter.unusedVariables false
/-- What Hides answers. -/
def HidesAt (a b c t h f d : Int) (x : Bool) : Prop := ∃ z y, StepsAt a b c t h f d z y ∧ x = (y && z == 0)
theorem hidesAt_ex (a b c t h f d : Int) : ∃ x, HidesAt a b c t h f d x := by
  obtain ⟨z, y, h⟩ := stepsAt_ex a b c t h f d
  exact ⟨_, z, y, h, rfl⟩
set_option maxHeartbeats 2000000 in
theorem hides_spec {a b c t h f d : Int} {x : Bool} (H : HidesAt a b c t h f d x) (w : World) :
    Calls Try.prog 5 #[mapV a b c, ivV t h f d] w fun e w' => e = .returned (.bool x) ∧ Below w.heap.size w w' := by
  obtain ⟨z, y, hst, hx⟩ := H
  have SS := Lib.hid (fun w => steps_spec hst w)
  have HX := Lib.hid hx
  clear hst hx
  go_enter Try.func5, Try.ntmps5
  go_upto_region 1 with fail
  obtain ⟨W0, hW0⟩ : ∃ W0, W0 = ((w.alloc (.cells #[.int .i64 a, .int .i64 b, .int .i64 c] 27)).alloc (.cells #[.int .i64 t, .int .i64 h, .int .i64 f, .int .i64 d] 29)) := ⟨_, rfl⟩
  have TB : Hid (TF w.heap.size a b c t h f d W0) := Lib.hid (by rw [hW0]; exact tf_start _ _ _ _ _ _ _ _ _ _)
  have B0 : Hid (Below w.heap.size w W0) := Lib.hid (by rw [hW0]; exact below_alloc2 _ _ _)
  rw [← hW0]
  clear hW0
  generalize hn : w.heap.size = n at TB ⊢
  obtain ⟨z0, z1, z2, z3, z4, z5, z6⟩ := TB.out
  go_wp2_with fail
  refine (SS.out _).mono ?_
  rintro e w1 ⟨rfl, h1⟩
  have B1 := Lib.hid (B0.out.trans (h1.mono B0.out.size))
  clear z0 z1 z2 z3 z4 z5 z6 h1 TB B0
  cases y
  · go_wp2_with fail
    go_ret
    exact ⟨by rw [HX.out]; rfl, hn ▸ B1.out⟩
  · by_cases hz : z = 0
    · subst hz
      go_wp2_with fail
      go_ret
      exact ⟨by rw [HX.out]; rfl, hn ▸ B1.out⟩
    · have tz : (z == 0) = false := by simp [hz]
      have TZ := Lib.hid tz
      go_wp2_with fail
      go_ret
      exact ⟨by rw [HX.out, TZ.out]; rfl, hn ▸ B1.out⟩
set_option maxHeartbeats 2000000 in
theorem hides_impl {a b c t h f d : Int} {x : Bool} (H : HidesAt a b c t h f d x) (w : World) :
    Calls Try.prog 8 #[mapV a b c, ivV t h f d] w fun e w' => e = .returned (.bool x) ∧ Below w.heap.size w w' := by
  obtain ⟨z, y, hst, hx⟩ := H
  have SS := Lib.hid (fun w => steps_impl hst w)
  have HX := Lib.hid hx
  clear hst hx
  go_enter Try.func8, Try.ntmps8
  go_upto_region 1 with fail
  obtain ⟨W0, hW0⟩ : ∃ W0, W0 = ((w.alloc (.cells #[.int .i64 a, .int .i64 b, .int .i64 c] 27)).alloc (.cells #[.int .i64 t, .int .i64 h, .int .i64 f, .int .i64 d] 29)) := ⟨_, rfl⟩
  have TB : Hid (TF w.heap.size a b c t h f d W0) := Lib.hid (by rw [hW0]; exact tf_start _ _ _ _ _ _ _ _ _ _)
  have B0 : Hid (Below w.heap.size w W0) := Lib.hid (by rw [hW0]; exact below_alloc2 _ _ _)
  rw [← hW0]
  clear hW0
  generalize hn : w.heap.size = n at TB ⊢
  obtain ⟨z0, z1, z2, z3, z4, z5, z6⟩ := TB.out
  go_wp2_with fail
  refine (SS.out _).mono ?_
  rintro e w1 ⟨rfl, h1⟩
  have B1 := Lib.hid (B0.out.trans (h1.mono B0.out.size))
  clear z0 z1 z2 z3 z4 z5 z6 h1 TB B0
  cases y
  · go_wp2_with fail
    go_ret
    exact ⟨by rw [HX.out]; rfl, hn ▸ B1.out⟩
  · by_cases hz : z = 0
    · subst hz
      go_wp2_with fail
      go_ret
      exact ⟨by rw [HX.out]; rfl, hn ▸ B1.out⟩
    · have tz : (z == 0) = false := by simp [hz]
      have TZ := Lib.hid tz
      go_wp2_with fail
      go_ret
      exact ⟨by rw [HX.out, TZ.out]; rfl, hn ▸ B1.out⟩
set_option maxHeartbeats 4000000 in
theorem walk_FnExactHides (a b c t h f d : Int) (w : World) :
    Calls Try.prog 3 #[mapV a b c, ivV t h f d] w fun e w' => e = .returned (.bool true) ∧ Below w.heap.size w w' := by
  obtain ⟨y, hst⟩ := hidesAt_ex a b c t h f d
  have SS := Lib.hid (fun w => hides_spec hst w)
  have SI := Lib.hid (fun w => hides_impl hst w)
  clear hst
  go_enter Try.func3, Try.ntmps3
  go_upto_region 1 with fail
  obtain ⟨W0, hW0⟩ : ∃ W0, W0 = ((w.alloc (.cells #[.int .i64 a, .int .i64 b, .int .i64 c] 23)).alloc (.cells #[.int .i64 t, .int .i64 h, .int .i64 f, .int .i64 d] 25)) := ⟨_, rfl⟩
  have TB : Hid (TF w.heap.size a b c t h f d W0) := Lib.hid (by rw [hW0]; exact tf_start _ _ _ _ _ _ _ _ _ _)
  have HN : Hid (w.heap.size + 1 < W0.heap.size) := Lib.hid (by rw [hW0]; simp)
  have B0 : Hid (Below w.heap.size w W0) := Lib.hid (by rw [hW0]; exact below_alloc2 _ _ _)
  rw [← hW0]
  clear hW0
  generalize hn : w.heap.size = n at TB HN ⊢
  go_cut [5] (fun s5 wx => s5 = .bool y ∧ Below W0.heap.size W0 wx)
  case first =>
    obtain ⟨z0, z1, z2, z3, z4, z5, z6⟩ := TB.out
    go_region_held3 (fun w' => w'.cell? ⟨n, 0, none⟩ = some (.int .i64 a) ∧ w'.cell? ⟨n, 1, none⟩ = some (.int .i64 b) ∧ w'.cell? ⟨n, 2, none⟩ = some (.int .i64 c) ∧ w'.cell? ⟨n + 1, 0, none⟩ = some (.int .i64 t) ∧ w'.cell? ⟨n + 1, 1, none⟩ = some (.int .i64 h) ∧ w'.cell? ⟨n + 1, 2, none⟩ = some (.int .i64 f) ∧ w'.cell? ⟨n + 1, 3, none⟩ = some (.int .i64 d)) (with_reducible first | exact tf_drew TB.out | exact tf_keep HN.out (by assumption) TB.out)
      (first
        | (go_at_call 6; refine (calls_fromF (W := W0) (by with_reducible first | assumption | exact (Below.refl _ _).drew) (toMap_any _ _ _ _)).mono ?_; rintro e1 w1 ⟨rfl, hb⟩)
        | (go_at_call 7; refine (calls_fromF (W := W0) (by with_reducible first | assumption | exact (Below.refl _ _).drew) (toInterval_any _ _ _ _ _)).mono ?_; rintro e1 w1 ⟨rfl, hb⟩)
        | (go_at_call 5; refine (calls_fromF (W := W0) (by with_reducible first | assumption | exact (Below.refl _ _).drew) (SS.out _)).mono ?_; rintro e1 w1 ⟨rfl, hb⟩))
    all_goals
      go_wp2_with fail
      go_meet
      exact ⟨rfl, hb⟩
  case rest =>
    obtain ⟨rfl, hb1⟩ := hcut
    obtain ⟨W1, hW1⟩ : ∃ W1, W1 = wc := ⟨_, rfl⟩
    rw [← hW1] at hb1 ⊢
    clear hW1
    have T1 := Lib.hid (tf_keep HN.out hb1 TB.out)
    have N1 := Lib.hid (tf_lt HN.out hb1)
    have B1 : Hid (Below w.heap.size w W1) := Lib.hid (B0.out.trans (hb1.mono B0.out.size))
    clear TB HN B0 hb1
    go_upto_region 2 with fail
    go_cut [6] (fun s5 wx => s5 = .bool y ∧ Below W1.heap.size W1 wx)
    case first =>
      obtain ⟨z0, z1, z2, z3, z4, z5, z6⟩ := T1.out
      go_region_held3 (fun w' => w'.cell? ⟨n, 0, none⟩ = some (.int .i64 a) ∧ w'.cell? ⟨n, 1, none⟩ = some (.int .i64 b) ∧ w'.cell? ⟨n, 2, none⟩ = some (.int .i64 c) ∧ w'.cell? ⟨n + 1, 0, none⟩ = some (.int .i64 t) ∧ w'.cell? ⟨n + 1, 1, none⟩ = some (.int .i64 h) ∧ w'.cell? ⟨n + 1, 2, none⟩ = some (.int .i64 f) ∧ w'.cell? ⟨n + 1, 3, none⟩ = some (.int .i64 d)) (with_reducible first | exact tf_drew T1.out | exact tf_keep N1.out (by assumption) T1.out)
        (first
          | (go_at_call 6; refine (calls_fromF (W := W1) (by with_reducible first | assumption | exact (Below.refl _ _).drew) (toMap_any _ _ _ _)).mono ?_; rintro e1 w1 ⟨rfl, hb⟩)
          | (go_at_call 7; refine (calls_fromF (W := W1) (by with_reducible first | assumption | exact (Below.refl _ _).drew) (toInterval_any _ _ _ _ _)).mono ?_; rintro e1 w1 ⟨rfl, hb⟩)
          | (go_at_call 8; refine (calls_fromF (W := W1) (by with_reducible first | assumption | exact (Below.refl _ _).drew) (SI.out _)).mono ?_; rintro e1 w1 ⟨rfl, hb⟩))
      all_goals
        go_wp2_with fail
        go_meet
        exact ⟨rfl, hb⟩
    case rest =>
      obtain ⟨rfl, hb2⟩ := hcut
      have B2 : Hid (Below w.heap.size w wc) := Lib.hid (B1.out.trans (hb2.mono B1.out.size))
      clear hb2 T1 N1 B1
      have ty : (y != y) = false := by cases y <;> rfl
      go_wp2_with fail
      go_ret
      exact ⟨rfl, hn ▸ B2.out⟩
end Go.Proofs.Ytfhefakacjkmiaa
