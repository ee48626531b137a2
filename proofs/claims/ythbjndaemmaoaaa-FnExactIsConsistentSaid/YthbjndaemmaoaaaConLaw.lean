/- IsConsistent, both sides, and the walk of laws.FnExactIsConsistent. -/
import Derived.Deep.DeepCutAuto
import Derived.Test.YthbjndaemmaoaaaConImpl
import Derived.Test.YthbjndaemmaoaaaNumBase
namespace Go.Proofs.Ythbjndaemmaoaaa
open Go.RowKit Go.Joins
set_option linter.unusedVariables false
theorem con_spec {a b c : Int} {z : Bool} (h : ConAt a b c z) (w : World) :
    Calls Try.prog 28 #[mapV a b c] w fun e w' => e = .returned (.bool z) ∧ Below w.heap.size w w' := by
  rcases h with ⟨hx, K, _, hk, hz⟩ | ⟨hx, hz⟩
  · have hn := okM_nums hx
    obtain ⟨k, hkk⟩ : ∃ k, c - b = k := ⟨_, rfl⟩
    rw [hkk] at hz
    have HX := Lib.hid hx
    have U := Lib.hid (near_up hk k)
    have D := Lib.hid (near_dn hk k)
    have Zs := odd_sgn (k + 1) (-(2 * a)) (2 * a)
    rw [show 1 - (k + 1) * 2 = -(2 * k + 1) from by omega] at Zs
    have Zt := odd_sgn k (-(2 * a)) (2 * a)
    rw [show 1 - k * 2 = -(2 * k - 1) from by omega] at Zt
    have ZS := Lib.hid Zs
    have ZT := Lib.hid Zt
    have HZ := Lib.hid hz
    clear hx hk Zs Zt hz
    go_enter Try.func28, Try.ntmps28
    go_wp2_with fail
    have F0 := Lib.hid (tri_alloc (w := w) (p := a) (q := b) (r := c) (t := 25))
    have B0 := Lib.hid (below_alloc1 w (.cells #[.int .i64 a, .int .i64 b, .int .i64 c] 25))
    refine (smapOk_any _ _ _ _).mono ?_
    rintro e w1 ⟨rfl, h1⟩
    rw [HX.out]
    have F1 := Lib.hid (tri_keep h1 F0.out)
    have B1 := Lib.hid (B0.out.trans (h1.mono B0.out.size))
    clear h1 F0 B0
    obtain ⟨zm, z0, z1, z2⟩ := F1.out
    go_wp2_with fail
    rw [show (-2 : Int) * a = -(2 * a) from by omega]
    refine (sign04_walk _ (-(2 * k - 1)) (-(2 * a)) (2 * a) (by omega) (by omega) (by omega) (by omega) (by omega) (by omega)).mono ?_
    rintro e w2 ⟨rfl, h2⟩
    have F2 := Lib.hid (tri_keep h2 F1.out)
    have B2 := Lib.hid (B1.out.trans (h2.mono B1.out.size))
    clear h2 F1 B1 zm z0 z1 z2
    obtain ⟨zm, z0, z1, z2⟩ := F2.out
    by_cases hs : 0 < sgnP (-(2 * k - 1)) (-(2 * a)) (2 * a)
    · have d1 := D.out.2 (by omega)
      go_wp2_with fail
      try rw [show (-2 : Int) * a = -(2 * a) from by omega]
      refine (sign04_walk _ (-(2 * k + 1)) (-(2 * a)) (2 * a) (by omega) (by omega) (by omega) (by omega) (by omega) (by omega)).mono ?_
      rintro e w3 ⟨rfl, h3⟩
      have B3 := Lib.hid (B2.out.trans (h3.mono B2.out.size))
      clear h3 F2 B2 zm z0 z1 z2
      by_cases ht : 0 < sgnP (-(2 * k + 1)) (-(2 * a)) (2 * a)
      · have u1 := U.out.1 ht
        have zz : z = false := by rw [HZ.out]; exact decide_eq_false (by omega)
        subst zz
        go_wp2_with fail
        go_ret
        exact ⟨ret_boolT (by simp; try omega), B3.out⟩
      · have u1 := U.out.2 (by omega)
        have z3 := ZS.out
        have hlt : sgnP (-(2 * k + 1)) (-(2 * a)) (2 * a) < 0 := by omega
        have zz : z = true := by rw [HZ.out]; exact decide_eq_true (by omega)
        subst zz
        go_wp2_with fail
        go_ret
        exact ⟨ret_boolT (by simp; try omega), B3.out⟩
    · have z3 := ZT.out
      have d1 := D.out.1 (by omega)
      have zz : z = false := by rw [HZ.out]; exact decide_eq_false (by omega)
      subst zz
      go_wp2_with fail
      go_ret
      exact ⟨rfl, B2.out⟩
  · subst hz
    have HX := Lib.hid hx
    clear hx
    go_enter Try.func28, Try.ntmps28
    go_wp2_with fail
    refine (smapOk_any _ _ _ _).mono ?_
    rintro e w1 ⟨rfl, h1⟩
    rw [HX.out]
    have B1 := Lib.hid ((below_alloc1 w _).trans (h1.mono (by simp)))
    clear h1
    go_wp2_with fail
    go_ret
    exact ⟨rfl, B1.out⟩
set_option maxHeartbeats 1000000 in
theorem walk_FnExactIsConsistent (a b c : Int) (w : World) :
    Calls Try.prog 9 #[mapV a b c] w fun e w' => e = .returned (.bool true) ∧ Below w.heap.size w w' := by
  obtain ⟨z, hst⟩ := conAt_ex a b c
  have HST := Lib.hid hst
  clear hst
  go_enter Try.func9, Try.ntmps9
  go_wp2_with fail
  have F0 := Lib.hid (tri_alloc (w := w) (p := a) (q := b) (r := c) (t := 38))
  have B0 := Lib.hid (below_alloc1 w (.cells #[.int .i64 a, .int .i64 b, .int .i64 c] 38))
  refine (toMap_any _ _ _ _).mono ?_
  rintro e w1 ⟨rfl, h1⟩
  have F1 := Lib.hid (tri_keep h1 F0.out)
  have B1 := Lib.hid (B0.out.trans (h1.mono B0.out.size))
  clear h1 F0 B0
  go_wp2_with fail
  refine (con_spec HST.out _).mono ?_
  rintro e w2 ⟨rfl, h2⟩
  have F2 := Lib.hid (tri_keep h2 F1.out)
  have B2 := Lib.hid (B1.out.trans (h2.mono B1.out.size))
  clear h2 F1 B1
  obtain ⟨zm, z0, z1, z2⟩ := F2.out
  go_wp2_with fail
  refine (toMap_any _ _ _ _).mono ?_
  rintro e w3 ⟨rfl, h3⟩
  have B3 := Lib.hid (B2.out.trans (h3.mono B2.out.size))
  clear h3 F2 B2 zm z0 z1 z2
  go_wp2_with fail
  refine (con_impl HST.out _).mono ?_
  rintro e w4 ⟨rfl, h4⟩
  have B4 := Lib.hid (B3.out.trans (h4.mono B3.out.size))
  clear h4 B3
  have ty : (z != z) = false := by cases z <;> rfl
  go_wp2_with fail
  go_ret
  exact ⟨rfl, B4.out⟩
end Go.Proofs.Ythbjndaemmaoaaa
