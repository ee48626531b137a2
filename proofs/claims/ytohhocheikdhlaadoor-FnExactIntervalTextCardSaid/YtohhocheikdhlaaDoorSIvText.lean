/- Contract of spec.IntervalText. -/
import Derived.Test.YtohhocheikdhlaaDoorFmText
namespace Go.Proofs.YtohhocheikdhlaaDoor
open Go.RowKit Go.Joins
set_option linter.unusedVariables false
set_option maxHeartbeats 1000000 in
theorem sivText_any (a b c d : Int) (w : World) :
    Calls Tryd.prog 20 #[ivV a b c d] w fun e w' => e = .returned (.string ⟨(ivT a b c d).toArray⟩) ∧ Below w.heap.size w w' := by
  obtain ⟨x, hx⟩ : ∃ x : Bool, okI a b c d = x := ⟨_, rfl⟩
  cases x
  · have HX := Lib.hid hx
    have HV : Hid (ivT a b c d = []) := Lib.hid (by unfold ivT; rw [hx]; rfl)
    clear hx
    go_enter Tryd.func20, Tryd.ntmps20
    go_wp2_with fail
    refine (sintervalOk_any _ _ _ _ _).mono ?_
    rintro e1 W0 ⟨rfl, hb⟩
    rw [HX.out]
    go_wp2_with fail
    go_ret
    exact ⟨by rw [HV.out]; rfl, (below_alloc1 w _).trans (hb.mono (by simp))⟩
  · obtain ⟨k1, k2, k3, k4, k5, k6, k7, k8⟩ := okI_bdT hx
    obtain ⟨A, fa, l1⟩ := fm_get a (by omega) (by omega)
    obtain ⟨B, fb, l2⟩ := fm_get b (by omega) (by omega)
    obtain ⟨C, fc, l3⟩ := fm_get c (by omega) (by omega)
    obtain ⟨D, fd, l4⟩ := fm_get d (by omega) (by omega)
    obtain ⟨X1, s1⟩ := cat_run Tryd.prog A [44] 100 100 (by omega) (by decide) (by decide)
    obtain ⟨X2, s2⟩ := cat_run Tryd.prog X1 B 200 100 s1.1 (by omega) (by decide)
    obtain ⟨X3, s3⟩ := cat_run Tryd.prog X2 [44] 300 100 s2.1 (by decide) (by decide)
    obtain ⟨X4, s4⟩ := cat_run Tryd.prog X3 C 400 100 s3.1 (by omega) (by decide)
    obtain ⟨X5, s5⟩ := cat_run Tryd.prog X4 [47] 500 100 s4.1 (by decide) (by decide)
    obtain ⟨X6, s6⟩ := cat_run Tryd.prog X5 D 600 100 s5.1 (by omega) (by decide)
    have r1 := s1.2.2
    have r2 := s2.2.2
    have r3 := s3.2.2
    have r4 := s4.2.2
    have r5 := s5.2.2
    have r6 := s6.2.2
    have HV4 : Hid (d = 1 → X4 = ivT a b c d) := Lib.hid (by intro h; unfold ivT; rw [hx, if_pos rfl, if_pos h, s4.2.1, s3.2.1, s2.2.1, s1.2.1, fa.1, fb.1, fc.1])
    have HV6 : Hid (d ≠ 1 → X6 = ivT a b c d) := Lib.hid (by intro h; unfold ivT; rw [hx, if_pos rfl, if_neg h, s6.2.1, s5.2.1, s4.2.1, s3.2.1, s2.2.1, s1.2.1, fa.1, fb.1, fc.1, fd.1])
    have HX := Lib.hid hx
    clear s1 s2 s3 s4 s5 s6 l1 l2 l3 l4 hx k1 k2 k3 k4 k5 k6 k7 k8
    go_enter Tryd.func20, Tryd.ntmps20
    go_wp2_with fail
    refine (sintervalOk_any _ _ _ _ _).mono ?_
    rintro e1 W0 ⟨rfl, hb⟩
    rw [HX.out]
    have TB : Hid (Four w.heap.size a b c d W0) := Lib.hid (four_keep hb four_alloc)
    have B0 : Hid (Below w.heap.size w W0) := Lib.hid ((below_alloc1 w _).trans (hb.mono (by simp)))
    clear hb
    go_upto_region 3 with fail
    obtain ⟨n, hn⟩ : ∃ n, n = w.heap.size := ⟨_, rfl⟩
    rw [← hn] at TB ⊢
    clear hn
    go_region_held3 (fun w' => w'.cell? ⟨n, 0, none⟩ = some (.int .i64 a) ∧ w'.cell? ⟨n, 1, none⟩ = some (.int .i64 b) ∧ w'.cell? ⟨n, 2, none⟩ = some (.int .i64 c) ∧ w'.cell? ⟨n, 3, none⟩ = some (.int .i64 d)) (with_reducible first | exact four_cells (four_drewT TB.out) | exact four_cells (four_keep (by assumption) TB.out))
      (first
        | (go_at_call 31; refine (calls_fromT (W := W0) (by with_reducible first | assumption | exact (Below.refl _ _).drew) (fm_spec (by with_reducible assumption) _)).mono ?_; rintro e1 w1 ⟨rfl, hb⟩))
    have q3 := (four_cells (four_keep hb TB.out)).2.2.2
    by_cases h1 : d = 1
    · have td : (d != 1) = false := by simpa using h1
      have HE := Lib.hid (HV4.out h1)
      clear h1
      go_wp2_with fail
      go_ret
      exact ⟨ret_strT HE.out, B0.out.trans (hb.mono B0.out.size)⟩
    · have td : (d != 1) = true := by simpa using h1
      have HE := Lib.hid (HV6.out h1)
      clear h1
      go_wp2_with fail
      refine (fm_spec fd _).mono ?_
      rintro e1 w2 ⟨rfl, hb2⟩
      go_wp2_with fail
      go_ret
      exact ⟨ret_strT HE.out, B0.out.trans ((hb.trans (hb2.mono hb.size)).mono B0.out.size)⟩
end Go.Proofs.YtohhocheikdhlaaDoor
