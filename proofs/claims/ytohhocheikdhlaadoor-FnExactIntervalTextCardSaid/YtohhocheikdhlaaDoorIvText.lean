/- Contract of impl.IntervalText, and the walk of laws.FnExactIntervalText. -/
import Derived.Test.YtohhocheikdhlaaDoorSIvText
import Derived.Test.YtohhocheikdhlaaDoorItoaWalks
namespace Go.Proofs.YtohhocheikdhlaaDoor
open Go.RowKit Go.Joins
set_option linter.unusedVariables false
theorem fm_impl {n : Int} {L : List UInt8} (h : Fm n L) {w : World} (ht : ItoaTab w) : Calls Tryd.prog 15 #[.int .i64 n] w fun e w' => e = .returned (.string ⟨L.toArray⟩) ∧ Below w.heap.size w w' := by
  obtain ⟨rfl, h0, h1⟩ := h
  exact format_any n h0 h1 w ht
theorem tab_fromT {W w : World} (h : ItoaTab W) (hb : Below W.heap.size W w) : ItoaTab w := h.below hb h.lt
set_option maxHeartbeats 1000000 in
theorem ivText_any (a b c d : Int) (w : World) (ht : ItoaTab w) :
    Calls Tryd.prog 22 #[ivV a b c d] w fun e w' => e = .returned (.string ⟨(ivT a b c d).toArray⟩) ∧ Below w.heap.size w w' := by
  obtain ⟨x, hx⟩ : ∃ x : Bool, okI a b c d = x := ⟨_, rfl⟩
  cases x
  · have HX := Lib.hid hx
    have HV : Hid (ivT a b c d = []) := Lib.hid (by unfold ivT; rw [hx]; rfl)
    clear hx
    go_enter Tryd.func22, Tryd.ntmps22
    go_wp2_with fail
    refine (intervalOk_any _ _ _ _ _).mono ?_
    rintro e1 W0 ⟨rfl, hb⟩
    rw [HX.out]
    go_wp2_with fail
    go_ret
    exact ⟨by rw [HV.out]; rfl, (below_alloc1 w _).trans (hb.mono (by simp))⟩
  · obtain ⟨k1, k2, k3, k4, k5, k6, k7, k8⟩ := okI_bdT hx
    obtain ⟨A, fa, l1⟩ := fm_get a (by omega) (by omega)
    obtain ⟨B, fb, l2⟩ := fm_get b (by omega) (by omega)
    obtain ⟨C, fc, l3⟩ := fm_get c (by omega) (by omega)
    obtain ⟨D, fd, l4⟩ := fm_get d (by omega) (by omega)
    obtain ⟨X1, s1⟩ := cat_run Tryd.prog A [44] 100 100 (by omega) (by decide) (by decide)
    obtain ⟨X2, s2⟩ := cat_run Tryd.prog X1 B 200 100 s1.1 (by omega) (by decide)
    obtain ⟨X3, s3⟩ := cat_run Tryd.prog X2 [44] 300 100 s2.1 (by decide) (by decide)
    obtain ⟨X4, s4⟩ := cat_run Tryd.prog X3 C 400 100 s3.1 (by omega) (by decide)
    obtain ⟨X5, s5⟩ := cat_run Tryd.prog [47] D 100 100 (by decide) (by omega) (by decide)
    obtain ⟨X6, s6⟩ := cat_run Tryd.prog X4 X5 500 200 s4.1 s5.1 (by decide)
    have r1 := s1.2.2
    have r2 := s2.2.2
    have r3 := s3.2.2
    have r4 := s4.2.2
    have r5 := s5.2.2
    have r6 := s6.2.2
    have HV4 : Hid (d = 1 → X4 = ivT a b c d) := Lib.hid (by intro h; unfold ivT; rw [hx, if_pos rfl, if_pos h, s4.2.1, s3.2.1, s2.2.1, s1.2.1, fa.1, fb.1, fc.1])
    have HV6 : Hid (d ≠ 1 → X6 = ivT a b c d) := Lib.hid (by intro h; unfold ivT; rw [hx, if_pos rfl, if_neg h, s6.2.1, s5.2.1, s4.2.1, s3.2.1, s2.2.1, s1.2.1, fa.1, fb.1, fc.1, fd.1]; simp only [List.append_assoc])
    have HX := Lib.hid hx
    clear s1 s2 s3 s4 s5 s6 l1 l2 l3 l4 hx k1 k2 k3 k4 k5 k6 k7 k8
    go_enter Tryd.func22, Tryd.ntmps22
    go_wp2_with fail
    refine (intervalOk_any _ _ _ _ _).mono ?_
    rintro e1 W0 ⟨rfl, hb⟩
    rw [HX.out]
    have TB : Hid (Four w.heap.size a b c d W0) := Lib.hid (four_keep hb four_alloc)
    have B0 : Hid (Below w.heap.size w W0) := Lib.hid ((below_alloc1 w _).trans (hb.mono (by simp)))
    have HT : Hid (ItoaTab W0) := Lib.hid (ht.below B0.out ht.lt)
    clear ht
    clear hb
    go_upto_region 3 with fail
    obtain ⟨n, hn⟩ : ∃ n, n = w.heap.size := ⟨_, rfl⟩
    rw [← hn] at TB ⊢
    clear hn
    go_region_held3 (fun w' => w'.cell? ⟨n, 0, none⟩ = some (.int .i64 a) ∧ w'.cell? ⟨n, 1, none⟩ = some (.int .i64 b) ∧ w'.cell? ⟨n, 2, none⟩ = some (.int .i64 c) ∧ w'.cell? ⟨n, 3, none⟩ = some (.int .i64 d)) (with_reducible first | exact four_cells (four_drewT TB.out) | exact four_cells (four_keep (by assumption) TB.out))
      (first
        | (go_at_call 15; refine (calls_fromT (W := W0) (by with_reducible first | assumption | exact (Below.refl _ _).drew) (fm_impl (by with_reducible assumption) (tab_fromT HT.out (by with_reducible first | assumption | exact (Below.refl _ _).drew)))).mono ?_; rintro e1 w1 ⟨rfl, hb⟩))
    have q3 := (four_cells (four_keep hb TB.out)).2.2.2
    by_cases h1 : d = 1
    · have td : (d != 1) = false := by simpa using h1
      have HE := Lib.hid (HV4.out h1)
      clear h1
      go_wp2_with fail
      go_ret
      exact ⟨ret_strT HE.out, B0.out.trans (hb.mono B0.out.size)⟩
    · have td : (d != 1) = true := by simpa using h1
      have HE := Lib.hid (HV6.out h1)
      clear h1
      go_wp2_with fail
      refine (fm_impl fd (tab_fromT HT.out hb)).mono ?_
      rintro e1 w2 ⟨rfl, hb2⟩
      go_wp2_with fail
      go_ret
      exact ⟨ret_strT HE.out, B0.out.trans ((hb.trans (hb2.mono hb.size)).mono B0.out.size)⟩
set_option maxHeartbeats 1000000 in
theorem walk_FnExactIntervalText (a b c d : Int) (w : World) (ht : ItoaTab w) :
    Calls Tryd.prog 5 #[ivV a b c d] w fun e w' => e = .returned (.bool true) ∧ Below w.heap.size w w' := by
  have HT := Lib.hid ht
  clear ht
  obtain ⟨T, hT⟩ : ∃ T, T = ivT a b c d := ⟨_, rfl⟩
  have cs : ∀ w, _ := sivText_any a b c d
  have ci : ∀ w, _ := ivText_any a b c d
  rw [← hT] at cs ci
  have CS := Lib.hid cs
  have CI := Lib.hid ci
  clear cs ci hT
  go_enter Tryd.func5, Tryd.ntmps5
  go_wp2_with fail
  refine (toInterval_any _ _ _ _ _).mono ?_
  rintro e w1 ⟨rfl, h1⟩
  go_wp2_with fail
  refine (CS.out _).mono ?_
  rintro e w2 ⟨rfl, h2⟩
  have TB := four_keep (h1.trans (h2.mono h1.size)) (four_alloc (w := w) (p := a) (q := b) (r := c) (s := d))
  have B2 : Hid (Below w.heap.size w w2) := Lib.hid ((below_alloc1 w _).trans ((h1.trans (h2.mono h1.size)).mono (by simp)))
  clear h1 h2
  obtain ⟨q4, q0, q1, q2, q3⟩ := TB
  go_wp2_with fail
  refine (toInterval_any _ _ _ _ _).mono ?_
  rintro e w3 ⟨rfl, h3⟩
  have B3 : Hid (Below w.heap.size w w3) := Lib.hid (B2.out.trans (h3.mono B2.out.size))
  clear h3
  go_wp2_with fail
  refine (CI.out _ (HT.out.below B3.out HT.out.lt)).mono ?_
  rintro e w4 ⟨rfl, h4⟩
  go_wp2_with fail
  go_ret
  exact ⟨rfl, B3.out.trans (h4.mono B3.out.size)⟩
end Go.Proofs.YtohhocheikdhlaaDoor
