/- Contract of spec.CompareIntervals. -/
import Derived.Test.YtfhefakacjkmiaaDoorSSign04
import Derived.Test.YtfhefakacjkmiaaDoorCompareTone
namespace Go.Proofs.YtfhefakacjkmiaaDoor
open Go.RowKit Go.Joins
set_option linter.unusedVariables false
set_option maxRecDepth 100000 in
set_option maxHeartbeats 2000000 in
theorem scompareTone (a b c d e f g h : Int) (w : World) :
    Calls Tryd.prog 84 #[ivV a b c d, ivV e f g h] w fun en w' => en = .returned (.int .i64 (cmp8 a b c d e f g h)) ∧ Below w.heap.size w w' := by
  by_cases hx : okI a b c d = true
  · by_cases hy : okI e f g h = true
    · obtain ⟨k1, k2, k3, k4, k5, k6, k7, k8⟩ := okI_bd hx
      obtain ⟨l1, l2, l3, l4, l5, l6, l7, l8⟩ := okI_bd hy
      obtain ⟨t0, ht0⟩ : ∃ t, a * h = t := ⟨_, rfl⟩
      obtain ⟨t1, ht1⟩ : ∃ t, b * h = t := ⟨_, rfl⟩
      obtain ⟨t2, ht2⟩ : ∃ t, c * h = t := ⟨_, rfl⟩
      obtain ⟨u0, hu0⟩ : ∃ t, e * d = t := ⟨_, rfl⟩
      obtain ⟨u1, hu1⟩ : ∃ t, f * d = t := ⟨_, rfl⟩
      obtain ⟨u2, hu2⟩ : ∃ t, g * d = t := ⟨_, rfl⟩
      obtain ⟨t01, t02⟩ := mul_bd a h 400 12 t0 ht0 (by omega) (by omega) (by omega) (by omega) (by omega) (by omega)
      obtain ⟨t11, t12⟩ := mul_bd b h 400 12 t1 ht1 (by omega) (by omega) (by omega) (by omega) (by omega) (by omega)
      obtain ⟨t21, t22⟩ := mul_bd c h 400 12 t2 ht2 (by omega) (by omega) (by omega) (by omega) (by omega) (by omega)
      obtain ⟨u01, u02⟩ := mul_bd e d 400 12 u0 hu0 (by omega) (by omega) (by omega) (by omega) (by omega) (by omega)
      obtain ⟨u11, u12⟩ := mul_bd f d 400 12 u1 hu1 (by omega) (by omega) (by omega) (by omega) (by omega) (by omega)
      obtain ⟨u21, u22⟩ := mul_bd g d 400 12 u2 hu2 (by omega) (by omega) (by omega) (by omega) (by omega) (by omega)
      have Y := Lib.hid (show sgnP (t0 - u0) (t1 - u1) (t2 - u2) = cmp8 a b c d e f g h from by rw [cmp8_yes ⟨hx, hy⟩]; unfold cmpI; rw [ht0, ht1, ht2, hu0, hu1, hu2])
      have HX := Lib.hid hx
      have HY := Lib.hid hy
      have HM := Lib.hid (And.intro ht0 (And.intro ht1 (And.intro ht2 (And.intro hu0 (And.intro hu1 hu2)))))
      clear hx hy ht0 ht1 ht2 hu0 hu1 hu2
      go_enter Tryd.func84, Tryd.ntmps84
      go_wp2_with fail
      obtain ⟨W0, hW, E0, E1, EB⟩ := boxes2 w a b c d e f g h 29 29
      rw [← hW]
      have F0 := Lib.hid E0
      have F1 := Lib.hid E1
      have FB := Lib.hid EB
      clear hW E0 E1 EB
      refine (sintervalOk_any _ _ _ _ _).mono ?_
      rintro e1 w1 ⟨rfl, hb⟩
      rw [HX.out]
      have G0 := Lib.hid (four_keep hb F0.out)
      have G1 := Lib.hid (four_keep hb F1.out)
      have GB := Lib.hid (FB.out.trans (hb.mono FB.out.size))
      clear hb F0 F1 FB
      obtain ⟨x0, x1, x2, x3, y0, y1, y2, y3⟩ := eightF G0.out G1.out
      go_wp2_with fail
      clear x0 x1 x2 x3 y0 y1 y2 y3
      refine (sintervalOk_any _ _ _ _ _).mono ?_
      rintro e2 w2 ⟨rfl, hb⟩
      rw [HY.out]
      have K0 := Lib.hid (four_keep hb G0.out)
      have K1 := Lib.hid (four_keep hb G1.out)
      have KB := Lib.hid (GB.out.trans (hb.mono GB.out.size))
      clear hb G0 G1 GB
      obtain ⟨x0, x1, x2, x3, y0, y1, y2, y3⟩ := eightF K0.out K1.out
      obtain ⟨ht0, ht1, ht2, hu0, hu1, hu2⟩ := HM.out
      go_wp2_with fail
      clear x0 x1 x2 x3 y0 y1 y2 y3 ht0 ht1 ht2 hu0 hu1 hu2
      refine (sign04_walk _ _ _ _ (by omega) (by omega) (by omega) (by omega) (by omega) (by omega)).mono ?_
      rintro e3 w3 ⟨rfl, hb⟩
      have RB := Lib.hid (KB.out.trans (hb.mono KB.out.size))
      clear hb K0 K1 KB
      go_wp2_with fail
      go_ret
      exact ⟨ret_int Y.out, RB.out⟩
    · have HX := Lib.hid hx
      have HY := Lib.hid (Bool.eq_false_iff.2 hy)
      have N := Lib.hid (cmp8_no (a := a) (b := b) (c := c) (d := d) (e := e) (f := f) (g := g) (h := h) (fun h => hy h.2))
      clear hx hy
      go_enter Tryd.func84, Tryd.ntmps84
      go_wp2_with fail
      obtain ⟨W0, hW, E0, E1, EB⟩ := boxes2 w a b c d e f g h 29 29
      rw [← hW]
      have F0 := Lib.hid E0
      have F1 := Lib.hid E1
      have FB := Lib.hid EB
      clear hW E0 E1 EB
      refine (sintervalOk_any _ _ _ _ _).mono ?_
      rintro e1 w1 ⟨rfl, hb⟩
      rw [HX.out]
      have G0 := Lib.hid (four_keep hb F0.out)
      have G1 := Lib.hid (four_keep hb F1.out)
      have GB := Lib.hid (FB.out.trans (hb.mono FB.out.size))
      clear hb F0 F1 FB
      obtain ⟨x0, x1, x2, x3, y0, y1, y2, y3⟩ := eightF G0.out G1.out
      go_wp2_with fail
      clear x0 x1 x2 x3 y0 y1 y2 y3
      refine (sintervalOk_any _ _ _ _ _).mono ?_
      rintro e2 w2 ⟨rfl, hb⟩
      rw [HY.out]
      have kb := Lib.hid (GB.out.trans (hb.mono GB.out.size))
      clear hb G0 G1 GB
      go_wp2_with fail
      go_ret
      exact ⟨ret_int N.out.symm, kb.out⟩
  · have HX := Lib.hid (Bool.eq_false_iff.2 hx)
    have N := Lib.hid (cmp8_no (a := a) (b := b) (c := c) (d := d) (e := e) (f := f) (g := g) (h := h) (fun h => hx h.1))
    clear hx
    go_enter Tryd.func84, Tryd.ntmps84
    go_wp2_with fail
    refine (sintervalOk_any _ _ _ _ _).mono ?_
    rintro e1 w1 ⟨rfl, hb⟩
    rw [HX.out]
    have kb := Lib.hid ((below_alloc2 w _ _).trans (hb.mono (by simp; omega)))
    clear hb
    go_wp2_with fail
    go_ret
    exact ⟨ret_int N.out.symm, kb.out⟩
end Go.Proofs.YtfhefakacjkmiaaDoor
