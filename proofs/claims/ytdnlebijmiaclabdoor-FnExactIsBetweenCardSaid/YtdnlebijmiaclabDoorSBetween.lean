/- Contract of spec.IsBetween. -/
import Derived.Test.YtdnlebijmiaclabDoorBetween
import Derived.Test.YtdnlebijmiaclabDoorSCompareTone
namespace Go.Proofs.YtdnlebijmiaclabDoor
open Go.RowKit Go.Joins
set_option linter.unusedVariables false
set_option maxRecDepth 100000 in
set_option maxHeartbeats 4000000 in
theorem between_spec (a b c d e f g h i j k l : Int) (w : World) :
    Calls Tryd.prog 31 #[ivV a b c d, ivV e f g h, ivV i j k l] w fun en w' => en = .returned (.bool (btw a b c d e f g h i j k l)) ∧ Below w.heap.size w w' := by
  by_cases o0 : okI a b c d = true
  · by_cases o1 : okI e f g h = true
    · by_cases o2 : okI i j k l = true
      · have O0 := Lib.hid o0
        have O1 := Lib.hid o1
        have O2 := Lib.hid o2
        obtain ⟨x, hX⟩ : ∃ x, cmp8 a b c d e f g h = x := ⟨_, rfl⟩
        obtain ⟨y, hY⟩ : ∃ y, cmp8 a b c d i j k l = y := ⟨_, rfl⟩
        have Y := Lib.hid (show (decide (0 ≤ x) && decide (y ≤ 0)) = btw a b c d e f g h i j k l from by unfold btw; rw [o0, o1, o2, hX, hY]; rfl)
        have HC0 := Lib.hid hX
        have HC1 := Lib.hid hY
        clear o0 o1 o2 hX hY
        by_cases hx0 : 0 ≤ x
        · by_cases hy0 : y ≤ 0
          · go_enter Tryd.func31, Tryd.ntmps31
            go_wp2_with fail
            obtain ⟨W0, hW, E0, E1, E2, EB⟩ := boxes3 w a b c d e f g h i j k l 25 25 25
            rw [← hW]
            have F0 := Lib.hid E0
            have F1 := Lib.hid E1
            have F2 := Lib.hid E2
            have FB := Lib.hid EB
            clear hW E0 E1 E2 EB
            refine (sintervalOk_any _ _ _ _ _).mono ?_
            rintro en w1 ⟨rfl, hb⟩
            rw [O0.out]
            have E0 := four_keep hb F0.out
            have E1 := four_keep hb F1.out
            have E2 := four_keep hb F2.out
            have EB := FB.out.trans (hb.mono FB.out.size)
            clear hb F0 F1 F2 FB
            have F0 := Lib.hid E0
            have F1 := Lib.hid E1
            have F2 := Lib.hid E2
            have FB := Lib.hid EB
            clear E0 E1 E2 EB
            obtain ⟨_, x0, x1, x2, x3⟩ := F0.out
            obtain ⟨_, y0, y1, y2, y3⟩ := F1.out
            obtain ⟨_, z0, z1, z2, z3⟩ := F2.out
            go_wp2_with fail
            clear x0 x1 x2 x3 y0 y1 y2 y3 z0 z1 z2 z3
            refine (sintervalOk_any _ _ _ _ _).mono ?_
            rintro en w1 ⟨rfl, hb⟩
            rw [O1.out]
            have E0 := four_keep hb F0.out
            have E1 := four_keep hb F1.out
            have E2 := four_keep hb F2.out
            have EB := FB.out.trans (hb.mono FB.out.size)
            clear hb F0 F1 F2 FB
            have F0 := Lib.hid E0
            have F1 := Lib.hid E1
            have F2 := Lib.hid E2
            have FB := Lib.hid EB
            clear E0 E1 E2 EB
            obtain ⟨_, x0, x1, x2, x3⟩ := F0.out
            obtain ⟨_, y0, y1, y2, y3⟩ := F1.out
            obtain ⟨_, z0, z1, z2, z3⟩ := F2.out
            go_wp2_with fail
            clear x0 x1 x2 x3 y0 y1 y2 y3 z0 z1 z2 z3
            refine (sintervalOk_any _ _ _ _ _).mono ?_
            rintro en w1 ⟨rfl, hb⟩
            rw [O2.out]
            have E0 := four_keep hb F0.out
            have E1 := four_keep hb F1.out
            have E2 := four_keep hb F2.out
            have EB := FB.out.trans (hb.mono FB.out.size)
            clear hb F0 F1 F2 FB
            have F0 := Lib.hid E0
            have F1 := Lib.hid E1
            have F2 := Lib.hid E2
            have FB := Lib.hid EB
            clear E0 E1 E2 EB
            obtain ⟨_, x0, x1, x2, x3⟩ := F0.out
            obtain ⟨_, y0, y1, y2, y3⟩ := F1.out
            obtain ⟨_, z0, z1, z2, z3⟩ := F2.out
            go_wp2_with fail
            clear x0 x1 x2 x3 y0 y1 y2 y3 z0 z1 z2 z3
            refine (scompareTone _ _ _ _ _ _ _ _ _).mono ?_
            rintro en w1 ⟨rfl, hb⟩
            rw [HC0.out]
            have E0 := four_keep hb F0.out
            have E1 := four_keep hb F1.out
            have E2 := four_keep hb F2.out
            have EB := FB.out.trans (hb.mono FB.out.size)
            clear hb F0 F1 F2 FB
            have F0 := Lib.hid E0
            have F1 := Lib.hid E1
            have F2 := Lib.hid E2
            have FB := Lib.hid EB
            clear E0 E1 E2 EB
            obtain ⟨_, x0, x1, x2, x3⟩ := F0.out
            obtain ⟨_, y0, y1, y2, y3⟩ := F1.out
            obtain ⟨_, z0, z1, z2, z3⟩ := F2.out
            go_wp2_with fail
            clear x0 x1 x2 x3 y0 y1 y2 y3 z0 z1 z2 z3
            refine (scompareTone _ _ _ _ _ _ _ _ _).mono ?_
            rintro en w1 ⟨rfl, hb⟩
            rw [HC1.out]
            have E0 := four_keep hb F0.out
            have E1 := four_keep hb F1.out
            have E2 := four_keep hb F2.out
            have EB := FB.out.trans (hb.mono FB.out.size)
            clear hb F0 F1 F2 FB
            have F0 := Lib.hid E0
            have F1 := Lib.hid E1
            have F2 := Lib.hid E2
            have FB := Lib.hid EB
            clear E0 E1 E2 EB
            obtain ⟨_, x0, x1, x2, x3⟩ := F0.out
            obtain ⟨_, y0, y1, y2, y3⟩ := F1.out
            obtain ⟨_, z0, z1, z2, z3⟩ := F2.out
            go_wp2_with fail
            clear x0 x1 x2 x3 y0 y1 y2 y3 z0 z1 z2 z3
            go_ret
            exact ⟨ret_boolT (by rw [← Y.out]; simp; omega), FB.out⟩
          · go_enter Tryd.func31, Tryd.ntmps31
            go_wp2_with fail
            obtain ⟨W0, hW, E0, E1, E2, EB⟩ := boxes3 w a b c d e f g h i j k l 25 25 25
            rw [← hW]
            have F0 := Lib.hid E0
            have F1 := Lib.hid E1
            have F2 := Lib.hid E2
            have FB := Lib.hid EB
            clear hW E0 E1 E2 EB
            refine (sintervalOk_any _ _ _ _ _).mono ?_
            rintro en w1 ⟨rfl, hb⟩
            rw [O0.out]
            have E0 := four_keep hb F0.out
            have E1 := four_keep hb F1.out
            have E2 := four_keep hb F2.out
            have EB := FB.out.trans (hb.mono FB.out.size)
            clear hb F0 F1 F2 FB
            have F0 := Lib.hid E0
            have F1 := Lib.hid E1
            have F2 := Lib.hid E2
            have FB := Lib.hid EB
            clear E0 E1 E2 EB
            obtain ⟨_, x0, x1, x2, x3⟩ := F0.out
            obtain ⟨_, y0, y1, y2, y3⟩ := F1.out
            obtain ⟨_, z0, z1, z2, z3⟩ := F2.out
            go_wp2_with fail
            clear x0 x1 x2 x3 y0 y1 y2 y3 z0 z1 z2 z3
            refine (sintervalOk_any _ _ _ _ _).mono ?_
            rintro en w1 ⟨rfl, hb⟩
            rw [O1.out]
            have E0 := four_keep hb F0.out
            have E1 := four_keep hb F1.out
            have E2 := four_keep hb F2.out
            have EB := FB.out.trans (hb.mono FB.out.size)
            clear hb F0 F1 F2 FB
            have F0 := Lib.hid E0
            have F1 := Lib.hid E1
            have F2 := Lib.hid E2
            have FB := Lib.hid EB
            clear E0 E1 E2 EB
            obtain ⟨_, x0, x1, x2, x3⟩ := F0.out
            obtain ⟨_, y0, y1, y2, y3⟩ := F1.out
            obtain ⟨_, z0, z1, z2, z3⟩ := F2.out
            go_wp2_with fail
            clear x0 x1 x2 x3 y0 y1 y2 y3 z0 z1 z2 z3
            refine (sintervalOk_any _ _ _ _ _).mono ?_
            rintro en w1 ⟨rfl, hb⟩
            rw [O2.out]
            have E0 := four_keep hb F0.out
            have E1 := four_keep hb F1.out
            have E2 := four_keep hb F2.out
            have EB := FB.out.trans (hb.mono FB.out.size)
            clear hb F0 F1 F2 FB
            have F0 := Lib.hid E0
            have F1 := Lib.hid E1
            have F2 := Lib.hid E2
            have FB := Lib.hid EB
            clear E0 E1 E2 EB
            obtain ⟨_, x0, x1, x2, x3⟩ := F0.out
            obtain ⟨_, y0, y1, y2, y3⟩ := F1.out
            obtain ⟨_, z0, z1, z2, z3⟩ := F2.out
            go_wp2_with fail
            clear x0 x1 x2 x3 y0 y1 y2 y3 z0 z1 z2 z3
            refine (scompareTone _ _ _ _ _ _ _ _ _).mono ?_
            rintro en w1 ⟨rfl, hb⟩
            rw [HC0.out]
            have E0 := four_keep hb F0.out
            have E1 := four_keep hb F1.out
            have E2 := four_keep hb F2.out
            have EB := FB.out.trans (hb.mono FB.out.size)
            clear hb F0 F1 F2 FB
            have F0 := Lib.hid E0
            have F1 := Lib.hid E1
            have F2 := Lib.hid E2
            have FB := Lib.hid EB
            clear E0 E1 E2 EB
            obtain ⟨_, x0, x1, x2, x3⟩ := F0.out
            obtain ⟨_, y0, y1, y2, y3⟩ := F1.out
            obtain ⟨_, z0, z1, z2, z3⟩ := F2.out
            go_wp2_with fail
            clear x0 x1 x2 x3 y0 y1 y2 y3 z0 z1 z2 z3
            refine (scompareTone _ _ _ _ _ _ _ _ _).mono ?_
            rintro en w1 ⟨rfl, hb⟩
            rw [HC1.out]
            have E0 := four_keep hb F0.out
            have E1 := four_keep hb F1.out
            have E2 := four_keep hb F2.out
            have EB := FB.out.trans (hb.mono FB.out.size)
            clear hb F0 F1 F2 FB
            have F0 := Lib.hid E0
            have F1 := Lib.hid E1
            have F2 := Lib.hid E2
            have FB := Lib.hid EB
            clear E0 E1 E2 EB
            obtain ⟨_, x0, x1, x2, x3⟩ := F0.out
            obtain ⟨_, y0, y1, y2, y3⟩ := F1.out
            obtain ⟨_, z0, z1, z2, z3⟩ := F2.out
            go_wp2_with fail
            clear x0 x1 x2 x3 y0 y1 y2 y3 z0 z1 z2 z3
            go_ret
            exact ⟨ret_boolT (by rw [← Y.out]; simp; omega), FB.out⟩
        · go_enter Tryd.func31, Tryd.ntmps31
          go_wp2_with fail
          obtain ⟨W0, hW, E0, E1, E2, EB⟩ := boxes3 w a b c d e f g h i j k l 25 25 25
          rw [← hW]
          have F0 := Lib.hid E0
          have F1 := Lib.hid E1
          have F2 := Lib.hid E2
          have FB := Lib.hid EB
          clear hW E0 E1 E2 EB
          refine (sintervalOk_any _ _ _ _ _).mono ?_
          rintro en w1 ⟨rfl, hb⟩
          rw [O0.out]
          have E0 := four_keep hb F0.out
          have E1 := four_keep hb F1.out
          have E2 := four_keep hb F2.out
          have EB := FB.out.trans (hb.mono FB.out.size)
          clear hb F0 F1 F2 FB
          have F0 := Lib.hid E0
          have F1 := Lib.hid E1
          have F2 := Lib.hid E2
          have FB := Lib.hid EB
          clear E0 E1 E2 EB
          obtain ⟨_, x0, x1, x2, x3⟩ := F0.out
          obtain ⟨_, y0, y1, y2, y3⟩ := F1.out
          obtain ⟨_, z0, z1, z2, z3⟩ := F2.out
          go_wp2_with fail
          clear x0 x1 x2 x3 y0 y1 y2 y3 z0 z1 z2 z3
          refine (sintervalOk_any _ _ _ _ _).mono ?_
          rintro en w1 ⟨rfl, hb⟩
          rw [O1.out]
          have E0 := four_keep hb F0.out
          have E1 := four_keep hb F1.out
          have E2 := four_keep hb F2.out
          have EB := FB.out.trans (hb.mono FB.out.size)
          clear hb F0 F1 F2 FB
          have F0 := Lib.hid E0
          have F1 := Lib.hid E1
          have F2 := Lib.hid E2
          have FB := Lib.hid EB
          clear E0 E1 E2 EB
          obtain ⟨_, x0, x1, x2, x3⟩ := F0.out
          obtain ⟨_, y0, y1, y2, y3⟩ := F1.out
          obtain ⟨_, z0, z1, z2, z3⟩ := F2.out
          go_wp2_with fail
          clear x0 x1 x2 x3 y0 y1 y2 y3 z0 z1 z2 z3
          refine (sintervalOk_any _ _ _ _ _).mono ?_
          rintro en w1 ⟨rfl, hb⟩
          rw [O2.out]
          have E0 := four_keep hb F0.out
          have E1 := four_keep hb F1.out
          have E2 := four_keep hb F2.out
          have EB := FB.out.trans (hb.mono FB.out.size)
          clear hb F0 F1 F2 FB
          have F0 := Lib.hid E0
          have F1 := Lib.hid E1
          have F2 := Lib.hid E2
          have FB := Lib.hid EB
          clear E0 E1 E2 EB
          obtain ⟨_, x0, x1, x2, x3⟩ := F0.out
          obtain ⟨_, y0, y1, y2, y3⟩ := F1.out
          obtain ⟨_, z0, z1, z2, z3⟩ := F2.out
          go_wp2_with fail
          clear x0 x1 x2 x3 y0 y1 y2 y3 z0 z1 z2 z3
          refine (scompareTone _ _ _ _ _ _ _ _ _).mono ?_
          rintro en w1 ⟨rfl, hb⟩
          rw [HC0.out]
          have E0 := four_keep hb F0.out
          have E1 := four_keep hb F1.out
          have E2 := four_keep hb F2.out
          have EB := FB.out.trans (hb.mono FB.out.size)
          clear hb F0 F1 F2 FB
          have F0 := Lib.hid E0
          have F1 := Lib.hid E1
          have F2 := Lib.hid E2
          have FB := Lib.hid EB
          clear E0 E1 E2 EB
          obtain ⟨_, x0, x1, x2, x3⟩ := F0.out
          obtain ⟨_, y0, y1, y2, y3⟩ := F1.out
          obtain ⟨_, z0, z1, z2, z3⟩ := F2.out
          go_wp2_with fail
          clear x0 x1 x2 x3 y0 y1 y2 y3 z0 z1 z2 z3
          go_ret
          exact ⟨ret_boolT (by rw [← Y.out]; simp; omega), FB.out⟩
      · have O0 := Lib.hid o0
        have O1 := Lib.hid o1
        have O2 := Lib.hid (Bool.eq_false_iff.2 o2)
        have Y := Lib.hid (show false = btw a b c d e f g h i j k l from by unfold btw; rw [O2.out]; simp)
        clear o0 o1 o2
        go_enter Tryd.func31, Tryd.ntmps31
        go_wp2_with fail
        obtain ⟨W0, hW, E0, E1, E2, EB⟩ := boxes3 w a b c d e f g h i j k l 25 25 25
        rw [← hW]
        have F0 := Lib.hid E0
        have F1 := Lib.hid E1
        have F2 := Lib.hid E2
        have FB := Lib.hid EB
        clear hW E0 E1 E2 EB
        refine (sintervalOk_any _ _ _ _ _).mono ?_
        rintro en w1 ⟨rfl, hb⟩
        rw [O0.out]
        have E0 := four_keep hb F0.out
        have E1 := four_keep hb F1.out
        have E2 := four_keep hb F2.out
        have EB := FB.out.trans (hb.mono FB.out.size)
        clear hb F0 F1 F2 FB
        have F0 := Lib.hid E0
        have F1 := Lib.hid E1
        have F2 := Lib.hid E2
        have FB := Lib.hid EB
        clear E0 E1 E2 EB
        obtain ⟨_, x0, x1, x2, x3⟩ := F0.out
        obtain ⟨_, y0, y1, y2, y3⟩ := F1.out
        obtain ⟨_, z0, z1, z2, z3⟩ := F2.out
        go_wp2_with fail
        clear x0 x1 x2 x3 y0 y1 y2 y3 z0 z1 z2 z3
        refine (sintervalOk_any _ _ _ _ _).mono ?_
        rintro en w1 ⟨rfl, hb⟩
        rw [O1.out]
        have E0 := four_keep hb F0.out
        have E1 := four_keep hb F1.out
        have E2 := four_keep hb F2.out
        have EB := FB.out.trans (hb.mono FB.out.size)
        clear hb F0 F1 F2 FB
        have F0 := Lib.hid E0
        have F1 := Lib.hid E1
        have F2 := Lib.hid E2
        have FB := Lib.hid EB
        clear E0 E1 E2 EB
        obtain ⟨_, x0, x1, x2, x3⟩ := F0.out
        obtain ⟨_, y0, y1, y2, y3⟩ := F1.out
        obtain ⟨_, z0, z1, z2, z3⟩ := F2.out
        go_wp2_with fail
        clear x0 x1 x2 x3 y0 y1 y2 y3 z0 z1 z2 z3
        refine (sintervalOk_any _ _ _ _ _).mono ?_
        rintro en w1 ⟨rfl, hb⟩
        rw [O2.out]
        have E0 := four_keep hb F0.out
        have E1 := four_keep hb F1.out
        have E2 := four_keep hb F2.out
        have EB := FB.out.trans (hb.mono FB.out.size)
        clear hb F0 F1 F2 FB
        have F0 := Lib.hid E0
        have F1 := Lib.hid E1
        have F2 := Lib.hid E2
        have FB := Lib.hid EB
        clear E0 E1 E2 EB
        obtain ⟨_, x0, x1, x2, x3⟩ := F0.out
        obtain ⟨_, y0, y1, y2, y3⟩ := F1.out
        obtain ⟨_, z0, z1, z2, z3⟩ := F2.out
        go_wp2_with fail
        clear x0 x1 x2 x3 y0 y1 y2 y3 z0 z1 z2 z3
        go_ret
        exact ⟨ret_boolT (by rw [← Y.out]), FB.out⟩
    · have O0 := Lib.hid o0
      have O1 := Lib.hid (Bool.eq_false_iff.2 o1)
      have Y := Lib.hid (show false = btw a b c d e f g h i j k l from by unfold btw; rw [O1.out]; simp)
      clear o0 o1
      go_enter Tryd.func31, Tryd.ntmps31
      go_wp2_with fail
      obtain ⟨W0, hW, E0, E1, E2, EB⟩ := boxes3 w a b c d e f g h i j k l 25 25 25
      rw [← hW]
      have F0 := Lib.hid E0
      have F1 := Lib.hid E1
      have F2 := Lib.hid E2
      have FB := Lib.hid EB
      clear hW E0 E1 E2 EB
      refine (sintervalOk_any _ _ _ _ _).mono ?_
      rintro en w1 ⟨rfl, hb⟩
      rw [O0.out]
      have E0 := four_keep hb F0.out
      have E1 := four_keep hb F1.out
      have E2 := four_keep hb F2.out
      have EB := FB.out.trans (hb.mono FB.out.size)
      clear hb F0 F1 F2 FB
      have F0 := Lib.hid E0
      have F1 := Lib.hid E1
      have F2 := Lib.hid E2
      have FB := Lib.hid EB
      clear E0 E1 E2 EB
      obtain ⟨_, x0, x1, x2, x3⟩ := F0.out
      obtain ⟨_, y0, y1, y2, y3⟩ := F1.out
      obtain ⟨_, z0, z1, z2, z3⟩ := F2.out
      go_wp2_with fail
      clear x0 x1 x2 x3 y0 y1 y2 y3 z0 z1 z2 z3
      refine (sintervalOk_any _ _ _ _ _).mono ?_
      rintro en w1 ⟨rfl, hb⟩
      rw [O1.out]
      have E0 := four_keep hb F0.out
      have E1 := four_keep hb F1.out
      have E2 := four_keep hb F2.out
      have EB := FB.out.trans (hb.mono FB.out.size)
      clear hb F0 F1 F2 FB
      have F0 := Lib.hid E0
      have F1 := Lib.hid E1
      have F2 := Lib.hid E2
      have FB := Lib.hid EB
      clear E0 E1 E2 EB
      obtain ⟨_, x0, x1, x2, x3⟩ := F0.out
      obtain ⟨_, y0, y1, y2, y3⟩ := F1.out
      obtain ⟨_, z0, z1, z2, z3⟩ := F2.out
      go_wp2_with fail
      clear x0 x1 x2 x3 y0 y1 y2 y3 z0 z1 z2 z3
      go_ret
      exact ⟨ret_boolT (by rw [← Y.out]), FB.out⟩
  · have O0 := Lib.hid (Bool.eq_false_iff.2 o0)
    have Y := Lib.hid (show false = btw a b c d e f g h i j k l from by unfold btw; rw [O0.out]; simp)
    clear o0
    go_enter Tryd.func31, Tryd.ntmps31
    go_wp2_with fail
    obtain ⟨W0, hW, E0, E1, E2, EB⟩ := boxes3 w a b c d e f g h i j k l 25 25 25
    rw [← hW]
    have F0 := Lib.hid E0
    have F1 := Lib.hid E1
    have F2 := Lib.hid E2
    have FB := Lib.hid EB
    clear hW E0 E1 E2 EB
    refine (sintervalOk_any _ _ _ _ _).mono ?_
    rintro en w1 ⟨rfl, hb⟩
    rw [O0.out]
    have E0 := four_keep hb F0.out
    have E1 := four_keep hb F1.out
    have E2 := four_keep hb F2.out
    have EB := FB.out.trans (hb.mono FB.out.size)
    clear hb F0 F1 F2 FB
    have F0 := Lib.hid E0
    have F1 := Lib.hid E1
    have F2 := Lib.hid E2
    have FB := Lib.hid EB
    clear E0 E1 E2 EB
    obtain ⟨_, x0, x1, x2, x3⟩ := F0.out
    obtain ⟨_, y0, y1, y2, y3⟩ := F1.out
    obtain ⟨_, z0, z1, z2, z3⟩ := F2.out
    go_wp2_with fail
    clear x0 x1 x2 x3 y0 y1 y2 y3 z0 z1 z2 z3
    go_ret
    exact ⟨ret_boolT (by rw [← Y.out]), FB.out⟩
end Go.Proofs.YtdnlebijmiaclabDoor
