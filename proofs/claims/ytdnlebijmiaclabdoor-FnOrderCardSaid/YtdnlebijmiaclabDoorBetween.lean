/- Contract of impl.IsBetween. -/
import Derived.Test.YtdnlebijmiaclabDoorCompareTone
namespace Go.Proofs.YtdnlebijmiaclabDoor
open Go.RowKit Go.Joins
set_option linter.unusedVariables false
/-- Three boxed intervals. -/
theorem boxes3 (w : World) (a b c d e f g h i j k l : Int) (T U V : TypeId) : ∃ W, W = ((w.alloc (.cells #[.int .i64 a, .int .i64 b, .int .i64 c, .int .i64 d] T)).alloc (.cells #[.int .i64 e, .int .i64 f, .int .i64 g, .int .i64 h] U)).alloc (.cells #[.int .i64 i, .int .i64 j, .int .i64 k, .int .i64 l] V) ∧ Four w.heap.size a b c d W ∧ Four (w.heap.size + 1) e f g h W ∧ Four (w.heap.size + 2) i j k l W ∧ Below w.heap.size w W := by
  obtain ⟨W0, hW, E0, E1, EB⟩ := boxes2 w a b c d e f g h T U
  have hsz : W0.heap.size = w.heap.size + 2 := by rw [hW]; simp
  refine ⟨_, rfl, ?_, ?_, ?_, below_alloc3 w _ _ _⟩
  · rw [← hW]; exact four_alF E0
  · rw [← hW]; exact four_alF E1
  · rw [← hW, ← hsz]; exact four_alloc
/-- Is the first interval between both others? -/
def btw (a b c d e f g h i j k l : Int) : Bool := okI a b c d && okI e f g h && okI i j k l && decide (0 ≤ cmp8 a b c d e f g h) && decide (cmp8 a b c d i j k l ≤ 0)
theorem and3 {x y z : Bool} (h : ¬ (x = true ∧ y = true)) (u v : Bool) : (x && y && z && u && v) = false := by cases x <;> cases y <;> simp_all
theorem and3' {x y z : Bool} (h : ¬ (x = true ∧ z = true)) (u v : Bool) : (x && y && z && u && v) = false := by cases x <;> cases y <;> cases z <;> simp_all
set_option maxRecDepth 100000 in
set_option maxHeartbeats 2000000 in
theorem between_impl (A : Addr) (a b c d e f g h i j k l : Int) (w : World) (hs : SenAt A w) :
    Calls Tryd.prog 22 #[ivV a b c d, ivV e f g h, ivV i j k l] w fun en w' => en = .returned (.bool (btw a b c d e f g h i j k l)) ∧ Below w.heap.size w w' := by
  have HS := Lib.hid hs
  clear hs
  by_cases hx : okI a b c d = true ∧ okI e f g h = true
  · by_cases hy : okI a b c d = true ∧ okI i j k l = true
    · have HX := Lib.hid hx
      have HY := Lib.hid hy
      obtain ⟨x, hX⟩ : ∃ x, x = cmp8 a b c d e f g h := ⟨_, rfl⟩
      obtain ⟨y, hY⟩ : ∃ y, y = cmp8 a b c d i j k l := ⟨_, rfl⟩
      have Y := Lib.hid (show (decide (0 ≤ x) && decide (y ≤ 0)) = btw a b c d e f g h i j k l from by unfold btw; rw [hx.1, hx.2, hy.2, hX, hY]; rfl)
      have HC := Lib.hid (And.intro hX hY)
      clear hx hy hX hY
      by_cases hx0 : 0 ≤ x
      · by_cases hy0 : y ≤ 0
        · go_enter Tryd.func22, Tryd.ntmps22
          go_wp2_with fail
          obtain ⟨W0, hW, E0, E1, E2, EB⟩ := boxes3 w a b c d e f g h i j k l 25 25 25
          rw [← hW]
          have F0 := Lib.hid E0
          have F2 := Lib.hid E2
          have FB := Lib.hid EB
          clear hW E0 E1 E2 EB
          refine (compared_any A _ _ _ _ _ _ _ _ _ (senAt_below HS.out FB.out)).mono ?_
          intro en w1 hp
          obtain ⟨rfl, hb⟩ := cmpPost_ok HX.out hp
          rw [← HC.out.1]
          have G0 := Lib.hid (four_keep hb F0.out)
          have G2 := Lib.hid (four_keep hb F2.out)
          have GB := Lib.hid (FB.out.trans (hb.mono FB.out.size))
          clear hp hb F0 F2 FB
          obtain ⟨x0, x1, x2, x3, y0, y1, y2, y3⟩ := eightF G0.out G2.out
          go_wp2_with fail
          clear x0 x1 x2 x3 y0 y1 y2 y3
          refine (compared_any A _ _ _ _ _ _ _ _ _ (senAt_below HS.out GB.out)).mono ?_
          intro en w2 hp
          obtain ⟨rfl, hb⟩ := cmpPost_ok HY.out hp
          rw [← HC.out.2]
          have KB := Lib.hid (GB.out.trans (hb.mono GB.out.size))
          have sE := senAt_below HS.out KB.out
          unfold SenAt at sE
          clear hp hb G0 G2 GB
          go_wp2_with fail
          refine (is_nil A _).mono ?_
          rintro en w3 ⟨rfl, rfl⟩
          go_wp2_with fail
          refine (is_nil A _).mono ?_
          rintro en w3 ⟨rfl, rfl⟩
          go_wp2_with fail
          go_ret
          exact ⟨ret_boolT (by rw [← Y.out]; simp; omega), KB.out⟩
        · go_enter Tryd.func22, Tryd.ntmps22
          go_wp2_with fail
          obtain ⟨W0, hW, E0, E1, E2, EB⟩ := boxes3 w a b c d e f g h i j k l 25 25 25
          rw [← hW]
          have F0 := Lib.hid E0
          have F2 := Lib.hid E2
          have FB := Lib.hid EB
          clear hW E0 E1 E2 EB
          refine (compared_any A _ _ _ _ _ _ _ _ _ (senAt_below HS.out FB.out)).mono ?_
          intro en w1 hp
          obtain ⟨rfl, hb⟩ := cmpPost_ok HX.out hp
          rw [← HC.out.1]
          have G0 := Lib.hid (four_keep hb F0.out)
          have G2 := Lib.hid (four_keep hb F2.out)
          have GB := Lib.hid (FB.out.trans (hb.mono FB.out.size))
          clear hp hb F0 F2 FB
          obtain ⟨x0, x1, x2, x3, y0, y1, y2, y3⟩ := eightF G0.out G2.out
          go_wp2_with fail
          clear x0 x1 x2 x3 y0 y1 y2 y3
          refine (compared_any A _ _ _ _ _ _ _ _ _ (senAt_below HS.out GB.out)).mono ?_
          intro en w2 hp
          obtain ⟨rfl, hb⟩ := cmpPost_ok HY.out hp
          rw [← HC.out.2]
          have KB := Lib.hid (GB.out.trans (hb.mono GB.out.size))
          have sE := senAt_below HS.out KB.out
          unfold SenAt at sE
          clear hp hb G0 G2 GB
          go_wp2_with fail
          refine (is_nil A _).mono ?_
          rintro en w3 ⟨rfl, rfl⟩
          go_wp2_with fail
          refine (is_nil A _).mono ?_
          rintro en w3 ⟨rfl, rfl⟩
          go_wp2_with fail
          go_ret
          exact ⟨ret_boolT (by rw [← Y.out]; simp; omega), KB.out⟩
      · go_enter Tryd.func22, Tryd.ntmps22
        go_wp2_with fail
        obtain ⟨W0, hW, E0, E1, E2, EB⟩ := boxes3 w a b c d e f g h i j k l 25 25 25
        rw [← hW]
        have F0 := Lib.hid E0
        have F2 := Lib.hid E2
        have FB := Lib.hid EB
        clear hW E0 E1 E2 EB
        refine (compared_any A _ _ _ _ _ _ _ _ _ (senAt_below HS.out FB.out)).mono ?_
        intro en w1 hp
        obtain ⟨rfl, hb⟩ := cmpPost_ok HX.out hp
        rw [← HC.out.1]
        have G0 := Lib.hid (four_keep hb F0.out)
        have G2 := Lib.hid (four_keep hb F2.out)
        have GB := Lib.hid (FB.out.trans (hb.mono FB.out.size))
        clear hp hb F0 F2 FB
        obtain ⟨x0, x1, x2, x3, y0, y1, y2, y3⟩ := eightF G0.out G2.out
        go_wp2_with fail
        clear x0 x1 x2 x3 y0 y1 y2 y3
        refine (compared_any A _ _ _ _ _ _ _ _ _ (senAt_below HS.out GB.out)).mono ?_
        intro en w2 hp
        obtain ⟨rfl, hb⟩ := cmpPost_ok HY.out hp
        rw [← HC.out.2]
        have KB := Lib.hid (GB.out.trans (hb.mono GB.out.size))
        have sE := senAt_below HS.out KB.out
        unfold SenAt at sE
        clear hp hb G0 G2 GB
        go_wp2_with fail
        refine (is_nil A _).mono ?_
        rintro en w3 ⟨rfl, rfl⟩
        go_wp2_with fail
        refine (is_nil A _).mono ?_
        rintro en w3 ⟨rfl, rfl⟩
        go_wp2_with fail
        go_ret
        exact ⟨ret_boolT (by rw [← Y.out]; simp; omega), KB.out⟩
    · have HX := Lib.hid hx
      have HY := Lib.hid hy
      have Z := Lib.hid (show btw a b c d e f g h i j k l = false from and3' hy _ _)
      clear hx hy
      go_enter Tryd.func22, Tryd.ntmps22
      go_wp2_with fail
      obtain ⟨W0, hW, E0, E1, E2, EB⟩ := boxes3 w a b c d e f g h i j k l 25 25 25
      rw [← hW]
      have F0 := Lib.hid E0
      have F2 := Lib.hid E2
      have FB := Lib.hid EB
      clear hW E0 E1 E2 EB
      refine (compared_any A _ _ _ _ _ _ _ _ _ (senAt_below HS.out FB.out)).mono ?_
      intro en w1 hp
      obtain ⟨rfl, hb⟩ := cmpPost_ok HX.out hp
      have G0 := Lib.hid (four_keep hb F0.out)
      have G2 := Lib.hid (four_keep hb F2.out)
      have GB := Lib.hid (FB.out.trans (hb.mono FB.out.size))
      clear hp hb F0 F2 FB
      obtain ⟨x0, x1, x2, x3, y0, y1, y2, y3⟩ := eightF G0.out G2.out
      go_wp2_with fail
      clear x0 x1 x2 x3 y0 y1 y2 y3
      refine (compared_any A _ _ _ _ _ _ _ _ _ (senAt_below HS.out GB.out)).mono ?_
      intro en w2 hp
      obtain ⟨rfl, hb⟩ := cmpPost_bad HY.out hp
      have KB := Lib.hid (GB.out.trans (hb.mono GB.out.size))
      have sE := senAt_below HS.out KB.out
      unfold SenAt at sE
      clear hp hb G0 G2 GB
      go_wp2_with fail
      refine (is_nil A _).mono ?_
      rintro en w3 ⟨rfl, rfl⟩
      go_wp2_with fail
      refine (is_same A _).mono ?_
      rintro en w3 ⟨rfl, rfl⟩
      go_wp2_with fail
      go_ret
      exact ⟨ret_boolT Z.out.symm, KB.out⟩
  · by_cases hy : okI a b c d = true ∧ okI i j k l = true
    · have HX := Lib.hid hx
      have HY := Lib.hid hy
      have Z := Lib.hid (show btw a b c d e f g h i j k l = false from and3 hx _ _)
      clear hx hy
      go_enter Tryd.func22, Tryd.ntmps22
      go_wp2_with fail
      obtain ⟨W0, hW, E0, E1, E2, EB⟩ := boxes3 w a b c d e f g h i j k l 25 25 25
      rw [← hW]
      have F0 := Lib.hid E0
      have F2 := Lib.hid E2
      have FB := Lib.hid EB
      clear hW E0 E1 E2 EB
      refine (compared_any A _ _ _ _ _ _ _ _ _ (senAt_below HS.out FB.out)).mono ?_
      intro en w1 hp
      obtain ⟨rfl, hb⟩ := cmpPost_bad HX.out hp
      have G0 := Lib.hid (four_keep hb F0.out)
      have G2 := Lib.hid (four_keep hb F2.out)
      have GB := Lib.hid (FB.out.trans (hb.mono FB.out.size))
      clear hp hb F0 F2 FB
      obtain ⟨x0, x1, x2, x3, y0, y1, y2, y3⟩ := eightF G0.out G2.out
      go_wp2_with fail
      clear x0 x1 x2 x3 y0 y1 y2 y3
      refine (compared_any A _ _ _ _ _ _ _ _ _ (senAt_below HS.out GB.out)).mono ?_
      intro en w2 hp
      obtain ⟨rfl, hb⟩ := cmpPost_ok HY.out hp
      have KB := Lib.hid (GB.out.trans (hb.mono GB.out.size))
      have sE := senAt_below HS.out KB.out
      unfold SenAt at sE
      clear hp hb G0 G2 GB
      go_wp2_with fail
      refine (is_same A _).mono ?_
      rintro en w3 ⟨rfl, rfl⟩
      go_wp2_with fail
      go_ret
      exact ⟨ret_boolT Z.out.symm, KB.out⟩
    · have HX := Lib.hid hx
      have HY := Lib.hid hy
      have Z := Lib.hid (show btw a b c d e f g h i j k l = false from and3 hx _ _)
      clear hx hy
      go_enter Tryd.func22, Tryd.ntmps22
      go_wp2_with fail
      obtain ⟨W0, hW, E0, E1, E2, EB⟩ := boxes3 w a b c d e f g h i j k l 25 25 25
      rw [← hW]
      have F0 := Lib.hid E0
      have F2 := Lib.hid E2
      have FB := Lib.hid EB
      clear hW E0 E1 E2 EB
      refine (compared_any A _ _ _ _ _ _ _ _ _ (senAt_below HS.out FB.out)).mono ?_
      intro en w1 hp
      obtain ⟨rfl, hb⟩ := cmpPost_bad HX.out hp
      have G0 := Lib.hid (four_keep hb F0.out)
      have G2 := Lib.hid (four_keep hb F2.out)
      have GB := Lib.hid (FB.out.trans (hb.mono FB.out.size))
      clear hp hb F0 F2 FB
      obtain ⟨x0, x1, x2, x3, y0, y1, y2, y3⟩ := eightF G0.out G2.out
      go_wp2_with fail
      clear x0 x1 x2 x3 y0 y1 y2 y3
      refine (compared_any A _ _ _ _ _ _ _ _ _ (senAt_below HS.out GB.out)).mono ?_
      intro en w2 hp
      obtain ⟨rfl, hb⟩ := cmpPost_bad HY.out hp
      have KB := Lib.hid (GB.out.trans (hb.mono GB.out.size))
      have sE := senAt_below HS.out KB.out
      unfold SenAt at sE
      clear hp hb G0 G2 GB
      go_wp2_with fail
      refine (is_same A _).mono ?_
      rintro en w3 ⟨rfl, rfl⟩
      go_wp2_with fail
      go_ret
      exact ⟨ret_boolT Z.out.symm, KB.out⟩
end Go.Proofs.YtdnlebijmiaclabDoor
