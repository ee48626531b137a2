/- Contract of spec.SplitComma, and the walk of laws.FnExactSplitComma. -/
import Derived.Test.YtdnlebijmiaclaaComSplit
namespace Go.Proofs.Ytdnlebijmiaclaa
open Go.RowKit Go.Joins
set_option linter.unusedVariables false
def InAt (n : Int) (x : Bool) : Prop := decide (-50 ≤ n ∧ n ≤ 50) = x
theorem inAt_spec {n : Int} {x : Bool} (h : InAt n x) (w : World) : Calls Try.prog 61 #[.int .i64 n, .int .i64 (-50), .int .i64 50] w fun e w' => e = .returned (.bool x) ∧ w = w' := by
  unfold InAt at h; subst h; exact inT_any n (-50) 50 w
set_option maxRecDepth 100000 in
set_option maxHeartbeats 2000000 in
theorem split_spec_no {t h f d : Int} (hx : pureB t h f d = false) (w : World) :
    Calls Try.prog 51 #[ivV t h f d] w fun e w' => e = .returned (.tuple #[.int .i64 0, .int .i64 0, .bool false]) ∧ Below w.heap.size w w' := by
  obtain ⟨x, hx0⟩ : ∃ x : Bool, okI t h f d = x := ⟨_, rfl⟩
  have HX := Lib.hid hx0
  unfold pureB at hx
  rw [hx0] at hx
  clear hx0
  cases x
  · clear hx
    go_enter Try.func51, Try.ntmps51
    go_wp2_with fail
    refine (sintervalOk_any _ _ _ _ _).mono ?_
    rintro e w1 ⟨rfl, hb⟩
    rw [HX.out]
    have kb : Below w.heap.size w w1 := (below_alloc1 w _).trans (hb.mono (by simp))
    clear hb
    go_wp2_with fail
    go_ret3
    exact ⟨rfl, kb⟩
  · have q : (d != 1) = true := by simpa using hx
    clear hx
    go_enter Try.func51, Try.ntmps51
    go_wp2_with fail
    refine (sintervalOk_any _ _ _ _ _).mono ?_
    rintro e w1 ⟨rfl, hb⟩
    rw [HX.out]
    obtain ⟨hc, hf⟩ := bcellT hb
    have q3 : w1.cell? ⟨w.heap.size, 3, none⟩ = some (.int .i64 d) := by rw [hc _ _ (by simp)]; simp [go_sem]
    have kb : Below w.heap.size w w1 := (below_alloc1 w _).trans (hb.mono (by simp))
    clear hb hc hf
    go_wp2_with fail
    go_ret3
    exact ⟨rfl, kb⟩
set_option maxRecDepth 100000 in
set_option maxHeartbeats 2000000 in
theorem split_spec_yes {t h f d a b r p q : Int} {y : Bool} (hx : pureB t h f d = true) (hb : b = -f) (ha : (h - 4 * b).tdiv 12 = a) (hm : (h - 4 * b).tmod 12 = r) (hr : 12 * a + r = h - 4 * b)
    (hy : ((-50 ≤ a ∧ a ≤ 50) ∧ (-50 ≤ b ∧ b ≤ 50) ∧ t = a * -19 + b * -4 ∧ r = 0 ∧ p = a ∧ q = b ∧ y = true) ∨ (¬ ((-50 ≤ a ∧ a ≤ 50) ∧ (-50 ≤ b ∧ b ≤ 50) ∧ t = a * -19 + b * -4 ∧ r = 0) ∧ p = 0 ∧ q = 0 ∧ y = false)) (w : World) :
    Calls Try.prog 51 #[ivV t h f d] w fun e w' => e = .returned (.tuple #[.int .i64 p, .int .i64 q, .bool y]) ∧ Below w.heap.size w w' := by
  obtain ⟨rfl, t1, t2, h1, h2, f1, f2⟩ := pure_of hx
  have HX : Hid (okI t h f 1 = true) := Lib.hid (by unfold pureB at hx; simpa using hx)
  have v1 : IntKind.i64.wrap (-f) = b := by rw [IntWalk.i64_in _ (by omega)]; exact hb.symm
  have v2 : IntKind.i64.wrap (4 * b) = 4 * b := IntWalk.i64_in _ (by omega)
  have v3 : IntKind.i64.wrap (h - 4 * b) = h - 4 * b := IntWalk.i64_in _ (by omega)
  have bd : -170 ≤ a ∧ a ≤ 170 ∧ -12 < r ∧ r < 12 := by rw [← ha, ← hm]; obtain ⟨z1, z2, z3, z4, z5, z6, z7⟩ := tdiv12 (h - 4 * b); omega
  obtain ⟨bd1, bd2, bd3, bd4⟩ := bd
  have v4 : IntKind.i64.wrap a = a := IntWalk.i64_in _ (by omega)
  have v4r : IntKind.i64.wrap r = r := IntWalk.i64_in _ (by omega)
  have v5 : IntKind.i64.wrap (-19 * a) = -19 * a := IntWalk.i64_in _ (by omega)
  have v6 : IntKind.i64.wrap (-19 * a - 4 * b) = -19 * a - 4 * b := IntWalk.i64_in _ (by omega)
  obtain ⟨s, hs⟩ : ∃ s, s = -19 * a - 4 * b := ⟨_, rfl⟩
  rw [← hs] at v6
  have HY := Lib.hid hy
  have HR := Lib.hid hr
  have HS := Lib.hid hs
  have hs2 : -19 * a - 4 * b = s := hs.symm
  have v7 : IntKind.i64.wrap s = s := v6
  clear hx hy hr hb hs v6
  go_enter Try.func51, Try.ntmps51
  go_wp2_with fail
  refine (sintervalOk_any _ _ _ _ _).mono ?_
  rintro e w1 ⟨rfl, hb1⟩
  rw [HX.out]
  obtain ⟨hc, hf⟩ := bcellT hb1
  have q0 : w1.cell? ⟨w.heap.size, 0, none⟩ = some (.int .i64 t) := by rw [hc _ _ (by simp)]; simp [go_sem]
  have q1 : w1.cell? ⟨w.heap.size, 1, none⟩ = some (.int .i64 h) := by rw [hc _ _ (by simp)]; simp [go_sem]
  have q2 : w1.cell? ⟨w.heap.size, 2, none⟩ = some (.int .i64 f) := by rw [hc _ _ (by simp)]; simp [go_sem]
  have q3 : w1.cell? ⟨w.heap.size, 3, none⟩ = some (.int .i64 1) := by rw [hc _ _ (by simp)]; simp [go_sem]
  have kb := Lib.hid ((below_alloc1 w _).trans (hb1.mono (by simp)))
  clear hb1 hc hf
  by_cases h0 : r = 0
  · have e0 : (r != 0) = false := by simpa using h0
    by_cases h3 : t = s
    · have e3 : (t != s) = false := by simpa using h3
      by_cases hA : -50 ≤ a ∧ a ≤ 50
      · have TA : InAt a true := decide_eq_true hA
        by_cases hB : -50 ≤ b ∧ b ≤ 50
        · have TB : InAt b true := decide_eq_true hB
          have hy : p = a ∧ q = b ∧ y = true := by
            rcases HY.out with ⟨_, _, _, _, g⟩ | ⟨g, _⟩
            · exact g
            · exact absurd ⟨hA, hB, by have := HS.out; omega, h0⟩ g
          clear hA hB h3 h0
          go_wp2_with fail
          refine (inAt_spec TA _).mono ?_
          rintro e w2 ⟨rfl, rfl⟩
          go_wp2_with fail
          refine (inAt_spec TB _).mono ?_
          rintro e w2 ⟨rfl, rfl⟩
          go_wp2_with fail
          go_ret3
          obtain ⟨g1, g2, g3⟩ := hy
          exact ⟨by subst g1 g2 g3; rfl, kb.out⟩
        · have TB : InAt b false := decide_eq_false hB
          have hy : p = 0 ∧ q = 0 ∧ y = false := by
            rcases HY.out with ⟨g1, g2, g3, g4, _⟩ | ⟨_, g⟩
            · exact absurd g2 hB
            · exact g
          clear hA hB h3 h0
          go_wp2_with fail
          refine (inAt_spec TA _).mono ?_
          rintro e w2 ⟨rfl, rfl⟩
          go_wp2_with fail
          refine (inAt_spec TB _).mono ?_
          rintro e w2 ⟨rfl, rfl⟩
          go_wp2_with fail
          go_ret3
          obtain ⟨g1, g2, g3⟩ := hy
          exact ⟨by subst g1 g2 g3; rfl, kb.out⟩
      · have TA : InAt a false := decide_eq_false hA
        have hy : p = 0 ∧ q = 0 ∧ y = false := by
          rcases HY.out with ⟨g1, g2, g3, g4, _⟩ | ⟨_, g⟩
          · exact absurd g1 hA
          · exact g
        clear hA h3 h0
        go_wp2_with fail
        refine (inAt_spec TA _).mono ?_
        rintro e w2 ⟨rfl, rfl⟩
        go_wp2_with fail
        go_ret3
        obtain ⟨g1, g2, g3⟩ := hy
        exact ⟨by subst g1 g2 g3; rfl, kb.out⟩
    · have e3 : (t != s) = true := by simpa using h3
      have hy : p = 0 ∧ q = 0 ∧ y = false := by
        rcases HY.out with ⟨g1, g2, g3, g4, _⟩ | ⟨_, g⟩
        · exact absurd (by have := HS.out; omega) h3
        · exact g
      clear h3 h0
      go_wp2_with fail
      go_ret3
      obtain ⟨g1, g2, g3⟩ := hy
      exact ⟨by subst g1 g2 g3; rfl, kb.out⟩
  · have e0 : (r != 0) = true := by simpa using h0
    have hy : p = 0 ∧ q = 0 ∧ y = false := by
      rcases HY.out with ⟨g1, g2, g3, g4, _⟩ | ⟨_, g⟩
      · exact absurd g4 h0
      · exact g
    clear h0
    go_wp2_with fail
    go_ret3
    obtain ⟨g1, g2, g3⟩ := hy
    exact ⟨by subst g1 g2 g3; rfl, kb.out⟩
theorem split_spec {t h f d p q : Int} {y : Bool} (h0 : SplAt t h f d p q y) (w : World) :
    Calls Try.prog 51 #[ivV t h f d] w fun e w' => e = .returned (.tuple #[.int .i64 p, .int .i64 q, .bool y]) ∧ Below w.heap.size w w' := by
  rcases h0 with ⟨h1, rfl, rfl, rfl⟩ | ⟨h1, a, b, r, h2, h3, h4, h5, h6⟩
  · exact split_spec_no h1 w
  · exact split_spec_yes h1 h2 h3 h4 h5 h6 w
set_option maxRecDepth 100000 in
set_option maxHeartbeats 2000000 in
theorem walk_FnExactSplitComma (a b c d : Int) (w : World) :
    Calls Try.prog 17 #[ivV a b c d] w fun e w' => e = .returned (.bool true) ∧ Below w.heap.size w w' := by
  obtain ⟨p, q, y, h⟩ := splAt_ex a b c d
  have S1 := Lib.hid (fun w => split_spec h w)
  have S2 := Lib.hid (fun w => split_impl h w)
  clear h
  go_enter Try.func17, Try.ntmps17
  go_wp2_with fail
  have F0 := Lib.hid (four_alloc (w := w) (p := a) (q := b) (r := c) (s := d) (t := 34))
  have B0 := Lib.hid (below_alloc1 w (.cells #[.int .i64 a, .int .i64 b, .int .i64 c, .int .i64 d] 34))
  refine (toInterval_any _ _ _ _ _).mono ?_
  rintro e w1 ⟨rfl, hb⟩
  have F1 := Lib.hid (four_keep hb F0.out)
  have B1 := Lib.hid (B0.out.trans (hb.mono B0.out.size))
  clear hb F0 B0
  go_wp2_with fail
  refine (S1.out _).mono ?_
  rintro e w2 ⟨rfl, hb⟩
  have F2 := Lib.hid (four_keep hb F1.out)
  have B2 := Lib.hid (B1.out.trans (hb.mono B1.out.size))
  clear hb F1 B1
  obtain ⟨_, x0, x1, x2, x3⟩ := F2.out
  go_wp2_with fail
  refine (toInterval_any _ _ _ _ _).mono ?_
  rintro e w3 ⟨rfl, hb⟩
  have B3 := Lib.hid (B2.out.trans (hb.mono B2.out.size))
  clear hb F2 B2 x0 x1 x2 x3
  go_wp2_with fail
  refine (S2.out _).mono ?_
  rintro e w4 ⟨rfl, hb⟩
  have B4 := Lib.hid (B3.out.trans (hb.mono B3.out.size))
  have yy : (y != y) = false := by cases y <;> rfl
  clear hb B3
  go_wp2_with fail
  go_ret
  exact ⟨rfl, B4.out⟩
end Go.Proofs.Ytdnlebijmiaclaa
