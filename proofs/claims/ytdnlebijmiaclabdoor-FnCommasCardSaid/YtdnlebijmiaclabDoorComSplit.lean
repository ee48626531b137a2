/- Contracts of SplitComma, both sides, and the walk of laws.FnExactSplitComma. -/
import Derived.Test.YtdnlebijmiaclabDoorComWalks
import Derived.Test.YtdnlebijmiaclabDoorSameTone
import Derived.OwnWalk
import Derived.Test.YtdnlebijmiaclabDoorTakeD
namespace Go.Proofs.YtdnlebijmiaclabDoor
open Go.RowKit Go.Joins
set_option linter.unusedVariables false
theorem okI_nums4 {a b c d : Int} (h : okI a b c d = true) : 1 ≤ d ∧ d ≤ 12 ∧ -400 ≤ a ∧ a ≤ 400 ∧ -400 ≤ b ∧ b ≤ 400 ∧ -400 ≤ c ∧ c ≤ 400 := by unfold okI at h; simpa using h
theorem tdiv12 (n : Int) : ∃ q r, n.tdiv 12 = q ∧ n.tmod 12 = r ∧ 12 * q + r = n ∧ -12 < r ∧ r < 12 := by
  refine ⟨_, _, rfl, rfl, Int.mul_tdiv_add_tmod n 12, ?_, ?_⟩
  · have := Int.lt_tmod_of_pos n (show (0 : Int) < 12 by omega); omega
  · exact Int.tmod_lt_of_pos n (by omega)
/-- An interval is valid with Root 1. -/
def pureB (a b c d : Int) : Bool := okI a b c d && (d == 1)
theorem isPure_impl (a b c d : Int) (w : World) :
    Calls Tryd.prog 70 #[ivV a b c d] w fun e w' => e = .returned (.bool (pureB a b c d)) ∧ Below w.heap.size w w' := by
  obtain ⟨x, hx⟩ : ∃ x : Bool, okI a b c d = x := ⟨_, rfl⟩
  have HX := Lib.hid hx
  have PX : Hid (pureB a b c d = (x && (d == 1))) := Lib.hid (by unfold pureB; rw [hx])
  clear hx
  cases x
  all_goals
    go_enter Tryd.func70, Tryd.ntmps70
    go_wp2_with fail
    refine (intervalOk_any _ _ _ _ _).mono ?_
    rintro e w1 ⟨rfl, hb⟩
    rw [HX.out]
    obtain ⟨hc, hf⟩ := bcellT hb
    have q3 : w1.cell? ⟨w.heap.size, 3, none⟩ = some (.int .i64 d) := by rw [hc _ _ (by simp)]; simp [go_sem]
    have kb : Below w.heap.size w w1 := (below_alloc1 w _).trans (hb.mono (by simp))
    clear hb hc hf
    go_wp2_with fail
    go_ret
    exact ⟨ret_boolT (by rw [PX.out]; simp), kb⟩
theorem isTimes_impl (n : Int) (w : World) : Calls Tryd.prog 71 #[.int .i64 n] w fun e w' => e = .returned (.bool (decide (-50 ≤ n ∧ n ≤ 50))) ∧ Below w.heap.size w w' := by
  by_cases h1 : -50 ≤ n
  · by_cases h2 : n ≤ 50
    · have R := Lib.hid (And.intro h1 h2)
      go_enter Tryd.func71, Tryd.ntmps71
      go_wp2
      go_ret
      exact ⟨ret_boolT (decide_eq_true R.out).symm, Below.refl _ _⟩
    · have R := Lib.hid h2
      go_enter Tryd.func71, Tryd.ntmps71
      go_wp2
      go_ret
      exact ⟨ret_boolT (decide_eq_false (fun h => by have := R.out; omega)).symm, Below.refl _ _⟩
  · have R := Lib.hid h1
    go_enter Tryd.func71, Tryd.ntmps71
    go_wp2
    go_ret
    exact ⟨ret_boolT (by have := R.out; simp; omega), Below.refl _ _⟩
def TimesAt (n : Int) (x : Bool) : Prop := decide (-50 ≤ n ∧ n ≤ 50) = x
theorem timesAt_impl {n : Int} {x : Bool} (h : TimesAt n x) (w : World) : Calls Tryd.prog 71 #[.int .i64 n] w fun e w' => e = .returned (.bool x) ∧ Below w.heap.size w w' := by
  unfold TimesAt at h; subst h; exact isTimes_impl n w
/-- The sum of both first commas, a times and b times. -/
def SumAt (a b p q r : Int) : Prop := (-50 ≤ a ∧ a ≤ 50 ∧ -50 ≤ b ∧ b ≤ 50) ∧ p = a * -19 + b * -4 ∧ q = a * 12 + b * 4 ∧ r = -b
set_option maxHeartbeats 1000000 in
theorem sumOf_impl {a b p q r : Int} (h : SumAt a b p q r) (w : World) :
    Calls Tryd.prog 72 #[ivV (-19) 12 0 1, .int .i64 a, ivV (-4) 4 (-1) 1, .int .i64 b] w fun e w' => e = .returned (ivV p q r 1) ∧ Below w.heap.size w w' := by
  obtain ⟨⟨a1, a2, b1, b2⟩, h1, h2, h3⟩ := h
  have v1 : IntKind.i64.wrap (a * -19) = a * -19 := IntWalk.i64_in _ (by omega)
  have v2 : IntKind.i64.wrap (b * -4) = b * -4 := IntWalk.i64_in _ (by omega)
  have v3 : IntKind.i64.wrap (a * 12) = a * 12 := IntWalk.i64_in _ (by omega)
  have v4 : IntKind.i64.wrap (b * 4) = b * 4 := IntWalk.i64_in _ (by omega)
  have v6 : IntKind.i64.wrap (a * -19 + b * -4) = p := by rw [IntWalk.i64_in _ (by omega)]; exact h1.symm
  have v7 : IntKind.i64.wrap (a * 12 + b * 4) = q := by rw [IntWalk.i64_in _ (by omega)]; exact h2.symm
  have H3 := Lib.hid h3
  clear h1 h2 h3
  go_enter Tryd.func72, Tryd.ntmps72
  go_wp2_with fail
  refine bodyPost_ret (v := ivV p q (-b) 1) (by simp [results, Tryd.results72, go_sem]) rfl ⟨by rw [H3.out], ?_⟩
  exact ((below_alloc1 w _).alloc (by simp) _).alloc (by simp; omega) _
/-- What SplitComma answers. -/
def SplAt (t h f d p q : Int) (y : Bool) : Prop :=
  (pureB t h f d = false ∧ p = 0 ∧ q = 0 ∧ y = false) ∨
  (pureB t h f d = true ∧ ∃ a b r : Int, b = -f ∧ (h - 4 * b).tdiv 12 = a ∧ (h - 4 * b).tmod 12 = r ∧ 12 * a + r = h - 4 * b ∧
    (((-50 ≤ a ∧ a ≤ 50) ∧ (-50 ≤ b ∧ b ≤ 50) ∧ t = a * -19 + b * -4 ∧ r = 0 ∧ p = a ∧ q = b ∧ y = true) ∨
     (¬ ((-50 ≤ a ∧ a ≤ 50) ∧ (-50 ≤ b ∧ b ≤ 50) ∧ t = a * -19 + b * -4 ∧ r = 0) ∧ p = 0 ∧ q = 0 ∧ y = false)))
theorem splAt_ex (t h f d : Int) : ∃ p q y, SplAt t h f d p q y := by
  obtain ⟨x, hx⟩ : ∃ x : Bool, pureB t h f d = x := ⟨_, rfl⟩
  cases x
  · exact ⟨0, 0, false, .inl ⟨hx, rfl, rfl, rfl⟩⟩
  · obtain ⟨a, r, h1, h2, h3, h4, h5⟩ := tdiv12 (h - 4 * -f)
    by_cases g : (-50 ≤ a ∧ a ≤ 50) ∧ (-50 ≤ -f ∧ -f ≤ 50) ∧ t = a * -19 + -f * -4 ∧ r = 0
    · exact ⟨a, -f, true, .inr ⟨hx, a, -f, r, rfl, h1, h2, h3, .inl ⟨g.1, g.2.1, g.2.2.1, g.2.2.2, rfl, rfl, rfl⟩⟩⟩
    · exact ⟨0, 0, false, .inr ⟨hx, a, -f, r, rfl, h1, h2, h3, .inr ⟨g, rfl, rfl, rfl⟩⟩⟩
theorem com1 : ComAt 1 (-19) 12 0 1 [112, 121, 116, 104, 97, 103, 111, 114, 101, 97, 110] := .inl ⟨rfl, rfl, rfl, rfl, rfl, rfl⟩
theorem com2 : ComAt 2 (-4) 4 (-1) 1 [115, 121, 110, 116, 111, 110, 105, 99] := .inr (.inl ⟨rfl, rfl, rfl, rfl, rfl, rfl⟩)
theorem pure_of {t h f d : Int} (hx : pureB t h f d = true) : d = 1 ∧ -400 ≤ t ∧ t ≤ 400 ∧ -400 ≤ h ∧ h ≤ 400 ∧ -400 ≤ f ∧ f ≤ 400 := by
  unfold pureB at hx
  simp at hx
  have := okI_nums4 hx.1
  omega
/-- Three blocks of four numbers. -/
def TripC (n m : Nat) (t h f d : Int) (w : World) : Prop := Four n t h f d w ∧ Four m (-19) 12 0 1 w ∧ Four (m + 1) (-4) 4 (-1) 1 w
theorem tripC_keep {W w : World} {n m : Nat} {t h f d : Int} (hb : Below W.heap.size W w) (hp : TripC n m t h f d W) : TripC n m t h f d w := ⟨four_keep hb hp.1, four_keep hb hp.2.1, four_keep hb hp.2.2⟩
theorem tripC_drew {w : World} {n m : Nat} {t h f d : Int} (hp : TripC n m t h f d w) : TripC n m t h f d w.drew := hp
theorem tripC_cells {w : World} {n m : Nat} {t h f d : Int} (hp : TripC n m t h f d w) : w.cell? ⟨n, 0, none⟩ = some (.int .i64 t) ∧ w.cell? ⟨n, 1, none⟩ = some (.int .i64 h) ∧ w.cell? ⟨n, 2, none⟩ = some (.int .i64 f) ∧ w.cell? ⟨n, 3, none⟩ = some (.int .i64 d) ∧ w.cell? ⟨m, 0, none⟩ = some (.int .i64 (-19)) ∧ w.cell? ⟨m, 1, none⟩ = some (.int .i64 12) ∧ w.cell? ⟨m, 2, none⟩ = some (.int .i64 0) ∧ w.cell? ⟨m, 3, none⟩ = some (.int .i64 1) ∧ w.cell? ⟨m + 1, 0, none⟩ = some (.int .i64 (-4)) ∧ w.cell? ⟨m + 1, 1, none⟩ = some (.int .i64 4) ∧ w.cell? ⟨m + 1, 2, none⟩ = some (.int .i64 (-1)) ∧ w.cell? ⟨m + 1, 3, none⟩ = some (.int .i64 1) := by
  obtain ⟨⟨_, a0, a1, a2, a3⟩, ⟨_, b0, b1, b2, b3⟩, ⟨_, c0, c1, c2, c3⟩⟩ := hp
  exact ⟨a0, a1, a2, a3, b0, b1, b2, b3, c0, c1, c2, c3⟩
set_option maxRecDepth 100000 in
set_option maxHeartbeats 2000000 in
theorem split_impl_no {t h f d : Int} (hx : pureB t h f d = false) (w : World) :
    Calls Tryd.prog 47 #[ivV t h f d] w fun e w' => e = .returned (.tuple #[.int .i64 0, .int .i64 0, .bool false]) ∧ Below w.heap.size w w' := by
  have HX := Lib.hid hx
  clear hx
  go_enter Tryd.func47, Tryd.ntmps47
  go_wp2_with fail
  refine (isPure_impl _ _ _ _ _).mono ?_
  rintro e w1 ⟨rfl, hb⟩
  rw [HX.out]
  have kb : Below w.heap.size w w1 := (below_alloc1 w _).trans (hb.mono (by simp))
  clear hb
  go_wp2_with fail
  go_ret3
  exact ⟨rfl, kb⟩
set_option maxRecDepth 100000 in
set_option maxHeartbeats 2000000 in
theorem split_impl_yes {t h f d a b r p q : Int} {y : Bool} (hx : pureB t h f d = true) (hb : b = -f) (ha : (h - 4 * b).tdiv 12 = a) (hr : 12 * a + r = h - 4 * b)
    (hy : ((-50 ≤ a ∧ a ≤ 50) ∧ (-50 ≤ b ∧ b ≤ 50) ∧ t = a * -19 + b * -4 ∧ r = 0 ∧ p = a ∧ q = b ∧ y = true) ∨ (¬ ((-50 ≤ a ∧ a ≤ 50) ∧ (-50 ≤ b ∧ b ≤ 50) ∧ t = a * -19 + b * -4 ∧ r = 0) ∧ p = 0 ∧ q = 0 ∧ y = false)) (w : World) :
    Calls Tryd.prog 47 #[ivV t h f d] w fun e w' => e = .returned (.tuple #[.int .i64 p, .int .i64 q, .bool y]) ∧ Below w.heap.size w w' := by
  obtain ⟨rfl, t1, t2, h1, h2, f1, f2⟩ := pure_of hx
  have HX := Lib.hid hx
  have HY := Lib.hid hy
  have HR := Lib.hid hr
  have HBF := Lib.hid hb
  have v1 : IntKind.i64.wrap (-f) = b := by rw [IntWalk.i64_in _ (by omega)]; exact hb.symm
  have v2 : IntKind.i64.wrap (b * 4) = b * 4 := IntWalk.i64_in _ (by omega)
  have v3 : IntKind.i64.wrap (h - b * 4) = h - b * 4 := IntWalk.i64_in _ (by omega)
  have ha2 : (h - b * 4).tdiv 12 = a := by rw [Int.mul_comm b 4]; exact ha
  have v4 : IntKind.i64.wrap a = a := by rw [← ha2]; obtain ⟨z1, z2, z3, z4, z5, z6, z7⟩ := tdiv12 (h - b * 4); exact IntWalk.i64_in _ (by omega)
  have b1 : -400 ≤ b := by omega
  have b2 : b ≤ 400 := by omega
  clear hx hy hr hb ha
  go_enter Tryd.func47, Tryd.ntmps47
  go_wp2_with fail
  have hF : Four w.heap.size t h f 1 (w.alloc (.cells #[.int .i64 t, .int .i64 h, .int .i64 f, .int .i64 1] 25)) := four_alloc
  have B0 := Lib.hid (below_alloc1 w (.cells #[.int .i64 t, .int .i64 h, .int .i64 f, .int .i64 1] 25))
  obtain ⟨W0, hW0⟩ : ∃ W, W = w.alloc (.cells #[.int .i64 t, .int .i64 h, .int .i64 f, .int .i64 1] 25) := ⟨_, rfl⟩
  rw [← hW0] at hF B0 ⊢
  have F0 := Lib.hid hF
  clear hF hW0
  refine (isPure_impl _ _ _ _ _).mono ?_
  rintro e w1 ⟨rfl, hb⟩
  rw [HX.out]
  have F1 := Lib.hid (four_keep hb F0.out)
  have B1 := Lib.hid (B0.out.trans (hb.mono B0.out.size))
  clear hb F0 B0
  go_wp2_with fail
  refine (comma_impl com1 _).mono ?_
  rintro e w2 ⟨rfl, hb⟩
  have F2 := Lib.hid (four_keep hb F1.out)
  have B2 := Lib.hid (B1.out.trans (hb.mono B1.out.size))
  clear hb F1 B1
  go_wp2_with fail
  refine (comma_impl com2 _).mono ?_
  rintro e w3 ⟨rfl, hb⟩
  have F3 := Lib.hid (four_keep hb F2.out)
  have B3 := Lib.hid (B2.out.trans (hb.mono B2.out.size))
  clear hb F2 B2
  go_upto_region 4 with fail
  obtain ⟨W4, hW4, E0, E1, EB⟩ := boxesS w3 (-19) 12 0 1 (-4) 4 (-1) 1 25 25
  rw [← hW4]
  have F4 : Hid (TripC w.heap.size w3.heap.size t h f 1 W4) := Lib.hid ⟨four_keep EB F3.out, E0, E1⟩
  have B4 := Lib.hid (B3.out.trans (EB.mono B3.out.size))
  clear hW4 E0 E1 EB F3 B3
  obtain ⟨x0, x1, x2, x3, y0, y1, y2, y3, z0, z1, z2, z3⟩ := tripC_cells F4.out
  go_upto_region 6 with fail
  generalize hn : w.heap.size = n at F4 x0 x1 x2 x3 y0 y1 y2 y3 z0 z1 z2 z3 ⊢
  generalize w3.heap.size = m at *
  clear v1 v2 v3 ha2 v4
  obtain ⟨p', hp'⟩ : ∃ z, z = a * -19 + b * -4 := ⟨_, rfl⟩
  obtain ⟨q', hq'⟩ : ∃ z, z = a * 12 + b * 4 := ⟨_, rfl⟩
  have hr := HR.out
  have hbf := HBF.out
  by_cases hA : -50 ≤ a ∧ a ≤ 50
  · have TA : TimesAt a true := decide_eq_true hA
    by_cases hB : -50 ≤ b ∧ b ≤ 50
    · have TB : TimesAt b true := decide_eq_true hB
      have SA : SumAt a b p' q' f := ⟨⟨hA.1, hA.2, hB.1, hB.2⟩, hp', hq', by omega⟩
      by_cases hp : p' = t
      · by_cases hq : q' = h
        · have e1 : (p' == t) = true := by simpa using hp
          have e2 : (q' == h) = true := by simpa using hq
          have hy : p = a ∧ q = b ∧ y = true := by
            rcases HY.out with ⟨_, _, _, _, g⟩ | ⟨g, _⟩
            · exact g
            · exact absurd ⟨hA, hB, hp.symm.trans hp', by omega⟩ g
          have YY := Lib.hid hy
          have YY := Lib.hid hy
          clear hr hbf hp' hq' HY HR HBF hy hA hB hp hq
          go_region_held3 (fun w' => w'.cell? ⟨n, 0, none⟩ = some (.int .i64 t) ∧ w'.cell? ⟨n, 1, none⟩ = some (.int .i64 h) ∧ w'.cell? ⟨n, 2, none⟩ = some (.int .i64 f) ∧ w'.cell? ⟨n, 3, none⟩ = some (.int .i64 1) ∧ w'.cell? ⟨m, 0, none⟩ = some (.int .i64 (-19)) ∧ w'.cell? ⟨m, 1, none⟩ = some (.int .i64 12) ∧ w'.cell? ⟨m, 2, none⟩ = some (.int .i64 0) ∧ w'.cell? ⟨m, 3, none⟩ = some (.int .i64 1) ∧ w'.cell? ⟨m + 1, 0, none⟩ = some (.int .i64 (-4)) ∧ w'.cell? ⟨m + 1, 1, none⟩ = some (.int .i64 4) ∧ w'.cell? ⟨m + 1, 2, none⟩ = some (.int .i64 (-1)) ∧ w'.cell? ⟨m + 1, 3, none⟩ = some (.int .i64 1)) (with_reducible first | exact tripC_cells (tripC_drew F4.out) | exact tripC_cells (tripC_keep (by assumption) F4.out) | exact tripC_cells F4.out)
            (first
              | (go_at_call 71; refine (calls_fromS (W := W4) (by with_reducible first | assumption | exact (Below.refl _ _).drew) (timesAt_impl (by with_reducible assumption) _)).mono ?_; rintro e9 w9 ⟨rfl, hb⟩)
              | (go_at_call 72; refine (calls_fromS (W := W4) (by with_reducible first | assumption | exact (Below.refl _ _).drew) (sumOf_impl (by with_reducible assumption) _)).mono ?_; rintro e9 w9 ⟨rfl, hb⟩))
          all_goals
            go_wp2_with fail
            go_ret3
            obtain ⟨g1, g2, g3⟩ := YY.out
            exact ⟨by subst g1 g2 g3; rfl, hn ▸ B4.out.trans (hb.mono B4.out.size)⟩
        · have e1 : (p' == t) = true := by simpa using hp
          have e2 : (q' == h) = false := by simpa using hq
          have hy : p = 0 ∧ q = 0 ∧ y = false := by
            rcases HY.out with ⟨g1, g2, g3, g4, _⟩ | ⟨_, g⟩
            · exact absurd (show q' = h by omega) hq
            · exact g
          have YY := Lib.hid hy
          clear hr hbf hp' hq' HY HR HBF hy hA hB hp hq
          go_region_held3 (fun w' => w'.cell? ⟨n, 0, none⟩ = some (.int .i64 t) ∧ w'.cell? ⟨n, 1, none⟩ = some (.int .i64 h) ∧ w'.cell? ⟨n, 2, none⟩ = some (.int .i64 f) ∧ w'.cell? ⟨n, 3, none⟩ = some (.int .i64 1) ∧ w'.cell? ⟨m, 0, none⟩ = some (.int .i64 (-19)) ∧ w'.cell? ⟨m, 1, none⟩ = some (.int .i64 12) ∧ w'.cell? ⟨m, 2, none⟩ = some (.int .i64 0) ∧ w'.cell? ⟨m, 3, none⟩ = some (.int .i64 1) ∧ w'.cell? ⟨m + 1, 0, none⟩ = some (.int .i64 (-4)) ∧ w'.cell? ⟨m + 1, 1, none⟩ = some (.int .i64 4) ∧ w'.cell? ⟨m + 1, 2, none⟩ = some (.int .i64 (-1)) ∧ w'.cell? ⟨m + 1, 3, none⟩ = some (.int .i64 1)) (with_reducible first | exact tripC_cells (tripC_drew F4.out) | exact tripC_cells (tripC_keep (by assumption) F4.out) | exact tripC_cells F4.out)
            (first
              | (go_at_call 71; refine (calls_fromS (W := W4) (by with_reducible first | assumption | exact (Below.refl _ _).drew) (timesAt_impl (by with_reducible assumption) _)).mono ?_; rintro e9 w9 ⟨rfl, hb⟩)
              | (go_at_call 72; refine (calls_fromS (W := W4) (by with_reducible first | assumption | exact (Below.refl _ _).drew) (sumOf_impl (by with_reducible assumption) _)).mono ?_; rintro e9 w9 ⟨rfl, hb⟩))
          all_goals
            go_wp2_with fail
            go_ret3
            obtain ⟨g1, g2, g3⟩ := YY.out
            exact ⟨by subst g1 g2 g3; rfl, hn ▸ B4.out.trans (hb.mono B4.out.size)⟩
      · have e1 : (p' == t) = false := by simpa using hp
        have hy : p = 0 ∧ q = 0 ∧ y = false := by
          rcases HY.out with ⟨g1, g2, g3, g4, _⟩ | ⟨_, g⟩
          · exact absurd (show p' = t by omega) hp
          · exact g
        have YY := Lib.hid hy
        clear hr hbf hp' hq' HY HR HBF hy hA hB hp
        go_region_held3 (fun w' => w'.cell? ⟨n, 0, none⟩ = some (.int .i64 t) ∧ w'.cell? ⟨n, 1, none⟩ = some (.int .i64 h) ∧ w'.cell? ⟨n, 2, none⟩ = some (.int .i64 f) ∧ w'.cell? ⟨n, 3, none⟩ = some (.int .i64 1) ∧ w'.cell? ⟨m, 0, none⟩ = some (.int .i64 (-19)) ∧ w'.cell? ⟨m, 1, none⟩ = some (.int .i64 12) ∧ w'.cell? ⟨m, 2, none⟩ = some (.int .i64 0) ∧ w'.cell? ⟨m, 3, none⟩ = some (.int .i64 1) ∧ w'.cell? ⟨m + 1, 0, none⟩ = some (.int .i64 (-4)) ∧ w'.cell? ⟨m + 1, 1, none⟩ = some (.int .i64 4) ∧ w'.cell? ⟨m + 1, 2, none⟩ = some (.int .i64 (-1)) ∧ w'.cell? ⟨m + 1, 3, none⟩ = some (.int .i64 1)) (with_reducible first | exact tripC_cells (tripC_drew F4.out) | exact tripC_cells (tripC_keep (by assumption) F4.out) | exact tripC_cells F4.out)
          (first
            | (go_at_call 71; refine (calls_fromS (W := W4) (by with_reducible first | assumption | exact (Below.refl _ _).drew) (timesAt_impl (by with_reducible assumption) _)).mono ?_; rintro e9 w9 ⟨rfl, hb⟩)
            | (go_at_call 72; refine (calls_fromS (W := W4) (by with_reducible first | assumption | exact (Below.refl _ _).drew) (sumOf_impl (by with_reducible assumption) _)).mono ?_; rintro e9 w9 ⟨rfl, hb⟩))
        all_goals
          go_wp2_with fail
          go_ret3
          obtain ⟨g1, g2, g3⟩ := YY.out
          exact ⟨by subst g1 g2 g3; rfl, hn ▸ B4.out.trans (hb.mono B4.out.size)⟩
    · have TB : TimesAt b false := decide_eq_false hB
      have hy : p = 0 ∧ q = 0 ∧ y = false := by
        rcases HY.out with ⟨g1, g2, g3, g4, _⟩ | ⟨_, g⟩
        · exact absurd g2 hB
        · exact g
      have YY := Lib.hid hy
      clear hr hbf hp' hq' HY HR HBF hy hA hB
      refine wp_region_held_drew (S := (fun w' => w'.cell? ⟨n, 0, none⟩ = some (.int .i64 t))) (by kernel_rfl) ?_ (fun hHeld => ?_)
      · exact (tripC_drew F4.out).1.2.1
      refine takeD (i := 0) (d := (some 29)) (v := (.int .i64 a)) rfl rfl (by kernel_rfl) (by kernel_rfl) (by kernel_rfl) (fun _ _ _ h => h) (Or.inl ⟨by kernel_rfl, ?_⟩) (by assumption) ?_
      · intro wS hSw
        (try dsimp only at hSw)
        go_simp
      (try simp only [Act.put]); (try simp only [List.setIfInBounds_toArray]); (try simp only [List.set_cons_succ]); (try simp only [List.set_cons_zero])
      refine wpAnyH_ready (rs := [1]) (by kernel_rfl) (by simp) ?_
      refine AllReadyH.cons rfl (fun K hK => ?_) AllReadyH.nil
      go_simp
      refine (calls_fromS (W := W4) (by with_reducible first | assumption | exact (Below.refl _ _).drew) (timesAt_impl (by with_reducible assumption) _)).mono ?_
      rintro e1 w1 ⟨rfl, hb⟩
      go_wp2_with fail
      refine hK.out _ _ ?_ (fun hHeld => ?_)
      · exact (tripC_keep hb F4.out).1.2.1
      clear hK K
      (try simp only [Act.put]); (try simp only [List.setIfInBounds_toArray]); (try simp only [List.set_cons_succ]); (try simp only [List.set_cons_zero])
      refine takeD (i := 2) (d := (some 31)) (v := (.bool false)) rfl rfl (by kernel_rfl) (by kernel_rfl) (by kernel_rfl) (fun _ _ _ h => h) (Or.inl ⟨by kernel_rfl, ?_⟩) (by assumption) ?_
      · intro wS hSw
        (try dsimp only at hSw)
        go_simp
      (try simp only [Act.put]); (try simp only [List.setIfInBounds_toArray]); (try simp only [List.set_cons_succ]); (try simp only [List.set_cons_zero])
      refine takeD (i := 3) (d := (some 32)) (v := (.bool false)) rfl rfl (by kernel_rfl) (by kernel_rfl) (by kernel_rfl) (fun _ _ _ h => h) (Or.inl ⟨by kernel_rfl, ?_⟩) (by assumption) ?_
      · intro wS hSw
        (try dsimp only at hSw)
        go_simp
      (try simp only [Act.put]); (try simp only [List.setIfInBounds_toArray]); (try simp only [List.set_cons_succ]); (try simp only [List.set_cons_zero])
      refine takeD (i := 4) (d := (some 33)) (v := (.int .i64 b)) rfl rfl (by kernel_rfl) (by kernel_rfl) (by kernel_rfl) (fun _ _ _ h => h) (Or.inl ⟨by kernel_rfl, ?_⟩) (by assumption) ?_
      · intro wS hSw
        (try dsimp only at hSw)
        go_simp
      (try simp only [Act.put]); (try simp only [List.setIfInBounds_toArray]); (try simp only [List.set_cons_succ]); (try simp only [List.set_cons_zero])
      refine wpAnyH_ready (rs := [5]) (by kernel_rfl) (by simp) ?_
      refine AllReadyH.cons rfl (fun K hK => ?_) AllReadyH.nil
      go_simp
      refine (calls_fromS (W := W4) (by with_reducible first | assumption | exact (Below.refl _ _).drew) (timesAt_impl (by with_reducible assumption) _)).mono ?_
      rintro e1 w1 ⟨rfl, hb⟩
      go_wp2_with fail
      refine hK.out _ _ ?_ (fun hHeld => ?_)
      · exact (tripC_keep hb F4.out).1.2.1
      clear hK K
      (try simp only [Act.put]); (try simp only [List.setIfInBounds_toArray]); (try simp only [List.set_cons_succ]); (try simp only [List.set_cons_zero])
      refine takeD (i := 6) (d := (some 35)) (v := (.bool true)) rfl rfl (by kernel_rfl) (by kernel_rfl) (by kernel_rfl) (fun _ _ _ h => h) (Or.inl ⟨by kernel_rfl, ?_⟩) (by assumption) ?_
      · intro wS hSw
        (try dsimp only at hSw)
        go_simp
      (try simp only [Act.put]); (try simp only [List.setIfInBounds_toArray]); (try simp only [List.set_cons_succ]); (try simp only [List.set_cons_zero])
      refine takeD (i := 7) (d := (some 36)) (v := (.bool true)) rfl rfl (by kernel_rfl) (by kernel_rfl) (by kernel_rfl) (fun _ _ _ h => h) (Or.inl ⟨by kernel_rfl, ?_⟩) (by assumption) ?_
      · intro wS hSw
        (try dsimp only at hSw)
        go_simp
      (try simp only [Act.put]); (try simp only [List.setIfInBounds_toArray]); (try simp only [List.set_cons_succ]); (try simp only [List.set_cons_zero])
      refine takeD (i := 8) (d := (some 37)) (v := (.bool true)) rfl rfl (by kernel_rfl) (by kernel_rfl) (by kernel_rfl) (fun _ _ _ h => h) (Or.inl ⟨by kernel_rfl, ?_⟩) (by assumption) ?_
      · intro wS hSw
        (try dsimp only at hSw)
        go_simp
      (try simp only [Act.put]); (try simp only [List.setIfInBounds_toArray]); (try simp only [List.set_cons_succ]); (try simp only [List.set_cons_zero])
      refine takeD (i := 9) (d := (some 38)) (v := undef) rfl rfl (by kernel_rfl) (by kernel_rfl) (by kernel_rfl) (fun _ _ _ h => h) (Or.inr ⟨by kernel_rfl, rfl⟩) (by assumption) ?_
      (try simp only [Act.put]); (try simp only [List.setIfInBounds_toArray]); (try simp only [List.set_cons_succ]); (try simp only [List.set_cons_zero])
      refine takeD (i := 10) (d := (some 39)) (v := undef) rfl rfl (by kernel_rfl) (by kernel_rfl) (by kernel_rfl) (fun _ _ _ h => h) (Or.inr ⟨by kernel_rfl, rfl⟩) (by assumption) ?_
      (try simp only [Act.put]); (try simp only [List.setIfInBounds_toArray]); (try simp only [List.set_cons_succ]); (try simp only [List.set_cons_zero])
      refine takeD (i := 11) (d := (some 40)) (v := undef) rfl rfl (by kernel_rfl) (by kernel_rfl) (by kernel_rfl) (fun _ _ _ h => h) (Or.inr ⟨by kernel_rfl, rfl⟩) (by assumption) ?_
      (try simp only [Act.put]); (try simp only [List.setIfInBounds_toArray]); (try simp only [List.set_cons_succ]); (try simp only [List.set_cons_zero])
      refine takeD (i := 12) (d := (some 41)) (v := undef) rfl rfl (by kernel_rfl) (by kernel_rfl) (by kernel_rfl) (fun _ _ _ h => h) (Or.inr ⟨by kernel_rfl, rfl⟩) (by assumption) ?_
      (try simp only [Act.put]); (try simp only [List.setIfInBounds_toArray]); (try simp only [List.set_cons_succ]); (try simp only [List.set_cons_zero])
      refine takeD (i := 13) (d := (some 42)) (v := undef) rfl rfl (by kernel_rfl) (by kernel_rfl) (by kernel_rfl) (fun _ _ _ h => h) (Or.inr ⟨by kernel_rfl, rfl⟩) (by assumption) ?_
      (try simp only [Act.put]); (try simp only [List.setIfInBounds_toArray]); (try simp only [List.set_cons_succ]); (try simp only [List.set_cons_zero])
      refine takeD (i := 14) (d := (some 43)) (v := undef) rfl rfl (by kernel_rfl) (by kernel_rfl) (by kernel_rfl) (fun _ _ _ h => h) (Or.inr ⟨by kernel_rfl, rfl⟩) (by assumption) ?_
      (try simp only [Act.put]); (try simp only [List.setIfInBounds_toArray]); (try simp only [List.set_cons_succ]); (try simp only [List.set_cons_zero])
      refine takeD (i := 15) (d := (some 44)) (v := undef) rfl rfl (by kernel_rfl) (by kernel_rfl) (by kernel_rfl) (fun _ _ _ h => h) (Or.inr ⟨by kernel_rfl, rfl⟩) (by assumption) ?_
      (try simp only [Act.put]); (try simp only [List.setIfInBounds_toArray]); (try simp only [List.set_cons_succ]); (try simp only [List.set_cons_zero])
      refine takeD (i := 16) (d := (some 45)) (v := (.bool true)) rfl rfl (by kernel_rfl) (by kernel_rfl) (by kernel_rfl) (fun _ _ _ h => h) (Or.inl ⟨by kernel_rfl, ?_⟩) (by assumption) ?_
      · intro wS hSw
        (try dsimp only at hSw)
        go_simp
      (try simp only [Act.put]); (try simp only [List.setIfInBounds_toArray]); (try simp only [List.set_cons_succ]); (try simp only [List.set_cons_zero])
      refine wpAnyH_done (by kernel_rfl) ?_ _
      go_wp2_with fail
      go_ret3
      obtain ⟨g1, g2, g3⟩ := YY.out
      exact ⟨by subst g1 g2 g3; rfl, hn ▸ B4.out.trans (hb.mono B4.out.size)⟩
  · have TA : TimesAt a false := decide_eq_false hA
    have hy : p = 0 ∧ q = 0 ∧ y = false := by
      rcases HY.out with ⟨g1, g2, g3, g4, _⟩ | ⟨_, g⟩
      · exact absurd g1 hA
      · exact g
    have YY := Lib.hid hy
    clear hr hbf hp' hq' HY HR HBF hy hA
    refine wp_region_held_drew (S := (fun w' => w'.cell? ⟨n, 0, none⟩ = some (.int .i64 t))) (by kernel_rfl) ?_ (fun hHeld => ?_)
    · exact (tripC_drew F4.out).1.2.1
    refine takeD (i := 0) (d := (some 29)) (v := (.int .i64 a)) rfl rfl (by kernel_rfl) (by kernel_rfl) (by kernel_rfl) (fun _ _ _ h => h) (Or.inl ⟨by kernel_rfl, ?_⟩) (by assumption) ?_
    · intro wS hSw
      (try dsimp only at hSw)
      go_simp
    (try simp only [Act.put]); (try simp only [List.setIfInBounds_toArray]); (try simp only [List.set_cons_succ]); (try simp only [List.set_cons_zero])
    refine wpAnyH_ready (rs := [1]) (by kernel_rfl) (by simp) ?_
    refine AllReadyH.cons rfl (fun K hK => ?_) AllReadyH.nil
    go_simp
    refine (calls_fromS (W := W4) (by with_reducible first | assumption | exact (Below.refl _ _).drew) (timesAt_impl (by with_reducible assumption) _)).mono ?_
    rintro e1 w1 ⟨rfl, hb⟩
    go_wp2_with fail
    refine hK.out _ _ ?_ (fun hHeld => ?_)
    · exact (tripC_keep hb F4.out).1.2.1
    clear hK K
    (try simp only [Act.put]); (try simp only [List.setIfInBounds_toArray]); (try simp only [List.set_cons_succ]); (try simp only [List.set_cons_zero])
    refine takeD (i := 2) (d := (some 31)) (v := (.bool true)) rfl rfl (by kernel_rfl) (by kernel_rfl) (by kernel_rfl) (fun _ _ _ h => h) (Or.inl ⟨by kernel_rfl, ?_⟩) (by assumption) ?_
    · intro wS hSw
      (try dsimp only at hSw)
      go_simp
    (try simp only [Act.put]); (try simp only [List.setIfInBounds_toArray]); (try simp only [List.set_cons_succ]); (try simp only [List.set_cons_zero])
    refine takeD (i := 3) (d := (some 32)) (v := (.bool true)) rfl rfl (by kernel_rfl) (by kernel_rfl) (by kernel_rfl) (fun _ _ _ h => h) (Or.inl ⟨by kernel_rfl, ?_⟩) (by assumption) ?_
    · intro wS hSw
      (try dsimp only at hSw)
      go_simp
    (try simp only [Act.put]); (try simp only [List.setIfInBounds_toArray]); (try simp only [List.set_cons_succ]); (try simp only [List.set_cons_zero])
    refine takeD (i := 4) (d := (some 33)) (v := undef) rfl rfl (by kernel_rfl) (by kernel_rfl) (by kernel_rfl) (fun _ _ _ h => h) (Or.inr ⟨by kernel_rfl, rfl⟩) (by assumption) ?_
    (try simp only [Act.put]); (try simp only [List.setIfInBounds_toArray]); (try simp only [List.set_cons_succ]); (try simp only [List.set_cons_zero])
    refine takeD (i := 5) (d := (some 34)) (v := undef) rfl rfl (by kernel_rfl) (by kernel_rfl) (by kernel_rfl) (fun _ _ _ h => h) (Or.inr ⟨by kernel_rfl, rfl⟩) (by assumption) ?_
    (try simp only [Act.put]); (try simp only [List.setIfInBounds_toArray]); (try simp only [List.set_cons_succ]); (try simp only [List.set_cons_zero])
    refine takeD (i := 6) (d := (some 35)) (v := undef) rfl rfl (by kernel_rfl) (by kernel_rfl) (by kernel_rfl) (fun _ _ _ h => h) (Or.inr ⟨by kernel_rfl, rfl⟩) (by assumption) ?_
    (try simp only [Act.put]); (try simp only [List.setIfInBounds_toArray]); (try simp only [List.set_cons_succ]); (try simp only [List.set_cons_zero])
    refine takeD (i := 7) (d := (some 36)) (v := (.bool true)) rfl rfl (by kernel_rfl) (by kernel_rfl) (by kernel_rfl) (fun _ _ _ h => h) (Or.inl ⟨by kernel_rfl, ?_⟩) (by assumption) ?_
    · intro wS hSw
      (try dsimp only at hSw)
      go_simp
    (try simp only [Act.put]); (try simp only [List.setIfInBounds_toArray]); (try simp only [List.set_cons_succ]); (try simp only [List.set_cons_zero])
    refine takeD (i := 8) (d := (some 37)) (v := (.bool true)) rfl rfl (by kernel_rfl) (by kernel_rfl) (by kernel_rfl) (fun _ _ _ h => h) (Or.inl ⟨by kernel_rfl, ?_⟩) (by assumption) ?_
    · intro wS hSw
      (try dsimp only at hSw)
      go_simp
    (try simp only [Act.put]); (try simp only [List.setIfInBounds_toArray]); (try simp only [List.set_cons_succ]); (try simp only [List.set_cons_zero])
    refine takeD (i := 9) (d := (some 38)) (v := undef) rfl rfl (by kernel_rfl) (by kernel_rfl) (by kernel_rfl) (fun _ _ _ h => h) (Or.inr ⟨by kernel_rfl, rfl⟩) (by assumption) ?_
    (try simp only [Act.put]); (try simp only [List.setIfInBounds_toArray]); (try simp only [List.set_cons_succ]); (try simp only [List.set_cons_zero])
    refine takeD (i := 10) (d := (some 39)) (v := undef) rfl rfl (by kernel_rfl) (by kernel_rfl) (by kernel_rfl) (fun _ _ _ h => h) (Or.inr ⟨by kernel_rfl, rfl⟩) (by assumption) ?_
    (try simp only [Act.put]); (try simp only [List.setIfInBounds_toArray]); (try simp only [List.set_cons_succ]); (try simp only [List.set_cons_zero])
    refine takeD (i := 11) (d := (some 40)) (v := undef) rfl rfl (by kernel_rfl) (by kernel_rfl) (by kernel_rfl) (fun _ _ _ h => h) (Or.inr ⟨by kernel_rfl, rfl⟩) (by assumption) ?_
    (try simp only [Act.put]); (try simp only [List.setIfInBounds_toArray]); (try simp only [List.set_cons_succ]); (try simp only [List.set_cons_zero])
    refine takeD (i := 12) (d := (some 41)) (v := undef) rfl rfl (by kernel_rfl) (by kernel_rfl) (by kernel_rfl) (fun _ _ _ h => h) (Or.inr ⟨by kernel_rfl, rfl⟩) (by assumption) ?_
    (try simp only [Act.put]); (try simp only [List.setIfInBounds_toArray]); (try simp only [List.set_cons_succ]); (try simp only [List.set_cons_zero])
    refine takeD (i := 13) (d := (some 42)) (v := undef) rfl rfl (by kernel_rfl) (by kernel_rfl) (by kernel_rfl) (fun _ _ _ h => h) (Or.inr ⟨by kernel_rfl, rfl⟩) (by assumption) ?_
    (try simp only [Act.put]); (try simp only [List.setIfInBounds_toArray]); (try simp only [List.set_cons_succ]); (try simp only [List.set_cons_zero])
    refine takeD (i := 14) (d := (some 43)) (v := undef) rfl rfl (by kernel_rfl) (by kernel_rfl) (by kernel_rfl) (fun _ _ _ h => h) (Or.inr ⟨by kernel_rfl, rfl⟩) (by assumption) ?_
    (try simp only [Act.put]); (try simp only [List.setIfInBounds_toArray]); (try simp only [List.set_cons_succ]); (try simp only [List.set_cons_zero])
    refine takeD (i := 15) (d := (some 44)) (v := undef) rfl rfl (by kernel_rfl) (by kernel_rfl) (by kernel_rfl) (fun _ _ _ h => h) (Or.inr ⟨by kernel_rfl, rfl⟩) (by assumption) ?_
    (try simp only [Act.put]); (try simp only [List.setIfInBounds_toArray]); (try simp only [List.set_cons_succ]); (try simp only [List.set_cons_zero])
    refine takeD (i := 16) (d := (some 45)) (v := (.bool true)) rfl rfl (by kernel_rfl) (by kernel_rfl) (by kernel_rfl) (fun _ _ _ h => h) (Or.inl ⟨by kernel_rfl, ?_⟩) (by assumption) ?_
    · intro wS hSw
      (try dsimp only at hSw)
      go_simp
    (try simp only [Act.put]); (try simp only [List.setIfInBounds_toArray]); (try simp only [List.set_cons_succ]); (try simp only [List.set_cons_zero])
    refine wpAnyH_done (by kernel_rfl) ?_ _
    go_wp2_with fail
    go_ret3
    obtain ⟨g1, g2, g3⟩ := YY.out
    exact ⟨by subst g1 g2 g3; rfl, hn ▸ B4.out.trans (hb.mono B4.out.size)⟩
theorem split_impl {t h f d p q : Int} {y : Bool} (h0 : SplAt t h f d p q y) (w : World) :
    Calls Tryd.prog 47 #[ivV t h f d] w fun e w' => e = .returned (.tuple #[.int .i64 p, .int .i64 q, .bool y]) ∧ Below w.heap.size w w' := by
  rcases h0 with ⟨h1, rfl, rfl, rfl⟩ | ⟨h1, a, b, r, h2, h3, h4, h5, h6⟩
  · exact split_impl_no h1 w
  · exact split_impl_yes h1 h2 h3 h5 h6 w
end Go.Proofs.YtdnlebijmiaclabDoor
