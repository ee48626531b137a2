/- Contracts of impl's MapOk and of what it stands on: divisionOf, isDivision, partialsOk, isPartialSteps. -/
import Derived.Test.YtfhefakacjkmiaaDoorMapWalks
namespace Go.Proofs.YtfhefakacjkmiaaDoor
open Go.RowKit Go.Joins
set_option linter.unusedVariables false
/-- The value of the partials' steps. -/
abbrev pairV (b c : Int) : Value := .agg #[.int .i64 b, .int .i64 c]
theorem isSteps_impl (n : Int) (w : World) : Calls Tryd.prog 74 #[.int .i64 n] w fun e w' => e = .returned (.bool (decide (0 ≤ n ∧ n ≤ 200))) ∧ Below w.heap.size w w' := by
  by_cases h1 : 0 ≤ n
  · by_cases h2 : n ≤ 200
    · have R := Lib.hid (And.intro h1 h2)
      go_enter Tryd.func74, Tryd.ntmps74
      go_wp2
      go_ret
      exact ⟨ret_boolT (decide_eq_true R.out).symm, Below.refl _ _⟩
    · have R := Lib.hid h2
      go_enter Tryd.func74, Tryd.ntmps74
      go_wp2
      go_ret
      exact ⟨ret_boolT (decide_eq_false (fun h => by have := R.out; omega)).symm, Below.refl _ _⟩
  · have R := Lib.hid h1
    go_enter Tryd.func74, Tryd.ntmps74
    go_wp2
    go_ret
    exact ⟨ret_boolT (by have := R.out; simp; omega), Below.refl _ _⟩
theorem isDiv_impl (n : Int) (w : World) : Calls Tryd.prog 41 #[.int .i64 n] w fun e w' => e = .returned (.bool (decide (1 ≤ n ∧ n ≤ 60))) ∧ Below w.heap.size w w' := by
  by_cases h1 : 1 ≤ n
  · by_cases h2 : n ≤ 60
    · have R := Lib.hid (And.intro h1 h2)
      go_enter Tryd.func41, Tryd.ntmps41
      go_wp2
      go_ret
      exact ⟨ret_boolT (decide_eq_true R.out).symm, Below.refl _ _⟩
    · have R := Lib.hid h2
      go_enter Tryd.func41, Tryd.ntmps41
      go_wp2
      go_ret
      exact ⟨ret_boolT (decide_eq_false (fun h => by have := R.out; omega)).symm, Below.refl _ _⟩
  · have R := Lib.hid h1
    go_enter Tryd.func41, Tryd.ntmps41
    go_wp2
    go_ret
    exact ⟨ret_boolT (by have := R.out; simp; omega), Below.refl _ _⟩
theorem divOf_impl (a b c : Int) (w : World) : Calls Tryd.prog 48 #[mapV a b c] w fun e w' => e = .returned (mapV a b c) ∧ Below w.heap.size w w' := by
  go_enter Tryd.func48, Tryd.ntmps48
  go_wp2_with fail
  refine bodyPost_ret (v := mapV a b c) (by simp [results, Tryd.results48, go_sem]) rfl ⟨rfl, ?_⟩
  repeat' (first | exact below_alloc2 _ _ _ | (refine Below.setCell ?_ (by simp) _))
def partsB (b c : Int) : Bool := decide (0 ≤ b ∧ b ≤ 200) && decide (0 ≤ c ∧ c ≤ 200)
theorem partsOk_impl (b c : Int) (w : World) : Calls Tryd.prog 55 #[pairV b c] w fun e w' => e = .returned (.bool (partsB b c)) ∧ Below w.heap.size w w' := by
  obtain ⟨x, hx⟩ : ∃ x : Bool, decide (0 ≤ b ∧ b ≤ 200) = x := ⟨_, rfl⟩
  obtain ⟨y, hy⟩ : ∃ x : Bool, decide (0 ≤ c ∧ c ≤ 200) = x := ⟨_, rfl⟩
  have K : Hid (partsB b c = (x && y)) := Lib.hid (by unfold partsB; rw [hx, hy])
  have HX := Lib.hid hx
  have HY := Lib.hid hy
  clear hx hy
  cases x
  · go_enter Tryd.func55, Tryd.ntmps55
    go_wp2_with fail
    refine (isSteps_impl _ _).mono ?_
    rintro e w1 ⟨rfl, hb⟩
    rw [HX.out]
    have kb : Below w.heap.size w w1 := (below_alloc1 w _).trans (hb.mono (by simp))
    clear hb
    go_wp2_with fail
    go_ret
    exact ⟨ret_boolT K.out.symm, kb⟩
  · go_enter Tryd.func55, Tryd.ntmps55
    go_wp2_with fail
    refine (isSteps_impl _ _).mono ?_
    rintro e w1 ⟨rfl, hb⟩
    rw [HX.out]
    obtain ⟨hc, hf⟩ := bcellT hb
    have q1 : w1.cell? ⟨w.heap.size, 1, none⟩ = some (.int .i64 c) := by rw [hc _ _ (by simp)]; simp [go_sem]
    have kb : Below w.heap.size w w1 := (below_alloc1 w _).trans (hb.mono (by simp))
    clear hb hc hf
    go_wp2_with fail
    refine (isSteps_impl _ _).mono ?_
    rintro e w2 ⟨rfl, hb⟩
    rw [HY.out]
    have kb2 : Below w.heap.size w w2 := kb.trans (hb.mono kb.size)
    clear hb kb
    go_wp2_with fail
    go_ret
    exact ⟨ret_boolT (by rw [K.out]; simp), kb2⟩
theorem okM_of (a b c : Int) : okM a b c = (decide (1 ≤ a ∧ a ≤ 60) && partsB b c) := by
  unfold okM partsB
  simp only [← Bool.decide_and]
  congr 1
  simp only [eq_iff_iff]
  constructor <;> intro h <;> omega
theorem mapOk_impl (a b c : Int) (w : World) : Calls Tryd.prog 30 #[mapV a b c] w fun e w' => e = .returned (.bool (okM a b c)) ∧ Below w.heap.size w w' := by
  obtain ⟨x, hx⟩ : ∃ x : Bool, decide (1 ≤ a ∧ a ≤ 60) = x := ⟨_, rfl⟩
  have K : Hid (okM a b c = (x && partsB b c)) := Lib.hid (by rw [okM_of, hx])
  have HX := Lib.hid hx
  clear hx
  cases x
  all_goals
    go_enter Tryd.func30, Tryd.ntmps30
    go_wp2_with fail
    refine (divOf_impl _ _ _ _).mono ?_
    rintro e w1 ⟨rfl, hb⟩
    have B1 := Lib.hid ((below_alloc1 w _).trans (hb.mono (by simp)))
    clear hb
    go_wp2_with fail
    refine (isDiv_impl _ _).mono ?_
    rintro e w2 ⟨rfl, hb⟩
    rw [HX.out]
    obtain ⟨q0, q1, q2, q3⟩ := tri_keep hb tri_alloc
    have B2 := Lib.hid ((B1.out.alloc B1.out.size _).trans (hb.mono (by have := B1.out.size; simp; omega)))
    clear hb B1
    go_wp2_with fail
    first
      | (go_ret; exact ⟨ret_boolT K.out.symm, B2.out⟩)
      | (refine (partsOk_impl _ _ _).mono ?_
         rintro e w3 ⟨rfl, hb⟩
         have B3 := Lib.hid (B2.out.trans (hb.mono B2.out.size))
         clear hb
         go_wp2_with fail
         go_ret
         exact ⟨ret_boolT (by rw [K.out]; simp), B3.out⟩)
end Go.Proofs.YtfhefakacjkmiaaDoor
/- Contracts of impl's inPartials, sixth and nearestSteps. -/
namespace Go.Proofs.YtfhefakacjkmiaaDoor
open Go.RowKit Go.Joins
set_option linter.unusedVariables false
theorem sixth_impl (b c : Int) (w : World) (b0 : 0 ≤ b) (b1 : b ≤ 200) (c0 : 0 ≤ c) (c1 : c ≤ 200) : Calls Tryd.prog 49 #[pairV b c] w fun e w' => e = .returned (.int .i64 (c - b)) ∧ Below w.heap.size w w' := by
  go_enter Tryd.func49, Tryd.ntmps49
  go_wp2_with fail
  go_ret
  exact ⟨rfl, below_alloc1 _ _⟩
theorem inParts_impl {b c t h f d x y : Int} (hx : b * h = x) (hy : c * f = y) (x0 : -1000000 ≤ x) (x1 : x ≤ 1000000) (y0 : -1000000 ≤ y) (y1 : y ≤ 1000000) (w : World) :
    Calls Tryd.prog 61 #[pairV b c, ivV t h f d] w fun e w' => e = .returned (.int .i64 (x + y)) ∧ Below w.heap.size w w' := by
  go_enter Tryd.func61, Tryd.ntmps61
  go_wp2_with fail
  go_ret
  exact ⟨rfl, below_alloc2 _ _ _⟩
end Go.Proofs.YtfhefakacjkmiaaDoor
