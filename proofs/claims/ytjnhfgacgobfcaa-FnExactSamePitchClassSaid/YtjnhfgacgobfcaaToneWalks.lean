/- Contracts of laws.toInterval, spec.l01In, spec.IntervalOk, impl.clampedInterval and impl.IntervalOk. -/
import Derived.Test.YtjnhfgacgobfcaaProg
import Derived.Test.YtjnhfgacgobfcaaToneMath
import Derived.Test.YtjnhfgacgobfcaaClampImpl
import Derived.Laws.StructEq
import Derived.Laws.NewDeep
import Derived.Deep.QuietTactic
import Derived.Deep.RegionHeld3
import Derived.StillTailTactics
import Derived.BigQuiet
import Derived.RegionTactic
import Derived.IntWalk
import Derived.Lib.Hide
import Derived.Lib.SmallJoins
namespace Go.Proofs.Ytjnhfgacgobfcaa
open Go.RowKit Go.Joins
set_option linter.unusedVariables false
/-- The value of an interval. -/
abbrev ivV (a b c d : Int) : Value := .agg #[.int .i64 a, .int .i64 b, .int .i64 c, .int .i64 d]
/-- IntervalOk. -/
def okI (a b c d : Int) : Bool := decide (1 ≤ d ∧ d ≤ 12 ∧ -400 ≤ a ∧ a ≤ 400 ∧ -400 ≤ b ∧ b ≤ 400 ∧ -400 ≤ c ∧ c ≤ 400)
theorem ret_boolT {x y : Bool} (h : x = y) : Ending.returned (.bool x) = .returned (.bool y) := by rw [h]
theorem toInterval_any (a b c d : Int) (w : World) :
    Calls Try.prog 8 #[ivV a b c d] w fun e w' => e = .returned (ivV a b c d) ∧ Below w.heap.size w w' := by
  go_enter Try.func8, Try.ntmps8
  go_wp2
  refine bodyPost_ret (v := ivV a b c d) (by simp [results, Try.results8, go_sem]) rfl ⟨rfl, ?_⟩
  exact below_alloc3 _ _ _ _
theorem inT_any (n lo hi : Int) (w : World) : Calls Try.prog 27 #[.int .i64 n, .int .i64 lo, .int .i64 hi] w fun e w' => e = .returned (.bool (decide (lo ≤ n ∧ n ≤ hi))) ∧ w = w' := by
  by_cases h1 : lo ≤ n
  · by_cases h2 : n ≤ hi
    · have R := Lib.hid (And.intro h1 h2)
      go_enter Try.func27, Try.ntmps27
      go_wp2
      go_ret
      exact ⟨ret_boolT (decide_eq_true R.out).symm, rfl⟩
    · have R := Lib.hid h2
      go_enter Try.func27, Try.ntmps27
      go_wp2
      go_ret
      exact ⟨ret_boolT (decide_eq_false (fun h => by have := R.out; omega)).symm, rfl⟩
  · have R := Lib.hid h1
    go_enter Try.func27, Try.ntmps27
    go_wp2
    go_ret
    exact ⟨ret_boolT (by have := R.out; simp; omega), rfl⟩
theorem sintervalOk_any (a b c d : Int) (w : World) :
    Calls Try.prog 17 #[ivV a b c d] w fun e w' => e = .returned (.bool (okI a b c d)) ∧ Below w.heap.size w w' := by
  have key : ∀ x : Bool, x = decide (1 ≤ d ∧ d ≤ 12) → ∀ y : Bool, y = decide (-400 ≤ a ∧ a ≤ 400) → ∀ z : Bool, z = decide (-400 ≤ b ∧ b ≤ 400) → ∀ t : Bool, t = decide (-400 ≤ c ∧ c ≤ 400) →
      okI a b c d = (x && y && z && t) := by
    intro x hx y hy z hz t ht
    subst hx hy hz ht
    unfold okI
    simp only [← Bool.decide_and]
    congr 1
    simp only [eq_iff_iff]
    constructor <;> intro h <;> omega
  obtain ⟨x, hx⟩ : ∃ x : Bool, decide (1 ≤ d ∧ d ≤ 12) = x := ⟨_, rfl⟩
  obtain ⟨y, hy⟩ : ∃ x : Bool, decide (-400 ≤ a ∧ a ≤ 400) = x := ⟨_, rfl⟩
  obtain ⟨z, hz⟩ : ∃ x : Bool, decide (-400 ≤ b ∧ b ≤ 400) = x := ⟨_, rfl⟩
  obtain ⟨t, ht⟩ : ∃ x : Bool, decide (-400 ≤ c ∧ c ≤ 400) = x := ⟨_, rfl⟩
  have K := Lib.hid (key x hx.symm y hy.symm z hz.symm t ht.symm)
  have hx := Lib.hid hx
  have hy := Lib.hid hy
  have hz := Lib.hid hz
  have ht := Lib.hid ht
  clear key
  cases x
  · go_enter Try.func17, Try.ntmps17
    go_wp2_with fail
    refine (inT_any _ _ _ _).mono ?_
    rintro e w' ⟨rfl, rfl⟩
    rw [hx.out]
    go_wp2_with fail
    go_ret
    exact ⟨ret_boolT K.out.symm, below_alloc1 _ _⟩
  · cases y
    · go_enter Try.func17, Try.ntmps17
      go_wp2_with fail
      refine (inT_any _ _ _ _).mono ?_
      rintro e w' ⟨rfl, rfl⟩
      rw [hx.out]
      go_wp2_with fail
      refine (inT_any _ _ _ _).mono ?_
      rintro e w' ⟨rfl, rfl⟩
      rw [hy.out]
      go_wp2_with fail
      go_ret
      exact ⟨ret_boolT K.out.symm, below_alloc1 _ _⟩
    · cases z
      · go_enter Try.func17, Try.ntmps17
        go_wp2_with fail
        refine (inT_any _ _ _ _).mono ?_
        rintro e w' ⟨rfl, rfl⟩
        rw [hx.out]
        go_wp2_with fail
        refine (inT_any _ _ _ _).mono ?_
        rintro e w' ⟨rfl, rfl⟩
        rw [hy.out]
        go_wp2_with fail
        refine (inT_any _ _ _ _).mono ?_
        rintro e w' ⟨rfl, rfl⟩
        rw [hz.out]
        go_wp2_with fail
        go_ret
        exact ⟨ret_boolT K.out.symm, below_alloc1 _ _⟩
      · go_enter Try.func17, Try.ntmps17
        go_wp2_with fail
        refine (inT_any _ _ _ _).mono ?_
        rintro e w' ⟨rfl, rfl⟩
        rw [hx.out]
        go_wp2_with fail
        refine (inT_any _ _ _ _).mono ?_
        rintro e w' ⟨rfl, rfl⟩
        rw [hy.out]
        go_wp2_with fail
        refine (inT_any _ _ _ _).mono ?_
        rintro e w' ⟨rfl, rfl⟩
        rw [hz.out]
        go_wp2_with fail
        refine (inT_any _ _ _ _).mono ?_
        rintro e w' ⟨rfl, rfl⟩
        rw [ht.out]
        go_wp2_with fail
        go_ret
        exact ⟨ret_boolT (by rw [K.out]; simp), below_alloc1 _ _⟩
end Go.Proofs.Ytjnhfgacgobfcaa
