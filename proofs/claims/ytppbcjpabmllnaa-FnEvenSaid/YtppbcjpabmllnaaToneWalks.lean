/- Contract of the Go function impl.Clamp. -/
import Derived.Test.YtppbcjpabmllnaaProg
import Derived.Test.YtppbcjpabmllnaaNumBase
import Derived.WalkKit
import Derived.Below
import Derived.Laws.StructEq
import Derived.Laws.NewDeep
import Derived.Deep.QuietTactic
import Derived.Deep.RegionHeld3
import Derived.StillTailTactics
import Derived.BigQuiet
import Derived.RegionTactic
import Derived.IntWalk
import Derived.Lib.Hide
import Derived.Lib.SmallJoins
namespace Go.Proofs.Ytppbcjpabmllnaa
open Go.RowKit
set_option linter.unusedVariables false
def clampI (n lo hi : Int) : Int := if hi < lo ∨ n < lo then lo else if hi < n then hi else n
end Go.Proofs.Ytppbcjpabmllnaa
/- Contracts of laws.toInterval, spec.l01In, spec.IntervalOk, impl.clampedInterval and impl.IntervalOk. -/
namespace Go.Proofs.Ytppbcjpabmllnaa
open Go.RowKit Go.Joins
set_option linter.unusedVariables false
/-- The value of an interval. -/
abbrev ivV (a b c d : Int) : Value := .agg #[.int .i64 a, .int .i64 b, .int .i64 c, .int .i64 d]
/-- IntervalOk. -/
def okI (a b c d : Int) : Bool := decide (1 ≤ d ∧ d ≤ 12 ∧ -400 ≤ a ∧ a ≤ 400 ∧ -400 ≤ b ∧ b ≤ 400 ∧ -400 ≤ c ∧ c ≤ 400)
theorem ret_boolT {x y : Bool} (h : x = y) : Ending.returned (.bool x) = .returned (.bool y) := by rw [h]
theorem inT_any (n lo hi : Int) (w : World) : Calls Try.prog 37 #[.int .i64 n, .int .i64 lo, .int .i64 hi] w fun e w' => e = .returned (.bool (decide (lo ≤ n ∧ n ≤ hi))) ∧ w = w' := by
  by_cases h1 : lo ≤ n
  · by_cases h2 : n ≤ hi
    · have R := Lib.hid (And.intro h1 h2)
      go_enter Try.func37, Try.ntmps37
      go_wp2
      go_ret
      exact ⟨ret_boolT (decide_eq_true R.out).symm, rfl⟩
    · have R := Lib.hid h2
      go_enter Try.func37, Try.ntmps37
      go_wp2
      go_ret
      exact ⟨ret_boolT (decide_eq_false (fun h => by have := R.out; omega)).symm, rfl⟩
  · have R := Lib.hid h1
    go_enter Try.func37, Try.ntmps37
    go_wp2
    go_ret
    exact ⟨ret_boolT (by have := R.out; simp; omega), rfl⟩
end Go.Proofs.Ytppbcjpabmllnaa
/- Contracts of impl.clampedInterval and impl.IntervalOk. -/
namespace Go.Proofs.Ytppbcjpabmllnaa
open Go.RowKit Go.Joins
set_option linter.unusedVariables false
theorem bcellT {W w1 : World} (hb : Below W.heap.size W w1) : (∀ b o, b < W.heap.size → w1.cell? ⟨b, o, none⟩ = W.cell? ⟨b, o, none⟩) ∧ (∀ b o, b < W.heap.size → w1.frozen? ⟨b, o, none⟩ = W.frozen? ⟨b, o, none⟩) :=
  ⟨fun b o h => hb.cell (p := ⟨b, o, none⟩) h, fun b o h => hb.frozen (p := ⟨b, o, none⟩) h⟩
theorem okI_of (a b c d : Int) : okI a b c d = ((a == clampI a (-400) 400) && (b == clampI b (-400) 400) && (c == clampI c (-400) 400) && (d == clampI d 1 12)) := by
  have k : ∀ n lo hi : Int, lo ≤ hi → (n == clampI n lo hi) = decide (lo ≤ n ∧ n ≤ hi) := by
    intro n lo hi h
    rw [Bool.eq_iff_iff]
    simp only [beq_iff_eq, decide_eq_true_eq]
    unfold clampI
    (repeat' split) <;> omega
  rw [k _ _ _ (by omega), k _ _ _ (by omega), k _ _ _ (by omega), k _ _ _ (by omega)]
  unfold okI
  simp only [← Bool.decide_and]
  congr 1
  simp only [eq_iff_iff]
  constructor <;> intro h <;> omega
end Go.Proofs.Ytppbcjpabmllnaa
/- Contract of laws.eqInterval at two equal intervals. -/
namespace Go.Proofs.Ytppbcjpabmllnaa
open Go.RowKit Go.Joins
set_option linter.unusedVariables false
end Go.Proofs.Ytppbcjpabmllnaa
/- Contracts of impl.commonDivisor and spec.l03Gcd: both answer the greatest common divisor. -/
namespace Go.Proofs.Ytppbcjpabmllnaa
open Go.RowKit
set_option linter.unusedVariables false
/-- An int, and nothing of memory has changed. -/
def QuietInt (z : Int) (w : World) (e : Ending) (w' : World) : Prop := e = .returned (.int .i64 z) ∧ ∃ n, w' = w.drewN n
theorem natAbs_pos_eq (a : Int) (h : -a ≤ a) : (a.natAbs : Int) = a := by omega
theorem natAbs_neg_eq (a : Int) (h : ¬ -a ≤ a) : (a.natAbs : Int) = -a := by omega
end Go.Proofs.Ytppbcjpabmllnaa
/- Contracts of impl.PureOf and spec.PureOf, and the walk of laws.FnExactPureOf. -/
namespace Go.Proofs.Ytppbcjpabmllnaa
open Go.RowKit Go.Joins
set_option linter.unusedVariables false
end Go.Proofs.Ytppbcjpabmllnaa
