/- Contract of the Go function impl.Clamp. -/
import Derived.Test.YtgoaofkbegfinaaProg
import Derived.Test.YtgoaofkbegfinaaNumBase
import Derived.WalkKit
import Derived.Below
import Derived.Laws.StructEq
import Derived.Laws.NewDeep
import Derived.Deep.QuietTactic
import Derived.Deep.RegionHeld3
import Derived.StillTailTactics
import Derived.BigQuiet
import Derived.RegionTactic
import Derived.IntWalk
import Derived.Lib.Hide
import Derived.Lib.SmallJoins
namespace Go.Proofs.Ytgoaofkbegfinaa
open Go.RowKit
set_option linter.unusedVariables false
def clampI (n lo hi : Int) : Int := if hi < lo ∨ n < lo then lo else if hi < n then hi else n
theorem clamp_impl (n lo hi : Int) (w : World) : Calls Try.prog 32 #[.int .i64 n, .int .i64 lo, .int .i64 hi] w fun e w' => e = .returned (.int .i64 (clampI n lo hi)) ∧ w = w' := by
  by_cases h1 : n < lo
  · go_enter Try.func32, Try.ntmps32
    go_wp2
    go_ret
    exact ⟨ret_int (by unfold clampI; (repeat' split) <;> omega), rfl⟩
  · by_cases h2 : hi < lo
    · go_enter Try.func32, Try.ntmps32
      go_wp2
      go_ret
      exact ⟨ret_int (by unfold clampI; (repeat' split) <;> omega), rfl⟩
    · by_cases h3 : hi < n
      · go_enter Try.func32, Try.ntmps32
        go_wp2
        go_ret
        exact ⟨ret_int (by unfold clampI; (repeat' split) <;> omega), rfl⟩
      · go_enter Try.func32, Try.ntmps32
        go_wp2
        go_ret
        exact ⟨ret_int (by unfold clampI; (repeat' split) <;> omega), rfl⟩
end Go.Proofs.Ytgoaofkbegfinaa
/- Contracts of laws.toInterval, spec.l01In, spec.IntervalOk, impl.clampedInterval and impl.IntervalOk. -/
namespace Go.Proofs.Ytgoaofkbegfinaa
open Go.RowKit Go.Joins
set_option linter.unusedVariables false
/-- The value of an interval. -/
abbrev ivV (a b c d : Int) : Value := .agg #[.int .i64 a, .int .i64 b, .int .i64 c, .int .i64 d]
/-- IntervalOk. -/
def okI (a b c d : Int) : Bool := decide (1 ≤ d ∧ d ≤ 12 ∧ -400 ≤ a ∧ a ≤ 400 ∧ -400 ≤ b ∧ b ≤ 400 ∧ -400 ≤ c ∧ c ≤ 400)
theorem ret_boolT {x y : Bool} (h : x = y) : Ending.returned (.bool x) = .returned (.bool y) := by rw [h]
theorem inT_any (n lo hi : Int) (w : World) : Calls Try.prog 29 #[.int .i64 n, .int .i64 lo, .int .i64 hi] w fun e w' => e = .returned (.bool (decide (lo ≤ n ∧ n ≤ hi))) ∧ w = w' := by
  by_cases h1 : lo ≤ n
  · by_cases h2 : n ≤ hi
    · have R := Lib.hid (And.intro h1 h2)
      go_enter Try.func29, Try.ntmps29
      go_wp2
      go_ret
      exact ⟨ret_boolT (decide_eq_true R.out).symm, rfl⟩
    · have R := Lib.hid h2
      go_enter Try.func29, Try.ntmps29
      go_wp2
      go_ret
      exact ⟨ret_boolT (decide_eq_false (fun h => by have := R.out; omega)).symm, rfl⟩
  · have R := Lib.hid h1
    go_enter Try.func29, Try.ntmps29
    go_wp2
    go_ret
    exact ⟨ret_boolT (by have := R.out; simp; omega), rfl⟩
end Go.Proofs.Ytgoaofkbegfinaa
/- Contracts of impl.clampedInterval and impl.IntervalOk. -/
namespace Go.Proofs.Ytgoaofkbegfinaa
open Go.RowKit Go.Joins
set_option linter.unusedVariables false
theorem bcellT {W w1 : World} (hb : Below W.heap.size W w1) : (∀ b o, b < W.heap.size → w1.cell? ⟨b, o, none⟩ = W.cell? ⟨b, o, none⟩) ∧ (∀ b o, b < W.heap.size → w1.frozen? ⟨b, o, none⟩ = W.frozen? ⟨b, o, none⟩) :=
  ⟨fun b o h => hb.cell (p := ⟨b, o, none⟩) h, fun b o h => hb.frozen (p := ⟨b, o, none⟩) h⟩
theorem okI_of (a b c d : Int) : okI a b c d = ((a == clampI a (-400) 400) && (b == clampI b (-400) 400) && (c == clampI c (-400) 400) && (d == clampI d 1 12)) := by
  have k : ∀ n lo hi : Int, lo ≤ hi → (n == clampI n lo hi) = decide (lo ≤ n ∧ n ≤ hi) := by
    intro n lo hi h
    rw [Bool.eq_iff_iff]
    simp only [beq_iff_eq, decide_eq_true_eq]
    unfold clampI
    (repeat' split) <;> omega
  rw [k _ _ _ (by omega), k _ _ _ (by omega), k _ _ _ (by omega), k _ _ _ (by omega)]
  unfold okI
  simp only [← Bool.decide_and]
  congr 1
  simp only [eq_iff_iff]
  constructor <;> intro h <;> omega
end Go.Proofs.Ytgoaofkbegfinaa
/- Contract of laws.eqInterval at two equal intervals. -/
namespace Go.Proofs.Ytgoaofkbegfinaa
open Go.RowKit Go.Joins
set_option linter.unusedVariables false
end Go.Proofs.Ytgoaofkbegfinaa
/- Contracts of impl.commonDivisor and spec.l03Gcd: both answer the greatest common divisor. -/
namespace Go.Proofs.Ytgoaofkbegfinaa
open Go.RowKit
set_option linter.unusedVariables false
/-- An int, and nothing of memory has changed. -/
def QuietInt (z : Int) (w : World) (e : Ending) (w' : World) : Prop := e = .returned (.int .i64 z) ∧ ∃ n, w' = w.drewN n
set_option maxHeartbeats 400000 in
theorem gcd_impl (a b : Int) (w : World) (ha : -1000000 ≤ a) (ha' : a ≤ 1000000) (hb : -1000000 ≤ b) (hb' : b ≤ 1000000) :
    Calls Try.prog 28 #[.int .i64 a, .int .i64 b] w (QuietInt (gcdI a b) w) := by
  go_enter Try.func28, Try.ntmps28
  go_wp2_with fail
  go_loopw [0, 1] (fun s t wr => ∃ x y : Int, ∃ d : Nat, s = .int .i64 x ∧ t = .int .i64 y ∧ -1000000 ≤ x ∧ x ≤ 1000000 ∧ -1000000 ≤ y ∧ y ≤ 1000000 ∧ Hid (gcdI x y = gcdI a b) ∧ wr = w.drewN d) (fun _ t _ => (intOf t).natAbs)
  case atStart => exact ⟨a, b, 0, rfl, rfl, ha, ha', hb, hb', Lib.hid rfl, rfl⟩
  case round =>
    obtain ⟨x, y, d, rfl, rfl, hx, hx', hy, hy', HG, rfl⟩ := hrel
    by_cases h : y = 0
    · subst h
      have hg := HG.out
      rw [gcdI_zero] at hg
      have HH := Lib.hid hg
      clear hg
      go_wp2_with fail
      all_goals
        go_ret
        refine ⟨ret_int ?_, d, rfl⟩
        rw [← HH.out]
        clear HG HH
        omega
    · have hb2 := tmod_bd x y 1000000 h hy hy'
      have hm := tmod_lt_abs x y h
      have hs := (gcdI_step x y).trans HG.out
      have HS := Lib.hid hs
      clear hs
      have h1 := hb2.1
      have h2 := hb2.2
      clear hb2
      have hne : (y != 0) = true := by simpa using h
      have hq : (y == 0) = false := by simpa using h
      have hw : IntKind.i64.wrap (x.tmod y) = x.tmod y := IntWalk.i64_in _ (by omega)
      go_wp2_with fail
      go_region
      go_wp2_with fail
      go_roundw
      case rel => exact ⟨y, _, d + 1, rfl, rfl, hy, hy', h1, h2, HS, rfl⟩
      case measure => simp only [intOf]; exact hm
theorem natAbs_pos_eq (a : Int) (h : -a ≤ a) : (a.natAbs : Int) = a := by omega
theorem natAbs_neg_eq (a : Int) (h : ¬ -a ≤ a) : (a.natAbs : Int) = -a := by omega
set_option maxHeartbeats 400000 in
theorem gcd_spec0 (a b x y : Int) (w : World) (hx0 : 0 ≤ x) (hx1 : x ≤ 1000000) (hy0 : 0 ≤ y) (hy1 : y ≤ 1000000) (ha : x = max a (-a)) (hb : y = max b (-b)) (hal : -1000000 ≤ a) (hal' : a ≤ 1000000) (hbl : -1000000 ≤ b) (hbl' : b ≤ 1000000) :
    Calls Try.prog 30 #[.int .i64 a, .int .i64 b] w (QuietInt (gcdI a b) w) := by
  have hxa : x = (a.natAbs : Int) := by omega
  have hyb : y = (b.natAbs : Int) := by omega
  have hgg : gcdI x y = gcdI a b := by rw [hxa, hyb, gcdI_abs]
  have HGG := Lib.hid hgg
  have HX := Lib.hid ha
  have HY := Lib.hid hb
  clear hxa hyb hgg ha hb
  by_cases h1 : -a ≤ a
  all_goals by_cases h2 : -b ≤ b
  all_goals
    go_enter Try.func30, Try.ntmps30
    go_wp2_with fail
    go_loopw [0, 1] (fun s t wr => ∃ x y : Int, ∃ d : Nat, s = .int .i64 x ∧ t = .int .i64 y ∧ 0 ≤ x ∧ x ≤ 1000000 ∧ 0 ≤ y ∧ y ≤ 1000000 ∧ Hid (gcdI x y = gcdI a b) ∧ wr = w.drewN d) (fun _ t _ => (intOf t).natAbs)
    case atStart => exact ⟨x, y, 0, by rw [HX.out]; go_num, by rw [HY.out]; go_num, hx0, hx1, hy0, hy1, HGG, rfl⟩
    case round =>
      clear HX HY HGG hx0 hx1 hy0 hy1 x y
      obtain ⟨x, y, d, rfl, rfl, hx, hx', hy, hy', HG, rfl⟩ := hrel
      by_cases h : y = 0
      · subst h
        have hg := HG.out
        rw [gcdI_zero] at hg
        have HH := Lib.hid hg
        clear hg
        go_wp2_with fail
        go_ret
        refine ⟨ret_int ?_, d, rfl⟩
        rw [← HH.out]
        clear HG HH
        omega
      · have hm := tmod_lt_abs x y h
        have hs := (gcdI_step x y).trans HG.out
        have hm0 : 0 ≤ x.tmod y := Int.tmod_nonneg _ hx
        rw [Int.tmod_eq_emod_of_nonneg hx] at hm hs hm0
        have HS := Lib.hid hs
        clear hs
        have hp : 0 < y := by omega
        go_wp2_with fail
        go_region
        go_wp2_with fail
        go_roundw
        case rel => exact ⟨y, x % y, d + 1, rfl, rfl, hy, hy', hm0, by omega, HS, rfl⟩
        case measure => simp only [intOf]; exact hm
theorem gcd_spec (a b : Int) (w : World) (ha : -1000000 ≤ a) (ha' : a ≤ 1000000) (hb : -1000000 ≤ b) (hb' : b ≤ 1000000) :
    Calls Try.prog 30 #[.int .i64 a, .int .i64 b] w (QuietInt (gcdI a b) w) :=
  gcd_spec0 a b _ _ w (by omega) (by omega) (by omega) (by omega) rfl rfl ha ha' hb hb'
end Go.Proofs.Ytgoaofkbegfinaa
/- Contracts of impl.PureOf and spec.PureOf, and the walk of laws.FnExactPureOf. -/
namespace Go.Proofs.Ytgoaofkbegfinaa
open Go.RowKit Go.Joins
set_option linter.unusedVariables false
end Go.Proofs.Ytgoaofkbegfinaa
