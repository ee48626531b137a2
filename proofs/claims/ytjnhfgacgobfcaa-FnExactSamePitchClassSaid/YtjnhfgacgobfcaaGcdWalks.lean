/- Contracts of impl.commonDivisor and spec.l03Gcd: both answer the greatest common divisor. -/
import Derived.Test.YtjnhfgacgobfcaaProg
import Derived.Test.YtjnhfgacgobfcaaToneMath
import Derived.Deep.QuietTactic
import Derived.BigQuiet
import Derived.IntWalk
import Derived.Lib.Hide
namespace Go.Proofs.Ytjnhfgacgobfcaa
open Go.RowKit
set_option linter.unusedVariables false
/-- An int, and nothing of memory has changed. -/
def QuietInt (z : Int) (w : World) (e : Ending) (w' : World) : Prop := e = .returned (.int .i64 z) ∧ ∃ n, w' = w.drewN n
set_option maxHeartbeats 400000 in
theorem gcd_impl (a b : Int) (w : World) (ha : -1000000 ≤ a) (ha' : a ≤ 1000000) (hb : -1000000 ≤ b) (hb' : b ≤ 1000000) :
    Calls Try.prog 32 #[.int .i64 a, .int .i64 b] w (QuietInt (gcdI a b) w) := by
  go_enter Try.func32, Try.ntmps32
  go_wp2_with fail
  go_loopw [0, 1] (fun s t wr => ∃ x y : Int, ∃ d : Nat, s = .int .i64 x ∧ t = .int .i64 y ∧ -1000000 ≤ x ∧ x ≤ 1000000 ∧ -1000000 ≤ y ∧ y ≤ 1000000 ∧ Hid (gcdI x y = gcdI a b) ∧ wr = w.drewN d) (fun _ t _ => (intOf t).natAbs)
  case atStart => exact ⟨a, b, 0, rfl, rfl, ha, ha', hb, hb', Lib.hid rfl, rfl⟩
  case round =>
    obtain ⟨x, y, d, rfl, rfl, hx, hx', hy, hy', HG, rfl⟩ := hrel
    by_cases h : y = 0
    · subst h
      have hg := HG.out
      rw [gcdI_zero] at hg
      have HH := Lib.hid hg
      clear hg
      go_wp2_with fail
      all_goals
        go_ret
        refine ⟨ret_int ?_, d, rfl⟩
        rw [← HH.out]
        clear HG HH
        omega
    · have hb2 := tmod_bd x y 1000000 h hy hy'
      have hm := tmod_lt_abs x y h
      have hs := (gcdI_step x y).trans HG.out
      have HS := Lib.hid hs
      clear hs
      have h1 := hb2.1
      have h2 := hb2.2
      clear hb2
      have hne : (y != 0) = true := by simpa using h
      have hq : (y == 0) = false := by simpa using h
      have hw : IntKind.i64.wrap (x.tmod y) = x.tmod y := IntWalk.i64_in _ (by omega)
      go_wp2_with fail
      go_region
      go_wp2_with fail
      go_roundw
      case rel => exact ⟨y, _, d + 1, rfl, rfl, hy, hy', h1, h2, HS, rfl⟩
      case measure => simp only [intOf]; exact hm
theorem natAbs_pos_eq (a : Int) (h : -a ≤ a) : (a.natAbs : Int) = a := by omega
theorem natAbs_neg_eq (a : Int) (h : ¬ -a ≤ a) : (a.natAbs : Int) = -a := by omega
set_option maxHeartbeats 400000 in
theorem gcd_spec0 (a b x y : Int) (w : World) (hx0 : 0 ≤ x) (hx1 : x ≤ 1000000) (hy0 : 0 ≤ y) (hy1 : y ≤ 1000000) (ha : x = max a (-a)) (hb : y = max b (-b)) (hal : -1000000 ≤ a) (hal' : a ≤ 1000000) (hbl : -1000000 ≤ b) (hbl' : b ≤ 1000000) :
    Calls Try.prog 28 #[.int .i64 a, .int .i64 b] w (QuietInt (gcdI a b) w) := by
  have hxa : x = (a.natAbs : Int) := by omega
  have hyb : y = (b.natAbs : Int) := by omega
  have hgg : gcdI x y = gcdI a b := by rw [hxa, hyb, gcdI_abs]
  have HGG := Lib.hid hgg
  have HX := Lib.hid ha
  have HY := Lib.hid hb
  clear hxa hyb hgg ha hb
  by_cases h1 : -a ≤ a
  all_goals by_cases h2 : -b ≤ b
  all_goals
    go_enter Try.func28, Try.ntmps28
    go_wp2_with fail
    go_loopw [0, 1] (fun s t wr => ∃ x y : Int, ∃ d : Nat, s = .int .i64 x ∧ t = .int .i64 y ∧ 0 ≤ x ∧ x ≤ 1000000 ∧ 0 ≤ y ∧ y ≤ 1000000 ∧ Hid (gcdI x y = gcdI a b) ∧ wr = w.drewN d) (fun _ t _ => (intOf t).natAbs)
    case atStart => exact ⟨x, y, 0, by rw [HX.out]; go_num, by rw [HY.out]; go_num, hx0, hx1, hy0, hy1, HGG, rfl⟩
    case round =>
      clear HX HY HGG hx0 hx1 hy0 hy1 x y
      obtain ⟨x, y, d, rfl, rfl, hx, hx', hy, hy', HG, rfl⟩ := hrel
      by_cases h : y = 0
      · subst h
        have hg := HG.out
        rw [gcdI_zero] at hg
        have HH := Lib.hid hg
        clear hg
        go_wp2_with fail
        go_ret
        refine ⟨ret_int ?_, d, rfl⟩
        rw [← HH.out]
        clear HG HH
        omega
      · have hm := tmod_lt_abs x y h
        have hs := (gcdI_step x y).trans HG.out
        have hm0 : 0 ≤ x.tmod y := Int.tmod_nonneg _ hx
        rw [Int.tmod_eq_emod_of_nonneg hx] at hm hs hm0
        have HS := Lib.hid hs
        clear hs
        have hp : 0 < y := by omega
        go_wp2_with fail
        go_region
        go_wp2_with fail
        go_roundw
        case rel => exact ⟨y, x % y, d + 1, rfl, rfl, hy, hy', hm0, by omega, HS, rfl⟩
        case measure => simp only [intOf]; exact hm
theorem gcd_spec (a b : Int) (w : World) (ha : -1000000 ≤ a) (ha' : a ≤ 1000000) (hb : -1000000 ≤ b) (hb' : b ≤ 1000000) :
    Calls Try.prog 28 #[.int .i64 a, .int .i64 b] w (QuietInt (gcdI a b) w) :=
  gcd_spec0 a b _ _ w (by omega) (by omega) (by omega) (by omega) rfl rfl ha ha' hb hb'
end Go.Proofs.Ytjnhfgacgobfcaa
