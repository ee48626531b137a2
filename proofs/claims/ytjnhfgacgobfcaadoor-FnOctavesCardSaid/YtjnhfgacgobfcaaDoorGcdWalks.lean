/- Contracts of impl.commonDivisor and spec.l03Gcd: both answer the greatest common divisor. -/
import Derived.Test.YtjnhfgacgobfcaaDoorProg
import Derived.Test.YtjnhfgacgobfcaaDoorToneMath
import Derived.Deep.QuietTactic
import Derived.BigQuiet
import Derived.IntWalk
import Derived.Lib.Hide
namespace Go.Proofs.YtjnhfgacgobfcaaDoor
open Go.RowKit
set_option linter.unusedVariables false
/-- An int, and nothing of memory has changed. -/
def QuietInt (z : Int) (w : World) (e : Ending) (w' : World) : Prop := e = .returned (.int .i64 z) ∧ ∃ n, w' = w.drewN n
set_option maxHeartbeats 400000 in
theorem gcd_impl (a b : Int) (w : World) (ha : -1000000 ≤ a) (ha' : a ≤ 1000000) (hb : -1000000 ≤ b) (hb' : b ≤ 1000000) :
    Calls Tryd.prog 28 #[.int .i64 a, .int .i64 b] w (QuietInt (gcdI a b) w) := by
  go_enter Tryd.func28, Tryd.ntmps28
  go_wp2_with fail
  go_loopw [0, 1] (fun s t wr => ∃ x y : Int, ∃ d : Nat, s = .int .i64 x ∧ t = .int .i64 y ∧ -1000000 ≤ x ∧ x ≤ 1000000 ∧ -1000000 ≤ y ∧ y ≤ 1000000 ∧ Hid (gcdI x y = gcdI a b) ∧ wr = w.drewN d) (fun _ t _ => (intOf t).natAbs)
  case atStart => exact ⟨a, b, 0, rfl, rfl, ha, ha', hb, hb', Lib.hid rfl, rfl⟩
  case round =>
    obtain ⟨x, y, d, rfl, rfl, hx, hx', hy, hy', HG, rfl⟩ := hrel
    by_cases h : y = 0
    · subst h
      have hg := HG.out
      rw [gcdI_zero] at hg
      have HH := Lib.hid hg
      clear hg
      go_wp2_with fail
      all_goals
        go_ret
        refine ⟨ret_int ?_, d, rfl⟩
        rw [← HH.out]
        clear HG HH
        omega
    · have hb2 := tmod_bd x y 1000000 h hy hy'
      have hm := tmod_lt_abs x y h
      have hs := (gcdI_step x y).trans HG.out
      have HS := Lib.hid hs
      clear hs
      have h1 := hb2.1
      have h2 := hb2.2
      clear hb2
      have hne : (y != 0) = true := by simpa using h
      have hq : (y == 0) = false := by simpa using h
      have hw : IntKind.i64.wrap (x.tmod y) = x.tmod y := IntWalk.i64_in _ (by omega)
      go_wp2_with fail
      go_region
      go_wp2_with fail
      go_roundw
      case rel => exact ⟨y, _, d + 1, rfl, rfl, hy, hy', h1, h2, HS, rfl⟩
      case measure => simp only [intOf]; exact hm
theorem natAbs_pos_eq (a : Int) (h : -a ≤ a) : (a.natAbs : Int) = a := by omega
theorem natAbs_neg_eq (a : Int) (h : ¬ -a ≤ a) : (a.natAbs : Int) = -a := by omega
end Go.Proofs.YtjnhfgacgobfcaaDoor
