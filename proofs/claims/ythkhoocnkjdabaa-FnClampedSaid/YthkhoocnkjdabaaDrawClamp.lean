/- Contract of spec.DrawClamp, and the walk of laws.FnClamped. -/
import Derived.Test.YthkhoocnkjdabaaDrawNum
import Derived.Test.YthkhoocnkjdabaaClampWalks
namespace Go.Proofs.Ythkhoocnkjdabaa
open Go.RowKit
set_option linter.unusedVariables false
/-- Three ints; what was there is as it was. -/
def Drawn3 (W : World) (e : Ending) (w' : World) : Prop := ∃ x y z : Int, e = .returned (.tuple #[.int .i64 x, .int .i64 y, .int .i64 z]) ∧ Below W.heap.size W w'
set_option maxHeartbeats 400000 in
theorem drawClamp_any {W : World} {a : Option Addr} {len cap : Nat} {zs : List Int} (hr : IsRow .u8 W a len cap zs) :
    Calls Try.prog 10 #[.slice a len cap] W (Drawn3 W) := by
  go_enter Try.func10, Try.ntmps10
  go_wp2_with fail
  refine (new_any hr).mono ?_
  rintro e w1 ⟨b, rfl, hc1⟩
  go_wp2_with fail
  refine (once_any hc1 _).mono ?_
  rintro e w2 ⟨x, rfl, hc2, hg2⟩
  cases x
  · go_wp2_with fail
    refine (below_any hc2 _).mono ?_
    rintro e w3 ⟨y, ⟨hy0, _, hy1⟩, rfl, hc3, hg3⟩
    have hy2 := hy1 (by omega)
    clear hy1
    go_wp2_with fail
    refine (below_any hc3 _).mono ?_
    rintro e w4 ⟨z, ⟨hz0, _, hz1⟩, rfl, hc4, hg4⟩
    have hz2 := hz1 (by omega)
    clear hz1
    go_wp2_with fail
    refine (below_any hc4 _).mono ?_
    rintro e w5 ⟨u, ⟨hu0, _, hu1⟩, rfl, hc5, hg5⟩
    have hu2 := hu1 (by omega)
    clear hu1
    go_wp2_with fail
    go_ret3
    exact ⟨_, _, _, rfl, hc5.below⟩
  · go_wp2_with fail
    refine (number_any hc2).mono ?_
    rintro e w3 ⟨y, hy, rfl, hc3, hg3⟩
    go_wp2_with fail
    refine (number_any hc3).mono ?_
    rintro e w4 ⟨z, hz, rfl, hc4, hg4⟩
    go_wp2_with fail
    refine (number_any hc4).mono ?_
    rintro e w5 ⟨u, hu, rfl, hc5, hg5⟩
    go_wp2_with fail
    go_ret3
    exact ⟨_, _, _, rfl, hc5.below⟩
theorem big_any (a : Option Addr) (len cap : Nat) (w : World) (h : len ≤ 9223372036854775807) : Calls Try.prog 9 #[.slice a len cap] w fun e w' => e = .returned (.bool (decide (1048576 < (len : Int)))) ∧ w = w' := by
  go_enter Try.func9, Try.ntmps9
  go_wp2
  go_ret
  exact ⟨rfl, rfl⟩
theorem row_len {k : IntKind} {W : World} {a : Option Addr} {len cap : Nat} {zs : List Int} (hr : IsRow k W a len cap zs) : len ≤ 9223372036854775807 := by
  rcases hr with ⟨_, h1, _⟩ | ⟨x, _, h1, h2, _⟩
  · omega
  · unfold maxLen at h2; omega
set_option maxHeartbeats 1000000 in
theorem walk_FnClamped (a0 : Option Addr) (len0 cap0 : Nat) (z0 : List Int) (w : World) (hr : IsRow .u8 w a0 len0 cap0 z0) :
    Calls Try.prog 3 #[.slice a0 len0 cap0] w fun e w' => e = .returned (.bool true) ∧ Below w.heap.size w w' := by
  have hlen := row_len hr

  by_cases hbig : 1048576 < len0
  · have t0 : decide (1048576 < (len0 : Int)) = true := by simp; omega
    go_enter Try.func3, Try.ntmps3
    go_wp2_with fail
    refine (big_any _ _ _ _ hlen).mono ?_
    rintro e w' ⟨rfl, rfl⟩
    go_wp2_with fail
    go_ret
    exact ⟨rfl, Below.refl _ _⟩
  · have t0 : decide (1048576 < (len0 : Int)) = false := by simp; omega
    go_enter Try.func3, Try.ntmps3
    go_wp2_with fail
    refine (big_any _ _ _ _ hlen).mono ?_
    rintro e w' ⟨rfl, rfl⟩
    go_wp2_with fail
    refine (drawClamp_any hr).mono ?_
    rintro e w1 ⟨n, lo, hi, rfl, hb⟩
    have k5 : clampI 7 3 5 = 5 := by decide
    rcases (show hi < lo ∨ (lo ≤ hi ∧ n < lo) ∨ (lo ≤ hi ∧ lo ≤ n ∧ hi < n) ∨ (lo ≤ hi ∧ lo ≤ n ∧ n ≤ hi) from by omega) with h | ⟨h, h'⟩ | ⟨h, h', h''⟩ | ⟨h, h', h''⟩
    · have k1 : clampI n lo hi = lo := by unfold clampI; (repeat' split) <;> omega
      go_wp2_with (go_at_call 11; refine (clamp_impl _ _ _ _).mono ?_; rintro e w' ⟨rfl, rfl⟩)
      go_ret
      exact ⟨rfl, hb⟩
    · have k1 : clampI n lo hi = lo := by unfold clampI; (repeat' split) <;> omega
      have k2 : clampI lo lo hi = lo := by unfold clampI; (repeat' split) <;> omega
      go_wp2_with (go_at_call 11; refine (clamp_impl _ _ _ _).mono ?_; rintro e w' ⟨rfl, rfl⟩)
      go_ret
      exact ⟨rfl, hb⟩
    · have k1 : clampI n lo hi = hi := by unfold clampI; (repeat' split) <;> omega
      have k2 : clampI hi lo hi = hi := by unfold clampI; (repeat' split) <;> omega
      go_wp2_with (go_at_call 11; refine (clamp_impl _ _ _ _).mono ?_; rintro e w' ⟨rfl, rfl⟩)
      go_ret
      exact ⟨rfl, hb⟩
    · have k1 : clampI n lo hi = n := by unfold clampI; (repeat' split) <;> omega
      go_wp2_with (go_at_call 11; refine (clamp_impl _ _ _ _).mono ?_; rintro e w' ⟨rfl, rfl⟩)
      go_ret
      exact ⟨rfl, hb⟩
end Go.Proofs.Ythkhoocnkjdabaa
