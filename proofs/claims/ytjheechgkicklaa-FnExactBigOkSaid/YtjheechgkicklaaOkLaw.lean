/- The walk of laws.FnExactBigOk over the contracts. -/
import Derived.Test.YtjheechgkicklaaOkWalks
namespace Go.Proofs.Ytjheechgkicklaa
open Go.RowKit
set_option linter.unusedVariables false
theorem slice_of {w : World} {b : Nat} {e : TypeId} {v : Value} {n : Nat} {xs : List Value} (h : w.ownsRow b e 1 v n xs) : ∃ p c, v = .slice p n c := by
  rcases own_shape h with ⟨h, h'⟩ | ⟨g, cap, h, _⟩
  · exact ⟨_, _, by rw [h, h']⟩
  · exact ⟨_, _, h⟩
set_option maxHeartbeats 1000000 in
theorem walk_FnExactBigOk (a : Option Addr) (len cap : Nat) (zs : List Int) (w : World) (hr : IsRow .i64 w a len cap zs) :
    Calls Try.prog 4 #[.slice a len cap] w fun e w' => e = .returned (.bool true) ∧ Below w.heap.size w w' := by
  have hl := (row_len hr)
  have HL := Lib.hid hl
  have hl' := hl.2
  clear hl
  by_cases h1 : 1048576 < len
  · go_enter Try.func4, Try.ntmps4
    go_wp2_with fail
    go_ret
    exact ⟨rfl, Below.refl _ _⟩
  · have hlen : (zs.take len).length ≤ 2000000 := by have := HL.out.1; omega
    have HLEN := Lib.hid hlen
    clear hlen
    go_enter Try.func4, Try.ntmps4
    go_wp2_with fail
    refine (toInts_any w a len cap zs hr (by omega)).mono ?_
    rintro e w1 ⟨v1, rfl, o1, b1⟩
    go_wp2_with fail
    refine (sok_any w1 _ _ v1 _ HLEN.out o1).mono ?_
    rintro e w1' ⟨rfl, rfl⟩
    go_wp2_with fail
    refine (toInts_any w1 a len cap zs (hr.below b1) (by omega)).mono ?_
    rintro e w2 ⟨v2, rfl, o2, b2⟩
    have B2 := b1.trans (b2.mono b1.size)
    go_wp2_with fail
    refine (ok_any w2 _ _ v2 _ HLEN.out o2).mono ?_
    rintro e w2' ⟨rfl, rfl⟩
    generalize decide (OkB (zs.take len)) = ok
    go_wp2_with fail
    refine (toInts_any w2 a len cap zs (hr.below B2) (by omega)).mono ?_
    rintro e w3 ⟨v3, rfl, o3, b3⟩
    have B3 := B2.trans (b3.mono B2.size)
    go_wp2_with fail
    refine (eqInts_any w3 _ _ _ _ v2 v3 _ _ HLEN.out HLEN.out (own_below o2 b3) o3).mono ?_
    rintro e w4 ⟨rfl, b4⟩
    rw [decide_eq_true (rfl : zs.take len = zs.take len)]
    have B4 := B3.trans (b4.mono B3.size)
    go_wp2_with fail
    go_ret
    exact ⟨rfl, B4⟩
end Go.Proofs.Ytjheechgkicklaa
