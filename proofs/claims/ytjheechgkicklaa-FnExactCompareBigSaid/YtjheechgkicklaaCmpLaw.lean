/- The walk of laws.FnExactCompareBig over the contracts. -/
import Derived.Test.YtjheechgkicklaaSCmpBig
namespace Go.Proofs.Ytjheechgkicklaa
open Go.RowKit
set_option linter.unusedVariables false
set_option maxHeartbeats 2000000 in
theorem walk_FnExactCompareBig (a : Option Addr) (len cap : Nat) (zs : List Int) (a' : Option Addr) (len' cap' : Nat) (zs' : List Int) (w : World) (hr : IsRow .i64 w a len cap zs) (hr' : IsRow .i64 w a' len' cap' zs') :
    Calls Try.prog 8 #[.slice a len cap, .slice a' len' cap'] w fun e w' => e = .returned (.bool true) ∧ Below w.heap.size w w' := by
  have hl := (row_len hr)
  have HL := Lib.hid hl
  have hl' := hl.2
  have hm := (row_len hr')
  have HM := Lib.hid hm
  have hm' := hm.2
  clear hl hm
  by_cases h1 : 1048576 < len
  · go_enter Try.func8, Try.ntmps8
    go_wp2_with fail
    go_ret
    exact ⟨rfl, Below.refl _ _⟩
  · by_cases h2 : 1048576 < len'
    · go_enter Try.func8, Try.ntmps8
      go_wp2_with fail
      go_ret
      exact ⟨rfl, Below.refl _ _⟩
    · have HX := Lib.hid (show (zs.take len).length ≤ 2000000 from by have := HL.out.1; omega)
      have HY := Lib.hid (show (zs'.take len').length ≤ 2000000 from by have := HM.out.1; omega)
      go_enter Try.func8, Try.ntmps8
      go_wp2_with fail
      refine (toInts_any w a len cap zs hr (by omega)).mono ?_
      rintro e w1 ⟨v1, rfl, o1, b1⟩
      go_wp2_with fail
      refine (toInts_any w1 a' len' cap' zs' (hr'.below b1) (by omega)).mono ?_
      rintro e w2 ⟨v2, rfl, o2, b2⟩
      have B2 := b1.trans (b2.mono b1.size)
      go_wp2_with fail
      refine (scompareBig_any w2 _ _ _ _ v1 v2 _ _ HX.out HY.out (own_below o1 b2) o2).mono ?_
      rintro e w3 ⟨rfl, b3⟩
      have B3 := B2.trans (b3.mono B2.size)
      go_wp2_with fail
      refine (toInts_any w3 a len cap zs (hr.below B3) (by omega)).mono ?_
      rintro e w4 ⟨v4, rfl, o4, b4⟩
      have B4 := B3.trans (b4.mono B3.size)
      go_wp2_with fail
      refine (toInts_any w4 a' len' cap' zs' (hr'.below B4) (by omega)).mono ?_
      rintro e w5 ⟨v5, rfl, o5, b5⟩
      have B5 := B4.trans (b5.mono B4.size)
      have o45 := own_below o4 b5
      go_wp2_with fail
      refine (compareBig_any w5 _ _ _ _ v4 v5 _ _ HX.out HY.out o45 o5).mono ?_
      rintro e w6 ⟨rfl, b6⟩
      have B6 := B5.trans (b6.mono B5.size)
      have o46 := own_below o45 b6
      have o56 := own_below o5 b6
      generalize CmpR (zs.take len) (zs'.take len') = r
      have t1 : (r != r) = false := by simp
      go_wp2_with fail
      refine (toInts_any w6 a len cap zs (hr.below B6) (by omega)).mono ?_
      rintro e w7 ⟨v7, rfl, o7, b7⟩
      have B7 := B6.trans (b7.mono B6.size)
      go_wp2_with fail
      refine (eqInts_any w7 _ _ _ _ v4 v7 _ _ HX.out HX.out (own_below o46 b7) o7).mono ?_
      rintro e w8 ⟨rfl, b8⟩
      rw [decide_eq_true (rfl : zs.take len = zs.take len)]
      have B8 := B7.trans (b8.mono B7.size)
      have o58 := own_below (own_below o56 b7) b8
      go_wp2_with fail
      refine (toInts_any w8 a' len' cap' zs' (hr'.below B8) (by omega)).mono ?_
      rintro e w9 ⟨v9, rfl, o9, b9⟩
      have B9 := B8.trans (b9.mono B8.size)
      go_wp2_with fail
      refine (eqInts_any w9 _ _ _ _ v5 v9 _ _ HY.out HY.out (own_below o58 b9) o9).mono ?_
      rintro e w10 ⟨rfl, b10⟩
      rw [decide_eq_true (rfl : zs'.take len' = zs'.take len')]
      have B10 := B9.trans (b10.mono B9.size)
      go_wp2_with fail
      go_ret
      exact ⟨rfl, B10⟩
end Go.Proofs.Ytjheechgkicklaa
