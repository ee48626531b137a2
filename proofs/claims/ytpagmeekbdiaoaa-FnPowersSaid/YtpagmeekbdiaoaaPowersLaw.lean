/- The walk of laws.FnPowers over the contracts. -/
import Derived.Test.YtpagmeekbdiaoaaAtWalks
import Derived.Test.YtpagmeekbdiaoaaSameInts
import Derived.Test.YtpagmeekbdiaoaaPowChk
import Derived.Test.YtpagmeekbdiaoaaPowWalks
import Derived.Test.YtpagmeekbdiaoaaCmpBig
namespace Go.Proofs.Ytpagmeekbdiaoaa
open Go.RowKit
set_option linter.unusedVariables false
theorem pow_facts (k : Nat) (h : k < 60) : ∃ a c, PowR 4 (k : Int) = (a, true) ∧ PowR 2 (2 * (k : Int)) = (a, true) ∧ PowR 27 (k : Int) = (c, true) ∧ PowR 3 (3 * (k : Int)) = (c, true) ∧ CmpR c a = (if 0 < k then 1 else 0) ∧ a.length ≤ 120 ∧ c.length ≤ 120 := by
  have hc := chk_all k h
  rw [powSt_eq] at hc
  unfold chk at hc
  split at hc
  · next a b c d hs =>
    simp only [Prod.mk.injEq] at hs
    obtain ⟨h1, h2, h3, h4⟩ := hs
    simp only [Bool.and_eq_true, beq_iff_eq] at hc
    obtain ⟨⟨rfl, rfl⟩, h5⟩ := hc
    have o1 := powB_ok (by omega) (by omega) _ _ h1
    have o3 := powB_ok (by omega) (by omega) _ _ h3
    refine ⟨a, c, powR_yes (by omega) (by omega) (by omega) h1, ?_, powR_yes (by omega) (by omega) (by omega) h3, ?_, ?_, o1.1, o3.1⟩
    · have := powR_yes (b := 2) (e := 2 * k) (by omega) (by omega) (by omega) h2; simpa using this
    · have := powR_yes (b := 3) (e := 3 * k) (by omega) (by omega) (by omega) h4; simpa using this
    · rw [cmpR_yes o3 o1]; exact h5
  · cases hc
set_option maxHeartbeats 2000000 in
theorem walk_FnPowers (a : Option Addr) (len cap : Nat) (zs : List Int) (w : World) (hr : IsRow .u8 w a len cap zs) :
    Calls Try.prog 3 #[.slice a len cap] w fun e w' => e = .returned (.bool true) ∧ Below w.heap.size w w' := by
  have hlen : len ≤ 9223372036854775807 := by
    rcases hr with ⟨_, h1, _⟩ | ⟨x, _, h1, h2, _⟩
    · omega
    · unfold maxLen at h2; omega
  by_cases h1 : 1048576 < len
  · have d1 : decide (1048576 < (len : Int)) = true := decide_eq_true (by omega)
    go_enter Try.func3, Try.ntmps3
    go_wp2_with fail
    refine (bigA_any _ _ _ _ hlen).mono ?_
    rintro e w0 ⟨rfl, rfl⟩
    rw [d1]
    go_wp2_with fail
    go_ret
    exact ⟨rfl, Below.refl _ _⟩
  · have d1 : decide (1048576 < (len : Int)) = false := decide_eq_false (by omega)
    have AT := Lib.hid (at_any hr (by omega) 0 (by omega))
    clear hr
    go_enter Try.func3, Try.ntmps3
    go_wp2_with fail
    refine (bigA_any _ _ _ _ hlen).mono ?_
    rintro e w0 ⟨rfl, rfl⟩
    rw [d1]
    go_wp2_with fail
    refine AT.out.mono ?_
    rintro e w0 ⟨u, hu, rfl, rfl⟩
    obtain ⟨k, hk, hk60⟩ : ∃ k : Nat, (u : Int) % 60 = (k : Int) ∧ k < 60 := ⟨u % 60, by omega, by omega⟩
    have hm : (u : Int).tmod 60 = (k : Int) := by rw [Int.tmod_eq_emod_of_nonneg (by omega)]; exact hk
    obtain ⟨xs, ys, p1, p2, p3, p4, p5, p6, p7⟩ := pow_facts k hk60
    have P1 := Lib.hid p1
    have P2 := Lib.hid p2
    have P3 := Lib.hid p3
    have P4 := Lib.hid p4
    have P5 := Lib.hid p5
    have P6 := Lib.hid (show xs.length ≤ 2000000 from by omega)
    have P7 := Lib.hid (show ys.length ≤ 2000000 from by omega)
    clear p1 p2 p3 p4 p5 p6 p7
    go_wp2_with fail
    refine (power_any _ 4 (k : Int)).mono ?_
    rintro e w1 ⟨va, rfl, oa, b1⟩
    rw [P1.out] at oa ⊢
    go_wp2_with fail
    refine (power_any _ 2 (2 * (k : Int))).mono ?_
    rintro e w2 ⟨vb, rfl, ob, b2⟩
    rw [P2.out] at ob ⊢
    have B2 := b1.trans (b2.mono b1.size)
    have oa2 := own_below oa b2
    go_wp2_with fail
    refine (power_any _ 27 (k : Int)).mono ?_
    rintro e w3 ⟨vc, rfl, oc, b3⟩
    rw [P3.out] at oc ⊢
    have B3 := B2.trans (b3.mono B2.size)
    have oa3 := own_below oa2 b3
    have ob3 := own_below ob b3
    go_wp2_with fail
    refine (power_any _ 3 (3 * (k : Int))).mono ?_
    rintro e w4 ⟨vd, rfl, od, b4⟩
    rw [P4.out] at od ⊢
    have B4 := B3.trans (b4.mono B3.size)
    have oa4 := own_below oa3 b4
    have ob4 := own_below ob3 b4
    have oc4 := own_below oc b4
    go_wp2_with fail
    refine (sameInts_any w4 _ _ _ _ va vb xs xs P6.out P6.out oa4 ob4).mono ?_
    rintro e w5 ⟨rfl, b5⟩
    rw [decide_eq_true (rfl : xs = xs)]
    have B5 := B4.trans (b5.mono B4.size)
    have ob5 := own_below ob4 b5
    have oc5 := own_below oc4 b5
    have od5 := own_below od b5
    go_wp2_with fail
    refine (sameInts_any w5 _ _ _ _ vc vd ys ys P7.out P7.out oc5 od5).mono ?_
    rintro e w6 ⟨rfl, b6⟩
    rw [decide_eq_true (rfl : ys = ys)]
    have B6 := B5.trans (b6.mono B5.size)
    have ob6 := own_below ob5 b6
    have od6 := own_below od5 b6
    go_wp2_with fail
    refine (compareBig_any w6 _ _ _ _ vd vb ys xs P7.out P6.out od6 ob6).mono ?_
    rintro e w7 ⟨rfl, b7⟩
    rw [P5.out]
    have B7 := B6.trans (b7.mono B6.size)
    rcases (show k = 0 ∨ 0 < k from by omega) with h0 | h0
    · rw [if_neg (by omega)]
      have q0 : ¬ (0 : Int) < (k : Int) := by omega
      go_wp2_with fail
      refine (btoi_any _ _).mono ?_
      rintro e w8 ⟨rfl, rfl⟩
      go_wp2_with fail
      go_ret
      exact ⟨rfl, B7⟩
    · rw [if_pos h0]
      have q0 : (0 : Int) < (k : Int) := by omega
      go_wp2_with fail
      refine (btoi_any _ _).mono ?_
      rintro e w8 ⟨rfl, rfl⟩
      go_wp2_with fail
      go_ret
      exact ⟨rfl, B7⟩
end Go.Proofs.Ytpagmeekbdiaoaa
