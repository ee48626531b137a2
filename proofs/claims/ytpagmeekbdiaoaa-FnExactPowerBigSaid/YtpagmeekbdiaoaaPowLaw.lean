/- The walk of laws.FnExactPowerBig over the contracts. -/
import Derived.Test.YtpagmeekbdiaoaaPowWalks
import Derived.Test.YtpagmeekbdiaoaaOfLaw
namespace Go.Proofs.Ytpagmeekbdiaoaa
open Go.RowKit
set_option linter.unusedVariables false
set_option maxHeartbeats 1000000 in
theorem walk_FnExactPowerBig (b : Int) (hb : (Lit.int .i64 b).wf = true) (n : Int) (hn : (Lit.int .i64 n).wf = true) (w : World) :
    Calls Try.prog 5 #[.int .i64 b, .int .i64 n] w fun e w' => e = .returned (.bool true) ∧ Below w.heap.size w w' := by
  clear hb hn
  have hlen := powR_len b n
  generalize hxs : (PowR b n).1 = xs at hlen
  generalize hok : (PowR b n).2 = ok
  have HOK := Lib.hid hok
  have tb : (ok != ok) = false := by simp
  have HX := Lib.hid hxs
  have HL := Lib.hid (show xs.length ≤ 2000000 from by omega)
  obtain ⟨m, hm⟩ : ∃ m, m = xs.length := ⟨_, rfl⟩
  have hm2 : m ≤ 120 := by omega
  have HM := Lib.hid hm
  clear hm hxs hlen hok
  go_enter Try.func5, Try.ntmps5
  go_wp2_with fail
  refine (spower_any w b n).mono ?_
  rintro e w1 ⟨vw, rfl, ow1, b1⟩
  rw [HX.out] at ow1
  rw [HOK.out]
  go_wp2_with fail
  refine (power_any w1 b n).mono ?_
  rintro e w2 ⟨vg, rfl, og2, b2⟩
  rw [HX.out] at og2
  rw [HOK.out]
  have B2 := b1.trans (b2.mono b1.size)
  have ow2 := own_below ow1 b2
  go_wp2_with fail
  refine (eqInts_any w2 _ _ _ _ vg vw xs xs HL.out HL.out og2 ow2).mono ?_
  rintro e w3 ⟨rfl, b3⟩
  rw [decide_eq_true (rfl : xs = xs)]
  have B3 := B2.trans (b3.mono B2.size)
  have ow3 := own_below ow2 b3
  have og3 := own_below og2 b3
  rw [← HM.out] at og3
  go_wp2_with fail
  refine (markInts_any w3 w1.heap.size 1 _ vg m xs (by omega) (by omega) og3).mono ?_
  rintro e w4 ⟨rfl, og4, b4⟩
  have B4 := B3.trans (b4.mono b1.size)
  have ow4 := own_old ow3 b4 (own_blk ow1)
  go_wp2_with fail
  refine (heldInts_any w4 w1.heap.size 1 _ vg m (by omega) (by omega) og4).mono ?_
  rintro e w5 ⟨rfl, b5⟩
  have B5 := B4.trans (b5.mono B4.size)
  have og5 := own_below og4 b5
  have ow5 := own_below ow4 b5
  have t1 : ¬ ((1 : Int) + m) < 0 := by omega
  go_wp2_with fail
  refine (power_any w5 b n).mono ?_
  rintro e w6 ⟨vh, rfl, oh6, b6⟩
  rw [HX.out] at oh6
  rw [HOK.out]
  have B6 := B5.trans (b6.mono B5.size)
  have og6 := own_below og5 b6
  have ow6 := own_below ow5 b6
  go_wp2_with fail
  refine (eqInts_any w6 _ _ _ _ vh vw xs xs HL.out HL.out oh6 ow6).mono ?_
  rintro e w7 ⟨rfl, b7⟩
  rw [decide_eq_true (rfl : xs = xs)]
  have B7 := B6.trans (b7.mono B6.size)
  have og7 := own_below og6 b7
  go_wp2_with fail
  refine (heldInts_any w7 w1.heap.size 1 _ vg m (by omega) (by omega) og7).mono ?_
  rintro e w8 ⟨rfl, b8⟩
  have B8 := B7.trans (b8.mono B7.size)
  go_wp2_with fail
  go_ret
  exact ⟨rfl, B8⟩
end Go.Proofs.Ytpagmeekbdiaoaa
