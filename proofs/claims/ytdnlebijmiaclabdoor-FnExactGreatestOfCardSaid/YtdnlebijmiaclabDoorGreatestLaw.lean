/- The walk of laws.FnExactGreatestOf. -/
import Derived.Test.YtdnlebijmiaclabDoorSGreatest
import Derived.Test.YtdnlebijmiaclabDoorIvOpen
namespace Go.Proofs.YtdnlebijmiaclabDoor
open Go.RowKit Go.Joins
set_option linter.unusedVariables false
set_option maxRecDepth 100000 in
set_option maxHeartbeats 2000000 in
theorem walk_FnExactGreatestOf (A : Addr) (a : Option Addr) (len cap : Nat) (xs : List Iv) (w : World) (hs : SenAt A w) (hr : IvRow w a len xs) :
    Calls Tryd.prog 6 #[.slice a len cap] w fun e w' => e = .returned (.bool true) ∧ Below w.heap.size w w' := by
  have hlen := hr.2.1
  have HS := Lib.hid hs
  have HR := Lib.hid hr
  have HN := Lib.hid hr.1
  clear hs hr
  by_cases hbig : 1048576 < len
  · have SZ := Lib.hid (sz_any a len cap w hlen)
    rw [if_pos hbig] at SZ
    clear hbig hlen
    go_enter Tryd.func6, Tryd.ntmps6
    go_wp2_with fail
    refine SZ.out.mono ?_
    rintro en w1 ⟨rfl, rfl⟩
    go_wp2_with fail
    go_ret
    exact ⟨rfl, Below.refl _ _⟩
  · have SZ := Lib.hid (sz_any a len cap w hlen)
    rw [if_neg hbig] at SZ
    have t0 : ¬ (1048576 : Int) - (len : Int) < 0 := by omega
    have hl : len ≤ 1048576 := by omega
    obtain ⟨C, hC⟩ : ∃ C, C = gList xs := ⟨_, rfl⟩
    have HC := Lib.hid hC
    clear hbig hlen hC
    go_enter Tryd.func6, Tryd.ntmps6
    go_wp2_with fail
    refine SZ.out.mono ?_
    rintro en w1 ⟨rfl, rfl⟩
    go_wp2_with fail
    refine (toIvs_any _ _ _ _ xs HR.out hl).mono ?_
    rintro en w1 ⟨v1, rfl, o1, k1⟩
    have B1 := Lib.hid k1
    clear k1
    go_wp2_with fail
    refine (greatest_spec _ _ _ _ xs (by have := HN.out; omega) o1).mono ?_
    rintro en w2 ⟨rfl, k2⟩
    rw [← HC.out]
    have B2 := Lib.hid (B1.out.trans (k2.mono B1.out.size))
    clear B1 o1 k2
    go_wp2_with fail
    refine (toIvs_any _ _ _ _ xs (ivRow_below HR.out B2.out) hl).mono ?_
    rintro en w3 ⟨v3, rfl, o3, k3⟩
    have B3 := Lib.hid (B2.out.trans (k3.mono B2.out.size))
    have O3 := Lib.hid o3
    clear B2 o3 k3
    go_wp2_with fail
    refine (greatest_impl A _ _ _ _ xs (by have := HN.out; omega) O3.out (senAt_below HS.out B3.out)).mono ?_
    rintro en w4 ⟨rfl, k4⟩
    rw [← HC.out]
    have B4 := Lib.hid (B3.out.trans (k4.mono B3.out.size))
    have O4 := Lib.hid (own4_below O3.out k4)
    have tc : (C != C) = false := by simp
    clear B3 O3 k4
    go_wp2_with fail
    refine (toIvs_any _ _ _ _ xs (ivRow_below HR.out B4.out) hl).mono ?_
    rintro en w5 ⟨v5, rfl, o5, k5⟩
    have B5 := Lib.hid (B4.out.trans (k5.mono B4.out.size))
    have O5 := Lib.hid (own4_below O4.out k5)
    have O6 := Lib.hid o5
    clear B4 O4 k5 o5
    go_wp2_with fail
    refine (eqIvs_same _ _ _ _ _ _ _ xs (by have := HN.out; omega) O5.out O6.out).mono ?_
    rintro en w6 ⟨rfl, k6⟩
    have B6 := Lib.hid (B5.out.trans (k6.mono B5.out.size))
    clear B5 O5 O6 k6
    go_wp2_with fail
    go_ret
    exact ⟨rfl, B6.out⟩
end Go.Proofs.YtdnlebijmiaclabDoor
