/- The walk of laws.FnExactBigText. -/
import Derived.Test.YtohhocheikdhlaaDoorBtWalks
namespace Go.Proofs.YtohhocheikdhlaaDoor
open Go.RowKit
set_option linter.unusedVariables false
set_option maxHeartbeats 1000000 in
theorem walk_FnExactBigText (a : Option Addr) (len cap : Nat) (zs : List Int) (w : World) (ht : ItoaTab w) (hr : IsRow .i64 w a len cap zs) :
    Calls Tryd.prog 4 #[.slice a len cap] w fun e w' => e = .returned (.bool true) ∧ Below w.heap.size w w' := by
  have hl := (row_len hr)
  have HL := Lib.hid hl
  have HT := Lib.hid ht
  have hl' := hl.2
  clear hl ht
  by_cases h1 : 1048576 < len
  · go_enter Tryd.func4, Tryd.ntmps4
    go_wp2_with fail
    go_ret
    exact ⟨rfl, Below.refl _ _⟩
  · have hlen : (zs.take len).length ≤ 2000000 := by have := HL.out.1; omega
    have HLEN := Lib.hid hlen
    have HR := Lib.hid hr
    clear hlen hr
    go_enter Tryd.func4, Tryd.ntmps4
    go_wp2_with fail
    refine (toInts_any w a len cap zs HR.out (by omega)).mono ?_
    rintro e w1 ⟨v1, rfl, o1, b1⟩
    go_wp2_with fail
    refine (sbt_any w1 _ _ v1 _ HLEN.out o1).mono ?_
    rintro e w2 ⟨rfl, b2⟩
    have B2 : Hid (Below w.heap.size w w2) := Lib.hid (b1.trans (b2.mono b1.size))
    clear o1 b1 b2
    go_wp2_with fail
    refine (toInts_any w2 a len cap zs (HR.out.below B2.out) (by omega)).mono ?_
    rintro e w3 ⟨v3, rfl, o3, b3⟩
    have B3 : Hid (Below w.heap.size w w3) := Lib.hid (B2.out.trans (b3.mono B2.out.size))
    have O3 := Lib.hid o3
    clear b3 o3 B2
    go_wp2_with fail
    refine (bt_any w3 _ _ v3 _ HLEN.out O3.out (HT.out.below B3.out HT.out.lt)).mono ?_
    rintro e w4 ⟨rfl, b4⟩
    have B4 : Hid (Below w.heap.size w w4) := Lib.hid (B3.out.trans (b4.mono B3.out.size))
    have O4 := Lib.hid (own_below O3.out b4)
    clear b4 O3 B3
    generalize BtR (zs.take len) = R
    go_wp2_with fail
    refine (toInts_any w4 a len cap zs (HR.out.below B4.out) (by omega)).mono ?_
    rintro e w5 ⟨v5, rfl, o5, b5⟩
    have B5 : Hid (Below w.heap.size w w5) := Lib.hid (B4.out.trans (b5.mono B4.out.size))
    have O5 := Lib.hid o5
    have O45 := Lib.hid (own_below O4.out b5)
    clear b5 o5 B4
    go_wp2_with fail
    refine (eqInts_any w5 _ _ _ _ v3 v5 _ _ HLEN.out HLEN.out O45.out O5.out).mono ?_
    rintro e w6 ⟨rfl, b6⟩
    rw [decide_eq_true (rfl : zs.take len = zs.take len)]
    go_wp2_with fail
    go_ret
    exact ⟨rfl, B5.out.trans (b6.mono B5.out.size)⟩
end Go.Proofs.YtohhocheikdhlaaDoor
