/- The walk of laws.FnExactCloses over the program's contract. Written by closlaws.py. -/
import Derived.Test.YtjfeeppbbckneabSClos
import Derived.Test.YtjfeeppbbckneabClosImpl
import Derived.Test.YtjfeeppbbckneabNearLaw
namespace Go.Proofs.Ytjfeeppbbckneab
open Go.RowKit Go.Joins
set_option linter.unusedVariables false
set_option maxRecDepth 100000 in
set_option maxHeartbeats 4000000 in
theorem walk_ClosesBy (II : ClosesImpl) (a : Option Addr) (len cap : Nat) (zs : List Int) (w : World) (hr : IsRow .i64 w a len cap zs) :
    Calls Try.prog 6 #[.slice a len cap] w fun e w' => e = .returned (.bool true) ∧ Below w.heap.size w w' := by
  have HL := Lib.hid (row_len hr)
  have HR := Lib.hid hr
  have hl' := HL.out.2
  clear hr
  by_cases h2 : (1048576 : Int) < (len : Int)
  · go_enter Try.func6, Try.ntmps6
    go_wp2_with fail
    go_ret
    exact ⟨rfl, Below.refl _ _⟩
  · obtain ⟨ts, hts⟩ : ∃ ts, ts = zs.take len := ⟨_, rfl⟩
    have HX := Lib.hid hts
    have hl3 : len ≤ 1048576 := by omega
    have HTS := Lib.hid (show ts.length ≤ 2000000 from by have := HL.out.1; rw [hts, List.length_take]; omega)
    clear hts
    have CS := Lib.hid (fun w b' e' v' h => closes_spec w b' e' v' ts HTS.out h)
    have CP := Lib.hid (fun w b' e' v' h => II ts w b' e' v' HTS.out h)
    obtain ⟨y, hy⟩ : ∃ y, y = closB ts := ⟨_, rfl⟩
    rw [← hy] at CS CP
    have ty : (y != y) = false := by simp
    clear h2 hy
    go_enter Try.func6, Try.ntmps6
    go_wp2_with fail
    refine (calls_toInts (Below.refl _ _) HR.out hl3 HX).mono ?_
    rintro e w4 ⟨v4, rfl, o4, b4⟩
    have B4 := Lib.hid b4
    go_wp2_with fail
    refine (CS.out w4 _ _ v4 o4).mono ?_
    rintro e w5 ⟨rfl, b5⟩
    have B5 := Lib.hid (B4.out.trans (b5.mono B4.out.size))
    clear o4 b4 b5 B4
    go_wp2_with fail
    refine (calls_toInts (Below.refl _ _) (HR.out.below B5.out) hl3 HX).mono ?_
    rintro e w6 ⟨v6, rfl, o6, b6⟩
    have O6 := Lib.hid o6
    have B6 := Lib.hid (B5.out.trans (b6.mono B5.out.size))
    clear o6 b6 B5
    go_wp2_with fail
    refine (CP.out w6 _ _ v6 O6.out).mono ?_
    rintro e w7 ⟨rfl, b7⟩
    have V7 := Lib.hid (own_below O6.out b7)
    have B7 := Lib.hid (B6.out.trans (b7.mono B6.out.size))
    clear b7 O6 B6
    go_wp2_with fail
    refine (calls_toInts (Below.refl _ _) (HR.out.below B7.out) hl3 HX).mono ?_
    rintro e w9 ⟨v9, rfl, o9, b9⟩
    have O9 := Lib.hid o9
    have V9 := Lib.hid (own_below V7.out b9)
    have B9 := Lib.hid (B7.out.trans (b9.mono B7.out.size))
    clear o9 b9 V7 B7
    go_wp2_with fail
    refine (eqInts_any w9 _ _ _ _ v6 v9 ts ts HTS.out HTS.out V9.out O9.out).mono ?_
    rintro e w10 ⟨rfl, b10⟩
    rw [decide_eq_true (rfl : ts = ts)]
    have B10 := Lib.hid (B9.out.trans (b10.mono B9.out.size))
    clear b10 B9
    go_wp2_with fail
    go_ret
    exact ⟨rfl, B10.out⟩
end Go.Proofs.Ytjfeeppbbckneab
