/- The walk of laws.FnTuned over the program's contracts. -/
import Derived.Test.YtcddmmepphihjaaTuneLaw
namespace Go.Proofs.Ytcddmmepphihjaa
open Go.RowKit Go.Joins
set_option linter.unusedVariables false
set_option maxRecDepth 100000 in
set_option maxHeartbeats 4000000 in
theorem walk_FnTunedBy (TI : TunImpl) (HI : HdImpl) (NI : NarImpl) (a0 : Option Addr) (len0 cap0 : Nat) (z0 : List Int) (w : World) (hr : IsRow .u8 w a0 len0 cap0 z0) :
    Calls Try.prog 3 #[.slice a0 len0 cap0] w fun e w' => e = .returned (.bool true) ∧ Below w.heap.size w w' := by
  have hlen := (row_len hr).2
  by_cases hbig : 1048576 < len0
  · have t0 : decide (1048576 < (len0 : Int)) = true := by simp; omega
    go_enter Try.func3, Try.ntmps3
    go_wp2_with fail
    refine (bigW_any _ _ _ _ hlen).mono ?_
    rintro e w' ⟨rfl, rfl⟩
    go_wp2_with fail
    go_ret
    exact ⟨rfl, Below.refl _ _⟩
  · have t0 : decide (1048576 < (len0 : Int)) = false := by simp; omega
    have HLEN := Lib.hid hlen
    have HR := Lib.hid hr
    clear hr hbig hlen
    go_enter Try.func3, Try.ntmps3
    go_wp2_with fail
    refine (bigW_any _ _ _ _ HLEN.out).mono ?_
    rintro e w' ⟨rfl, rfl⟩
    rw [t0]
    clear t0
    go_wp2_with fail
    refine (drawTuning_any HR.out).mono ?_
    rintro e w1 ⟨a, k, b, ha, hk, hb, rfl, b1⟩
    have B1 := Lib.hid b1
    obtain ⟨⟨n0, n1⟩, ⟨q1, q2⟩, q3, q4, q5⟩ := tuned_heard ha hk hb
    have CT := Lib.hid (fun w => TI a k b w)
    have CH := Lib.hid (fun w => HI a (tunV a k b) k w)
    have CN := Lib.hid (fun w => NI a (tunV a k b) k w)
    have CU := Lib.hid (fun w => TI a 3 0 w)
    have CV := Lib.hid (fun w => HI a (tunV a 3 0) 3 w)
    have CW := Lib.hid (fun w => TI (tunV a 3 0) 4 0 w)
    rw [q4] at CV
    rw [q5] at CW
    generalize tunV a 3 0 = up at CU CV CW
    generalize tunV a k b = n at n0 n1 q1 q2 q3 CT CH CN
    generalize narB a n k = nb at q3 CN
    generalize heardV a n k = h at q1 q2 q3 CH
    clear q4 q5 b1 TI HI NI HR HLEN
    obtain ⟨a1, a2⟩ := ha
    obtain ⟨b2, b3⟩ := hb
    have e0 : (a == a) = true := by simp
    rcases hk with rfl | rfl
    all_goals
      by_cases h0 : h = 0
      · subst h0
        clear q3 CN
        go_wp2_with fail
        refine (CT.out _).mono ?_
        rintro e w2 ⟨rfl, c⟩
        have B2 := Lib.hid (B1.out.trans (c.mono B1.out.size))
        clear c B1
        go_wp2_with fail
        refine (CH.out _).mono ?_
        rintro e w3 ⟨rfl, c⟩
        have B3 := Lib.hid (B2.out.trans (c.mono B2.out.size))
        clear c B2
        go_wp2_with fail
        refine (CU.out _).mono ?_
        rintro e w4 ⟨rfl, c⟩
        have B4 := Lib.hid (B3.out.trans (c.mono B3.out.size))
        clear c B3
        go_wp2_with fail
        refine (CV.out _).mono ?_
        rintro e w5 ⟨rfl, c⟩
        have B5 := Lib.hid (B4.out.trans (c.mono B4.out.size))
        clear c B4
        go_wp2_with fail
        refine (CW.out _).mono ?_
        rintro e w6 ⟨rfl, c⟩
        have B6 := Lib.hid (B5.out.trans (c.mono B5.out.size))
        clear c B5
        go_wp2_with fail
        go_ret
        exact ⟨rfl, B6.out⟩
      · have e1 : (h == 0) = false := by simpa using h0
        have q3 := q3 h0
        rw [q3] at CN
        clear h0 q3
        go_wp2_with fail
        refine (CT.out _).mono ?_
        rintro e w2 ⟨rfl, c⟩
        have B2 := Lib.hid (B1.out.trans (c.mono B1.out.size))
        clear c B1
        go_wp2_with fail
        refine (CH.out _).mono ?_
        rintro e w3 ⟨rfl, c⟩
        have B3 := Lib.hid (B2.out.trans (c.mono B2.out.size))
        clear c B2
        go_wp2_with fail
        refine (CU.out _).mono ?_
        rintro e w4 ⟨rfl, c⟩
        have B4 := Lib.hid (B3.out.trans (c.mono B3.out.size))
        clear c B3
        go_wp2_with fail
        refine (CN.out _).mono ?_
        rintro e w7 ⟨rfl, c⟩
        have B7 := Lib.hid (B4.out.trans (c.mono B4.out.size))
        clear c B4
        go_wp2_with fail
        refine (CV.out _).mono ?_
        rintro e w5 ⟨rfl, c⟩
        have B5 := Lib.hid (B7.out.trans (c.mono B7.out.size))
        clear c B7
        go_wp2_with fail
        refine (CW.out _).mono ?_
        rintro e w6 ⟨rfl, c⟩
        have B6 := Lib.hid (B5.out.trans (c.mono B5.out.size))
        clear c B5
        go_wp2_with fail
        go_ret
        exact ⟨rfl, B6.out⟩
end Go.Proofs.Ytcddmmepphihjaa
