/- The walk of laws.FnExactUsualPlan. -/
import Derived.Test.YtcddmmepphihjaaPlanImpl
namespace Go.Proofs.Ytcddmmepphihjaa
open Go.RowKit Go.Joins
set_option linter.unusedVariables false
theorem usL_len (b : Int) : (usL b).length ≤ 11 := by
  unfold usL
  split
  · rw [usTo_len]; omega
  · simp
set_option maxRecDepth 100000 in
set_option maxHeartbeats 4000000 in
theorem walk_UsualPlanBy (II : UsualImpl) (a0 : Int) (w : World) :
    Calls Try.prog 9 #[.int .i64 a0] w fun e w' => e = .returned (.bool true) ∧ Below w.heap.size w w' := by
  have SP := Lib.hid (fun (W : World) => usual_spec a0 W)
  have SI := Lib.hid (fun (W : World) => II a0 W)
  obtain ⟨ys, hys⟩ : ∃ ys, usL a0 = ys := ⟨_, rfl⟩
  have LY : ys.length ≤ 11 := by rw [← hys]; exact usL_len _
  rw [hys] at SP SI
  clear hys
  go_enter Try.func9, Try.ntmps9
  go_wp2_with fail
  refine (SP.out _).mono ?_
  rintro en w2 ⟨v2, rfl, o2, k2⟩
  have P2 := Lib.hid o2
  have L2 := Lib.hid (fun g hg => (o2.lt g hg).2)
  have B2 := Lib.hid k2
  have N2 := k2.size
  clear o2 k2
  go_wp2_with fail
  refine (SI.out _).mono ?_
  rintro en w4 ⟨v4, rfl, o4, k4⟩
  have L4 := Lib.hid (fun g hg => (o4.lt g hg).1)
  have Q4 := Lib.hid o4
  have P4 := Lib.hid (own4_below P2.out k4)
  have B4 := Lib.hid (B2.out.trans (k4.mono B2.out.size))
  clear B2 P2 k4 o4
  go_wp2_with fail
  refine (eqSteps_same w4 _ _ _ _ v4 v2 ys (by omega) Q4.out P4.out).mono ?_
  rintro en w9 ⟨rfl, k9⟩
  have Q9 := Lib.hid (own4_below Q4.out k9)
  have P9 := Lib.hid (own4_below P4.out k9)
  have B9 := Lib.hid (B4.out.trans (k9.mono B4.out.size))
  clear B4 P4 Q4 k9
  obtain ⟨ly, hly⟩ : ∃ l, l = ys.length := ⟨_, rfl⟩
  have t3 : ¬ ((1 : Int) + 4 * ly) < 0 := by omega
  have MK := Lib.hid (markSt_full w9 _ v4 ys (by omega) Q9.out)
  rw [← hly] at MK
  have HLY := Lib.hid hly
  clear hly
  go_wp2_with fail
  refine MK.out.mono ?_
  rintro en w10 ⟨rfl, o10, g10⟩
  have P10 := Lib.hid (own_gr P9.out g10 (fun g hg e => by have := L2.out g hg; have := L4.out g e; omega))
  have Q10 := Lib.hid o10
  have B10 := Lib.hid (B9.out.grown g10 B9.out.size (fun k hk => by have := L4.out k hk; omega))
  clear o10 B9 P9 Q9 g10 MK
  go_wp2_with fail
  refine (heldSt_own w10 _ _ v4 ly (by have := HLY.out; omega) Q10.out).mono ?_
  rintro en w11 ⟨rfl, rfl⟩
  go_wp2_with fail
  refine (SI.out _).mono ?_
  rintro en w13 ⟨v13, rfl, o13, k13⟩
  have R13 := Lib.hid o13
  have Q13 := Lib.hid (own4_below Q10.out k13)
  have P13 := Lib.hid (own4_below P10.out k13)
  have B13 := Lib.hid (B10.out.trans (k13.mono B10.out.size))
  clear B10 P10 Q10 k13 o13
  go_wp2_with fail
  refine (eqSteps_same w13 _ _ _ _ v13 v2 ys (by omega) R13.out P13.out).mono ?_
  rintro en w14 ⟨rfl, k14⟩
  have Q14 := Lib.hid (own4_below Q13.out k14)
  have B14 := Lib.hid (B13.out.trans (k14.mono B13.out.size))
  clear B13 P13 Q13 R13 k14
  go_wp2_with fail
  refine (heldSt_own w14 _ _ v4 ly (by have := HLY.out; omega) Q14.out).mono ?_
  rintro en w15 ⟨rfl, rfl⟩
  go_wp2_with fail
  go_ret
  exact ⟨rfl, B14.out⟩
end Go.Proofs.Ytcddmmepphihjaa
