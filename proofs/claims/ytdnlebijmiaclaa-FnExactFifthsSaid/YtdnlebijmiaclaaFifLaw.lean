/- The walk of laws.FnExactFifths. -/
import Derived.Test.YtdnlebijmiaclaaFifWalks
namespace Go.Proofs.Ytdnlebijmiaclaa
open Go.RowKit Go.Joins
set_option linter.unusedVariables false
set_option maxHeartbeats 1000000 in
theorem walk_FnExactFifths (n : Int) (hn : (Lit.int .i64 n).wf = true) (w : World) :
    Calls Try.prog 13 #[.int .i64 n] w fun e w' => e = .returned (.bool true) ∧ Below w.heap.size w w' := by
  obtain ⟨p, q, r, s, y, hst⟩ := fifAt_ex n
  have HST := Lib.hid hst
  clear hst
  have ty : (y != y) = false := by cases y <;> rfl
  go_enter Try.func13, Try.ntmps13
  go_wp2_with fail
  refine (fifths_spec HST.out _).mono ?_
  rintro e w2 ⟨rfl, h2⟩
  have HB2 := Lib.hid h2
  clear h2
  go_wp2_with fail
  refine (fifths_impl HST.out _).mono ?_
  rintro e w4 ⟨rfl, h4⟩
  have F2 : Four w2.heap.size p q r s w4 := four_keep h4 four_alloc
  have B4 := Lib.hid ((HB2.out.alloc HB2.out.size _).trans (h4.mono (by have := HB2.out.size; simp; omega)))
  have z2 : w2.heap.size < w4.heap.size := F2.1
  obtain ⟨_, r0, r1, r2, r3⟩ := F2
  clear h4
  go_wp2_with fail
  refine (eqInterval_same _ _ _ _ _).mono ?_
  rintro e w5 ⟨rfl, h5⟩
  go_wp2_with fail
  go_ret
  exact ⟨rfl, (B4.out.alloc B4.out.size _).trans (h5.mono (by have := B4.out.size; simp; omega))⟩
end Go.Proofs.Ytdnlebijmiaclaa
