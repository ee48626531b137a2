/- The walk of laws.FnExactIsComma. -/
import Derived.Test.YtdnlebijmiaclabDoorIsCom
namespace Go.Proofs.YtdnlebijmiaclabDoor
open Go.RowKit Go.Joins
set_option linter.unusedVariables false
set_option maxRecDepth 100000 in
set_option maxHeartbeats 2000000 in
theorem walk_FnExactIsComma (A : Addr) (a b c d : Int) (w : World) (hs : SenAt A w) :
    Calls Tryd.prog 13 #[ivV a b c d] w fun e w' => e = .returned (.bool true) ∧ Below w.heap.size w w' := by
  obtain ⟨y, hy⟩ : ∃ y, comB a b c d = y := ⟨_, rfl⟩
  have HS := Lib.hid hs
  have S1 := Lib.hid (fun w => isComma_spec a b c d w)
  have S2 := Lib.hid (fun w h => isComma_impl A a b c d w h)
  rw [hy] at S1 S2
  clear hs hy
  go_enter Tryd.func13, Tryd.ntmps13
  go_wp2_with fail
  have F0 := Lib.hid (four_alloc (w := w) (p := a) (q := b) (r := c) (s := d) (t := 38))
  have B0 := Lib.hid (below_alloc1 w (.cells #[.int .i64 a, .int .i64 b, .int .i64 c, .int .i64 d] 38))
  refine (toInterval_any _ _ _ _ _).mono ?_
  rintro e w1 ⟨rfl, hb⟩
  have F1 := Lib.hid (four_keep hb F0.out)
  have B1 := Lib.hid (B0.out.trans (hb.mono B0.out.size))
  clear hb F0 B0
  go_wp2_with fail
  refine (S1.out _).mono ?_
  rintro e w2 ⟨rfl, hb⟩
  have F2 := Lib.hid (four_keep hb F1.out)
  have B2 := Lib.hid (B1.out.trans (hb.mono B1.out.size))
  clear hb F1 B1
  obtain ⟨_, x0, x1, x2, x3⟩ := F2.out
  go_wp2_with fail
  refine (toInterval_any _ _ _ _ _).mono ?_
  rintro e w3 ⟨rfl, hb⟩
  have B3 := Lib.hid (B2.out.trans (hb.mono B2.out.size))
  clear hb F2 B2 x0 x1 x2 x3
  go_wp2_with fail
  refine (S2.out _ (senAt_below HS.out B3.out)).mono ?_
  rintro e w4 ⟨rfl, hb⟩
  have B4 := Lib.hid (B3.out.trans (hb.mono B3.out.size))
  have yy : (y != y) = false := by cases y <;> rfl
  clear hb B3
  go_wp2_with fail
  go_ret
  exact ⟨rfl, B4.out⟩
end Go.Proofs.YtdnlebijmiaclabDoor
