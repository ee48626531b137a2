/- The walk of laws.FnExactOctavesIn. -/
import Derived.Test.YtdnlebijmiaclaaOctImpl
import Derived.Test.YtdnlebijmiaclaaSOctWalks
namespace Go.Proofs.Ytdnlebijmiaclaa
open Go.RowKit Go.Joins
set_option linter.unusedVariables false
theorem octOr_spec {a b c d n : Int} (h : OctOr a b c d n) (w : World) : Calls Try.prog 32 #[ivV a b c d] w fun e w' => e = .returned (.int .i64 n) ∧ Below w.heap.size w w' := by
  rcases h with h | ⟨h, rfl⟩
  · exact octaves_spec_yes h w
  · exact octaves_spec_no h w
set_option maxHeartbeats 1000000 in
theorem walk_FnExactOctavesIn (a b c d : Int) (w : World) :
    Calls Try.prog 9 #[ivV a b c d] w fun e w' => e = .returned (.bool true) ∧ Below w.heap.size w w' := by
  obtain ⟨n, hn⟩ := octOr_ex a b c d
  have HN := Lib.hid hn
  clear hn
  go_enter Try.func9, Try.ntmps9
  go_wp2_with fail
  have F0 := Lib.hid (four_alloc (w := w) (p := a) (q := b) (r := c) (s := d) (t := 34))
  refine (toInterval_any _ _ _ _ _).mono ?_
  rintro e w1 ⟨rfl, h1⟩
  have F1 := Lib.hid (four_keep h1 F0.out)
  have B1 := Lib.hid ((below_alloc1 w _).trans (h1.mono (by simp)))
  clear h1 F0
  go_wp2_with fail
  refine (octOr_spec HN.out _).mono ?_
  rintro e w2 ⟨rfl, h2⟩
  have F2 := Lib.hid (four_keep h2 F1.out)
  have B2 := Lib.hid (B1.out.trans (h2.mono B1.out.size))
  clear h2 F1 B1
  obtain ⟨z0, z1, z2, z3, z4⟩ := F2.out
  go_wp2_with fail
  refine (toInterval_any _ _ _ _ _).mono ?_
  rintro e w3 ⟨rfl, h3⟩
  have B3 := Lib.hid (B2.out.trans (h3.mono B2.out.size))
  clear h3 F2 B2 z0 z1 z2 z3 z4
  go_wp2_with fail
  refine (octOr_impl HN.out _).mono ?_
  rintro e w4 ⟨rfl, h4⟩
  have B4 := Lib.hid (B3.out.trans (h4.mono B3.out.size))
  clear h4 B3
  go_wp2_with fail
  go_ret
  exact ⟨rfl, B4.out⟩
end Go.Proofs.Ytdnlebijmiaclaa
