/- The walk of laws.FnExactBestMap. -/
import Derived.Deep.DeepCutAuto
import Derived.Test.YthbjndaemmaoaaaBestMap
import Derived.Test.YthbjndaemmaoaaaStepSzLaw
namespace Go.Proofs.Ythbjndaemmaoaaa
open Go.RowKit Go.Joins
set_option linter.unusedVariables false
set_option maxHeartbeats 1000000 in
theorem walk_FnExactBestMap (n : Int) (_ : (Lit.int .i64 n).wf = true) (w : World) :
    Calls Try.prog 8 #[.int .i64 n] w fun e w' => e = .returned (.bool true) ∧ Below w.heap.size w w' := by
  obtain ⟨a, b, c, hst⟩ := bestAt_ex n
  have HST := Lib.hid hst
  clear hst
  go_enter Try.func8, Try.ntmps8
  go_wp2_with fail
  refine (best_spec HST.out _).mono ?_
  rintro e w2 ⟨rfl, h2⟩
  have G2 := Lib.hid (tri_alloc (w := w2) (p := a) (q := b) (r := c) (t := 25))
  have B2 := Lib.hid (below_grow h2 (.cells #[.int .i64 a, .int .i64 b, .int .i64 c] 25))
  clear h2
  go_upto_region 2 with fail
  obtain ⟨W2, hW⟩ : ∃ W, W = w2.alloc (.cells #[.int .i64 a, .int .i64 b, .int .i64 c] 25) := ⟨_, rfl⟩
  rw [← hW] at G2 B2 ⊢
  clear hW
  generalize w2.heap.size = m2 at G2 ⊢
  go_wp2_with fail
  refine (best_impl HST.out _).mono ?_
  rintro e w4 ⟨rfl, h4⟩
  have G4 := Lib.hid (tri_al (o := .cells #[.int .i64 a, .int .i64 b, .int .i64 c] 25) (tri_keep h4 G2.out))
  have K4 := Lib.hid (tri_alloc (w := w4) (p := a) (q := b) (r := c) (t := 25))
  have B4 := Lib.hid (below_grow (B2.out.trans (h4.mono B2.out.size)) (.cells #[.int .i64 a, .int .i64 b, .int .i64 c] 25))
  clear h4 B2 G2
  go_upto_region 3 with fail
  obtain ⟨W4, hW⟩ : ∃ W, W = w4.alloc (.cells #[.int .i64 a, .int .i64 b, .int .i64 c] 25) := ⟨_, rfl⟩
  rw [← hW] at G4 K4 B4 ⊢
  clear hW
  generalize w4.heap.size = m4 at K4 ⊢
  obtain ⟨x0, x1, x2, x3⟩ := G4.out
  obtain ⟨y0, y1, y2, y3⟩ := K4.out
  go_wp2_with fail
  refine (eqMap_same _ _ _ _).mono ?_
  rintro e w5 ⟨rfl, h5⟩
  have B5 := Lib.hid (B4.out.trans (h5.mono B4.out.size))
  clear h5 B4
  go_wp2_with fail
  go_ret
  exact ⟨rfl, B5.out⟩
end Go.Proofs.Ythbjndaemmaoaaa
