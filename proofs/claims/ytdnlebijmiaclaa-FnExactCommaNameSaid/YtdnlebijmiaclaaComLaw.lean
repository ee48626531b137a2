/- The walks of laws.FnExactCommaOf and laws.FnExactCommaName. -/
import Derived.Test.YtdnlebijmiaclaaComWalks
namespace Go.Proofs.Ytdnlebijmiaclaa
open Go.RowKit Go.Joins
set_option linter.unusedVariables false
set_option maxHeartbeats 1000000 in
theorem walk_FnExactCommaOf (a0 : Int) (w0 : (Lit.int .i64 a0).wf = true) (w : World) :
    Calls Try.prog 15 #[.int .i64 a0] w fun e w' => e = .returned (.bool true) ∧ Below w.heap.size w w' := by
  clear w0
  obtain ⟨a, b, c, d, s, h⟩ := comAt_ex a0
  have S1 := Lib.hid (fun w => comma_spec h w)
  have S2 := Lib.hid (fun w => comma_impl h w)
  clear h
  go_enter Try.func15, Try.ntmps15
  go_wp2_with fail
  refine (S1.out _).mono ?_
  rintro e w1 ⟨rfl, h1⟩
  go_wp2_with fail
  refine (S2.out _).mono ?_
  rintro e w2 ⟨rfl, h2⟩
  obtain ⟨hc, hf⟩ := bcellT h2
  have q0 : w2.cell? ⟨w1.heap.size, 0, none⟩ = some (.int .i64 a) := by rw [hc _ _ (by simp)]; simp [go_sem]
  have q1 : w2.cell? ⟨w1.heap.size, 1, none⟩ = some (.int .i64 b) := by rw [hc _ _ (by simp)]; simp [go_sem]
  have q2 : w2.cell? ⟨w1.heap.size, 2, none⟩ = some (.int .i64 c) := by rw [hc _ _ (by simp)]; simp [go_sem]
  have q3 : w2.cell? ⟨w1.heap.size, 3, none⟩ = some (.int .i64 d) := by rw [hc _ _ (by simp)]; simp [go_sem]
  have hz := h2.size
  simp at hz
  have hz1 : w1.heap.size < w2.heap.size := by omega
  have hz0 := h1.size
  have k2 : Below w.heap.size w w2 := (h1.alloc h1.size _).trans (h2.mono (by simp; omega))
  clear hz h2 hc hf
  go_wp2_with fail
  refine (eqInterval_same _ _ _ _ _).mono ?_
  rintro e w3 ⟨rfl, h3⟩
  go_wp2_with fail
  go_ret
  exact ⟨rfl, (k2.alloc k2.size _).trans (h3.mono (by have := k2.size; simp; omega))⟩
theorem walk_FnExactCommaName (a0 : Int) (w0 : (Lit.int .i64 a0).wf = true) (w : World) :
    Calls Try.prog 16 #[.int .i64 a0] w fun e w' => e = .returned (.bool true) ∧ Below w.heap.size w w' := by
  clear w0
  obtain ⟨a, b, c, d, x, h⟩ := comAt_ex a0
  have S1 := Lib.hid (fun w => comName_spec h w)
  have S2 := Lib.hid (fun w => comName_impl h w)
  clear h
  go_enter Try.func16, Try.ntmps16
  go_wp2_with fail
  refine (S1.out _).mono ?_
  rintro e w1 ⟨rfl, hb1⟩
  have B1 := Lib.hid hb1
  clear hb1
  go_wp2_with fail
  refine (S2.out _).mono ?_
  rintro e w2 ⟨rfl, hb2⟩
  have B2 := Lib.hid (B1.out.trans (hb2.mono B1.out.size))
  clear hb2
  go_wp2_with fail
  go_ret
  exact ⟨rfl, B2.out⟩
end Go.Proofs.Ytdnlebijmiaclaa
