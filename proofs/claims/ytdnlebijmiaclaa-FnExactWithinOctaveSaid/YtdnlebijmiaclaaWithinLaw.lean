/- The walk of laws.FnExactWithinOctave. -/
import Derived.Test.YtdnlebijmiaclaaOctWalks
import Derived.Test.YtdnlebijmiaclaaSOctWalks
import Derived.Test.YtdnlebijmiaclaaToneWalks
namespace Go.Proofs.Ytdnlebijmiaclaa
open Go.RowKit Go.Joins
set_option linter.unusedVariables false
set_option maxHeartbeats 1000000 in
theorem walk_FnExactWithinOctave (a b c d : Int) (w : World) :
    Calls Try.prog 10 #[ivV a b c d] w fun e w' => e = .returned (.bool true) ∧ Below w.heap.size w w' := by
  obtain ⟨p, q, r, s, y, hst⟩ := withinAt_ex a b c d
  have HST := Lib.hid hst
  clear hst
  go_enter Try.func10, Try.ntmps10
  go_wp2_with fail
  refine (toInterval_any _ _ _ _ _).mono ?_
  rintro e w1 ⟨rfl, h1⟩
  go_wp2_with fail
  refine (within_spec HST.out _).mono ?_
  rintro e w2 ⟨rfl, h2⟩
  have s1 := h1.size
  simp at s1
  have k2 : Below (w.alloc (.cells #[.int .i64 a, .int .i64 b, .int .i64 c, .int .i64 d] 34)).heap.size (w.alloc (.cells #[.int .i64 a, .int .i64 b, .int .i64 c, .int .i64 d] 34)) w2 := h1.trans (h2.mono (by simp; omega))
  obtain ⟨hc, hf⟩ := bcellT k2
  have q0 : w2.cell? ⟨w.heap.size, 0, none⟩ = some (.int .i64 a) := by rw [hc _ _ (by simp)]; simp [go_sem]
  have q1 : w2.cell? ⟨w.heap.size, 1, none⟩ = some (.int .i64 b) := by rw [hc _ _ (by simp)]; simp [go_sem]
  have q2 : w2.cell? ⟨w.heap.size, 2, none⟩ = some (.int .i64 c) := by rw [hc _ _ (by simp)]; simp [go_sem]
  have q3 : w2.cell? ⟨w.heap.size, 3, none⟩ = some (.int .i64 d) := by rw [hc _ _ (by simp)]; simp [go_sem]
  have s2 := k2.size
  simp at s2
  have z0 : w.heap.size < w2.heap.size := by omega
  have b2 : Below w.heap.size w w2 := (below_alloc1 w _).trans (k2.mono (by simp))
  clear h1 h2 hc hf k2 s1
  go_wp2_with fail
  refine (toInterval_any _ _ _ _ _).mono ?_
  rintro e w3 ⟨rfl, h3⟩
  go_wp2_with fail
  refine (within_impl HST.out _).mono ?_
  rintro e w4 ⟨rfl, h4⟩
  have s3 := h3.size
  have k4 := h3.trans (h4.mono s3)
  obtain ⟨hc, hf⟩ := bcellT k4
  have r0 : w4.cell? ⟨w2.heap.size, 0, none⟩ = some (.int .i64 p) := by rw [hc _ _ (by simp)]; simp [go_sem]
  have r1 : w4.cell? ⟨w2.heap.size, 1, none⟩ = some (.int .i64 q) := by rw [hc _ _ (by simp)]; simp [go_sem]
  have r2 : w4.cell? ⟨w2.heap.size, 2, none⟩ = some (.int .i64 r) := by rw [hc _ _ (by simp)]; simp [go_sem]
  have r3 : w4.cell? ⟨w2.heap.size, 3, none⟩ = some (.int .i64 s) := by rw [hc _ _ (by simp)]; simp [go_sem]
  simp at s3
  have s4 := k4.size
  simp at s4
  have z2 : w2.heap.size < w4.heap.size := by omega
  have b4 : Below w.heap.size w w4 := (b2.alloc b2.size _).trans (k4.mono (by simp; omega))
  clear h3 h4 hc hf k4 b2
  have ty : (y != y) = false := by cases y <;> rfl
  go_wp2_with fail
  refine (eqInterval_same _ _ _ _ _).mono ?_
  rintro e w5 ⟨rfl, h5⟩
  go_wp2_with fail
  go_ret
  exact ⟨rfl, (b4.alloc b4.size _).trans (h5.mono (by have := b4.size; simp; omega))⟩
end Go.Proofs.Ytdnlebijmiaclaa
