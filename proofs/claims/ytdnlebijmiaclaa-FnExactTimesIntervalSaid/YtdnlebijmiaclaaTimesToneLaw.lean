/- The walk of laws.FnExactTimesInterval. -/
import Derived.Test.YtdnlebijmiaclaaTimesTone
import Derived.Test.YtdnlebijmiaclaaToneWalks
namespace Go.Proofs.Ytdnlebijmiaclaa
open Go.RowKit Go.Joins
set_option linter.unusedVariables false
/-- impl and spec answer the same interval and the same bool, in whatever world. -/
def SameTimes (a b c d n : Int) (p q r s : Int) (y : Bool) : Prop :=
  (∀ w, Calls Try.prog 29 #[ivV a b c d, .int .i64 n] w fun e w' => e = .returned (.tuple #[ivV p q r s, .bool y]) ∧ Below w.heap.size w w') ∧
  (∀ w, Calls Try.prog 21 #[ivV a b c d, .int .i64 n] w fun e w' => e = .returned (.tuple #[ivV p q r s, .bool y]) ∧ Below w.heap.size w w')
theorem same_times (a b c d n : Int) : ∃ p q r s : Int, ∃ y : Bool, SameTimes a b c d n p q r s y := by
  obtain ⟨x, hx⟩ : ∃ x : Bool, okI a b c d = x := ⟨_, rfl⟩
  cases x
  · exact ⟨0, 0, 0, 0, false, fun w => times_spec_bad _ _ _ _ _ w hx, fun w => times_impl_bad _ _ _ _ _ w hx⟩
  · by_cases h1 : n < -400
    · exact ⟨0, 0, 0, 0, false, fun w => times_spec_low _ _ _ _ _ w hx h1, fun w => times_impl_low _ _ _ _ _ w hx h1⟩
    · by_cases h2 : 400 < n
      · exact ⟨0, 0, 0, 0, false, fun w => times_spec_high _ _ _ _ _ w hx h1 h2, fun w => times_impl_high _ _ _ _ _ w hx h1 h2⟩
      · obtain ⟨y, hy⟩ : ∃ x : Bool, okI ((a * n).tdiv (gcd4 (a * n) (b * n) (c * n) d)) ((b * n).tdiv (gcd4 (a * n) (b * n) (c * n) d)) ((c * n).tdiv (gcd4 (a * n) (b * n) (c * n) d)) (d.tdiv (gcd4 (a * n) (b * n) (c * n) d)) = x := ⟨_, rfl⟩
        cases y
        · exact ⟨0, 0, 0, 0, false, fun w => times_spec_no _ _ _ _ _ _ _ _ _ w hx (by omega) (by omega) rfl rfl rfl rfl hy, fun w => times_impl_no _ _ _ _ _ _ _ _ _ w hx (by omega) (by omega) rfl rfl rfl rfl hy⟩
        · exact ⟨_, _, _, _, true, fun w => times_spec_yes _ _ _ _ _ _ _ _ _ w hx (by omega) (by omega) rfl rfl rfl rfl hy, fun w => times_impl_yes _ _ _ _ _ _ _ _ _ w hx (by omega) (by omega) rfl rfl rfl rfl hy⟩
set_option maxHeartbeats 1000000 in
theorem walk_FnExactTimesInterval (a b c d : Int) (n : Int) (wn : (Lit.int .i64 n).wf = true) (w : World) :
    Calls Try.prog 7 #[ivV a b c d, .int .i64 n] w fun e w' => e = .returned (.bool true) ∧ Below w.heap.size w w' := by
  clear wn
  obtain ⟨p, q, r, s, y, hst⟩ := same_times a b c d n
  go_enter Try.func7, Try.ntmps7
  go_wp2_with fail
  refine (toInterval_any _ _ _ _ _).mono ?_
  rintro e w1 ⟨rfl, h1⟩
  go_wp2_with fail
  refine (hst.1 _).mono ?_
  rintro e w2 ⟨rfl, h2⟩
  have s1 := h1.size
  simp at s1
  have k2 : Below (w.alloc (.cells #[.int .i64 a, .int .i64 b, .int .i64 c, .int .i64 d] 34)).heap.size (w.alloc (.cells #[.int .i64 a, .int .i64 b, .int .i64 c, .int .i64 d] 34)) w2 := h1.trans (h2.mono (by simp; omega))
  obtain ⟨hc, hf⟩ := bcellT k2
  have q0 : w2.cell? ⟨w.heap.size, 0, none⟩ = some (.int .i64 a) := by rw [hc _ _ (by simp)]; simp [go_sem]
  have q1 : w2.cell? ⟨w.heap.size, 1, none⟩ = some (.int .i64 b) := by rw [hc _ _ (by simp)]; simp [go_sem]
  have q2 : w2.cell? ⟨w.heap.size, 2, none⟩ = some (.int .i64 c) := by rw [hc _ _ (by simp)]; simp [go_sem]
  have q3 : w2.cell? ⟨w.heap.size, 3, none⟩ = some (.int .i64 d) := by rw [hc _ _ (by simp)]; simp [go_sem]
  have s2 := k2.size
  simp at s2
  have z0 : w.heap.size < w2.heap.size := by omega
  have b2 : Below w.heap.size w w2 := (below_alloc1 w _).trans (k2.mono (by simp))
  clear h1 h2 hc hf k2 s1
  go_wp2_with fail
  refine (toInterval_any _ _ _ _ _).mono ?_
  rintro e w3 ⟨rfl, h3⟩
  go_wp2_with fail
  refine (hst.2 _).mono ?_
  rintro e w4 ⟨rfl, h4⟩
  have s3 := h3.size
  have k4 := h3.trans (h4.mono s3)
  obtain ⟨hc, hf⟩ := bcellT k4
  have r0 : w4.cell? ⟨w2.heap.size, 0, none⟩ = some (.int .i64 p) := by rw [hc _ _ (by simp)]; simp [go_sem]
  have r1 : w4.cell? ⟨w2.heap.size, 1, none⟩ = some (.int .i64 q) := by rw [hc _ _ (by simp)]; simp [go_sem]
  have r2 : w4.cell? ⟨w2.heap.size, 2, none⟩ = some (.int .i64 r) := by rw [hc _ _ (by simp)]; simp [go_sem]
  have r3 : w4.cell? ⟨w2.heap.size, 3, none⟩ = some (.int .i64 s) := by rw [hc _ _ (by simp)]; simp [go_sem]
  simp at s3
  have s4 := k4.size
  simp at s4
  have z2 : w2.heap.size < w4.heap.size := by omega
  have b4 : Below w.heap.size w w4 := (b2.alloc b2.size _).trans (k4.mono (by simp; omega))
  clear h3 h4 hc hf k4 b2
  have ty : (y != y) = false := by cases y <;> rfl
  go_wp2_with fail
  refine (eqInterval_same _ _ _ _ _).mono ?_
  rintro e w5 ⟨rfl, h5⟩
  go_wp2_with fail
  go_ret
  exact ⟨rfl, (b4.alloc b4.size _).trans (h5.mono (by have := b4.size; simp; omega))⟩
end Go.Proofs.Ytdnlebijmiaclaa
