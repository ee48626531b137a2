/- The walk of laws.FnExactPureOf. -/
import Derived.Test.YtohhocheikdhlaaPureWalks
namespace Go.Proofs.Ytohhocheikdhlaa
open Go.RowKit Go.Joins
set_option linter.unusedVariables false
set_option maxHeartbeats 1000000 in
theorem walk_FnExactPureOf (a : Int) (w0 : (Lit.int .i64 a).wf = true) (b : Int) (w1 : (Lit.int .i64 b).wf = true) (c : Int) (w2 : (Lit.int .i64 c).wf = true) (w : World) :
    Calls Try.prog 8 #[.int .i64 a, .int .i64 b, .int .i64 c] w fun e w' => e = .returned (.bool true) ∧ Below w.heap.size w w' := by
  clear w0 w1 w2
  obtain ⟨x, hx⟩ : ∃ x : Bool, okI a b c 1 = x := ⟨_, rfl⟩
  have HX := Lib.hid hx
  clear hx
  cases x
  · go_enter Try.func8, Try.ntmps8
    go_wp2_with fail
    refine (pure_spec_no _ _ _ _ HX.out).mono ?_
    rintro e w1 ⟨rfl, h1⟩
    go_wp2_with fail
    refine (pure_impl_no _ _ _ _ HX.out).mono ?_
    rintro e w2 ⟨rfl, h2⟩
    obtain ⟨hc, hf⟩ := bcellT h2
    have q0 : w2.cell? ⟨w1.heap.size, 0, none⟩ = some (.int .i64 0) := by rw [hc _ _ (by simp)]; simp [go_sem]
    have q1 : w2.cell? ⟨w1.heap.size, 1, none⟩ = some (.int .i64 0) := by rw [hc _ _ (by simp)]; simp [go_sem]
    have q2 : w2.cell? ⟨w1.heap.size, 2, none⟩ = some (.int .i64 0) := by rw [hc _ _ (by simp)]; simp [go_sem]
    have q3 : w2.cell? ⟨w1.heap.size, 3, none⟩ = some (.int .i64 0) := by rw [hc _ _ (by simp)]; simp [go_sem]
    have hz := h2.size
    simp at hz
    have hz1 : w1.heap.size < w2.heap.size := by omega
    have hz0 := h1.size
    have k2 : Below w.heap.size w w2 := (h1.alloc h1.size _).trans (h2.mono (by simp; omega))
    clear hz h2 hc hf
    go_wp2_with fail
    refine (eqInterval_same _ _ _ _ _).mono ?_
    rintro e w3 ⟨rfl, h3⟩
    go_wp2_with fail
    go_ret
    exact ⟨rfl, (k2.alloc k2.size _).trans (h3.mono (by have := k2.size; simp; omega))⟩
  · go_enter Try.func8, Try.ntmps8
    go_wp2_with fail
    refine (pure_spec_yes _ _ _ _ HX.out).mono ?_
    rintro e w1 ⟨rfl, h1⟩
    go_wp2_with fail
    refine (pure_impl_yes _ _ _ _ HX.out).mono ?_
    rintro e w2 ⟨rfl, h2⟩
    obtain ⟨hc, hf⟩ := bcellT h2
    have q0 : w2.cell? ⟨w1.heap.size, 0, none⟩ = some (.int .i64 a) := by rw [hc _ _ (by simp)]; simp [go_sem]
    have q1 : w2.cell? ⟨w1.heap.size, 1, none⟩ = some (.int .i64 b) := by rw [hc _ _ (by simp)]; simp [go_sem]
    have q2 : w2.cell? ⟨w1.heap.size, 2, none⟩ = some (.int .i64 c) := by rw [hc _ _ (by simp)]; simp [go_sem]
    have q3 : w2.cell? ⟨w1.heap.size, 3, none⟩ = some (.int .i64 1) := by rw [hc _ _ (by simp)]; simp [go_sem]
    have hz := h2.size
    simp at hz
    have hz1 : w1.heap.size < w2.heap.size := by omega
    have hz0 := h1.size
    have k2 : Below w.heap.size w w2 := (h1.alloc h1.size _).trans (h2.mono (by simp; omega))
    clear hz h2 hc hf
    go_wp2_with fail
    refine (eqInterval_same _ _ _ _ _).mono ?_
    rintro e w3 ⟨rfl, h3⟩
    go_wp2_with fail
    go_ret
    exact ⟨rfl, (k2.alloc k2.size _).trans (h3.mono (by have := k2.size; simp; omega))⟩
end Go.Proofs.Ytohhocheikdhlaa
