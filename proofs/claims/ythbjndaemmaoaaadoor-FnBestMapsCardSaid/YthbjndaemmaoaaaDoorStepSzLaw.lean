/- Contracts of StepSize, both sides, and the walk of laws.FnExactStepSize. -/
import Derived.Deep.DeepCutAuto
import Derived.Test.YthbjndaemmaoaaaDoorMapImpl
namespace Go.Proofs.YthbjndaemmaoaaaDoor
open Go.RowKit Go.Joins
set_option linter.unusedVariables false
/-- What StepSize answers: the power of 2 and the root. -/
def StAt (a b c p s : Int) : Prop := (okM a b c = true ∧ a ≤ 12 ∧ p = 1 ∧ a = s) ∨ (okM a b c = true ∧ 12 < a ∧ p = 0 ∧ s = 0) ∨ (okM a b c = false ∧ p = 0 ∧ s = 0)
theorem stAt_ex (a b c : Int) : ∃ p s, StAt a b c p s := by
  obtain ⟨x, hx⟩ : ∃ x : Bool, okM a b c = x := ⟨_, rfl⟩
  cases x
  · exact ⟨0, 0, .inr (.inr ⟨hx, rfl, rfl⟩)⟩
  · rcases (show a ≤ 12 ∨ 12 < a from by omega) with h | h
    · exact ⟨1, a, .inl ⟨hx, h, rfl, rfl⟩⟩
    · exact ⟨0, 0, .inr (.inl ⟨hx, h, rfl, rfl⟩)⟩
theorem four_al4 {w : World} {m : Nat} {p q r s : Int} {o : Obj} (h : Four m p q r s w) : Four m p q r s (w.alloc o) := four_keep ((Below.refl _ _).alloc (Nat.le_refl _) o) h
theorem below_grow {w w' : World} (h : Below w.heap.size w w') (o : Obj) : Below w.heap.size w (w'.alloc o) := h.alloc h.size o
set_option maxHeartbeats 1000000 in
theorem ststep_impl {a b c p s : Int} (h : StAt a b c p s) (w : World) : Calls Tryd.prog 9 #[mapV a b c] w fun e w' => e = .returned (ivV p 0 0 s) ∧ Below w.heap.size w w' := by
  rcases h with ⟨hx, ha, rfl, rfl⟩ | ⟨hx, ha, rfl, rfl⟩ | ⟨hx, rfl, rfl⟩
  all_goals
    have HX := Lib.hid hx
    clear hx
    go_enter Tryd.func9, Tryd.ntmps9
    go_wp2_with fail
    refine (mapOk_impl _ _ _ _).mono ?_
    rintro e w1 ⟨rfl, hb⟩
    rw [HX.out]
    obtain ⟨hc, hf⟩ := bcellT hb
    have q0 : w1.cell? ⟨w.heap.size + 1, 0, none⟩ = some (.int .i64 0) := by rw [hc _ _ (by simp)]; simp [go_sem]
    have q1 : w1.cell? ⟨w.heap.size + 1, 1, none⟩ = some (.int .i64 0) := by rw [hc _ _ (by simp)]; simp [go_sem]
    have q2 : w1.cell? ⟨w.heap.size + 1, 2, none⟩ = some (.int .i64 0) := by rw [hc _ _ (by simp)]; simp [go_sem]
    have q3 : w1.cell? ⟨w.heap.size + 1, 3, none⟩ = some (.int .i64 0) := by rw [hc _ _ (by simp)]; simp [go_sem]
    have x0 : w1.cell? ⟨w.heap.size, 0, none⟩ = some (.int .i64 a) := by rw [hc _ _ (by simp; omega)]; simp [go_sem]
    have x1 : w1.cell? ⟨w.heap.size, 1, none⟩ = some (.int .i64 b) := by rw [hc _ _ (by simp; omega)]; simp [go_sem]
    have x2 : w1.cell? ⟨w.heap.size, 2, none⟩ = some (.int .i64 c) := by rw [hc _ _ (by simp; omega)]; simp [go_sem]
    have kb : Below w.heap.size w w1 := (below_alloc2 w _ _).trans (hb.mono (by simp; omega))
    clear hb
    go_wp2_with fail
    first
      | (refine bodyPost_ret (v := ivV 1 0 0 a) (by simp [results, Tryd.results9, go_sem, q0, q1, q2, q3]) rfl ⟨rfl, ?_⟩
         repeat' (first | exact kb | (refine Below.setCell ?_ (by simp) _)))
      | (refine bodyPost_ret (v := ivV 0 0 0 0) (by simp [results, Tryd.results9, go_sem, q0, q1, q2, q3]) rfl ⟨rfl, ?_⟩
         repeat' (first | exact kb | (refine Below.setCell ?_ (by simp) _)))
end Go.Proofs.YthbjndaemmaoaaaDoor
