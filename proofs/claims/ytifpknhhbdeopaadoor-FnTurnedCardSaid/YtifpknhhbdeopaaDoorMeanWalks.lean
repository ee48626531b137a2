/- Contracts of MeanFifth, both sides, and of impl's tuning: a function value that holds a fifth in a block. -/
import Derived.Test.YtifpknhhbdeopaaDoorMeanMath
import Derived.Test.YtifpknhhbdeopaaDoorComSplit
import Derived.Test.YtifpknhhbdeopaaDoorSOctWalks
namespace Go.Proofs.YtifpknhhbdeopaaDoor
open Go.RowKit Go.Joins
set_option linter.unusedVariables false
theorem four_last {w : World} {m : Nat} {p q r s s' : Int} (h : Four m p q r s w) : Four m p q r s' (w.setCell ⟨m, 3, none⟩ (.int .i64 s')) := by
  obtain ⟨k, k0, k1, k2, k3⟩ := h
  exact ⟨by simpa using k, by simp [go_sem, k0], by simp [go_sem, k1], by simp [go_sem, k2], by simp [go_sem, k3]⟩
theorem zero4_oth {w : World} {n m j : Nat} {v : Value} (hn : n ≠ m) (h : Zero4 m w) : Zero4 m (w.setCell ⟨n, j, none⟩ v) := by
  obtain ⟨⟨k, k0, k1, k2, k3⟩, hf⟩ := h
  exact ⟨⟨by simpa using k, by simp [go_sem, k0], by simp [go_sem, k1], by simp [go_sem, k2], by simp [go_sem, k3]⟩, fun o => by simp [go_sem, hf]⟩
/-- What MeanFifth answers. -/
def MfAt (num den p q r s : Int) (y : Bool) : Prop :=
  (PartOk num den ∧ p = (mfV num den).two ∧ q = (mfV num den).three ∧ r = (mfV num den).five ∧ s = (mfV num den).root ∧ y = true) ∨
  ((den < 1 ∨ (¬ den < 1 ∧ 12 < den) ∨ (¬ den < 1 ∧ ¬ 12 < den ∧ num < 0) ∨ (¬ den < 1 ∧ ¬ 12 < den ∧ ¬ num < 0 ∧ den < num)) ∧ p = 0 ∧ q = 0 ∧ r = 0 ∧ s = 0 ∧ y = false)
theorem mfAt_ex (num den : Int) : ∃ p q r s y, MfAt num den p q r s y := by
  by_cases h : PartOk num den
  · exact ⟨_, _, _, _, _, .inl ⟨h, rfl, rfl, rfl, rfl, rfl⟩⟩
  · refine ⟨_, _, _, _, _, .inr ⟨?_, rfl, rfl, rfl, rfl, rfl⟩⟩
    unfold PartOk at h
    omega
theorem mf_check {num den : Int} (h : PartOk num den) : CheckAt (4 * num - den) (den - 4 * num) num den (mfV num den).two (mfV num den).three (mfV num den).five (mfV num den).root true := by
  have ok := mf_ok h
  obtain ⟨h1, h2, h3, h4⟩ := h
  exact sim_check (X := ⟨4 * num - den, den - 4 * num, num, den⟩) (by simp only; omega) rfl ok
set_option maxHeartbeats 1000000 in
/-- The pure fifth some times and the syntonic comma some times. -/
theorem sumMean_impl {a b p q r : Int} (ha : -100 ≤ a ∧ a ≤ 100) (hb : -100 ≤ b ∧ b ≤ 100) (h1 : p = -a + b * -4) (h2 : q = a + b * 4) (h3 : r = -b) (w : World) :
    Calls Tryd.prog 32 #[ivV (-1) 1 0 1, .int .i64 a, ivV (-4) 4 (-1) 1, .int .i64 b] w fun e w' => e = .returned (ivV p q r 1) ∧ Below w.heap.size w w' := by
  have v0 : IntKind.i64.wrap (-a) = -a := IntWalk.i64_in _ (by omega)
  have v1 : IntKind.i64.wrap a = a := IntWalk.i64_in _ (by omega)
  have v2 : IntKind.i64.wrap (b * -4) = b * -4 := IntWalk.i64_in _ (by omega)
  have v4 : IntKind.i64.wrap (b * 4) = b * 4 := IntWalk.i64_in _ (by omega)
  have v5 : IntKind.i64.wrap (-b) = -b := IntWalk.i64_in _ (by omega)
  have v6 : IntKind.i64.wrap (-a + b * -4) = p := by rw [IntWalk.i64_in _ (by omega)]; exact h1.symm
  have v7 : IntKind.i64.wrap (a + b * 4) = q := by rw [IntWalk.i64_in _ (by omega)]; exact h2.symm
  have H3 := Lib.hid h3
  clear h1 h2 h3
  go_enter Tryd.func32, Tryd.ntmps32
  go_wp2_with fail
  refine bodyPost_ret (v := ivV p q (-b) 1) (by simp [results, Tryd.results32, go_sem]) rfl ⟨by rw [H3.out], ?_⟩
  exact ((below_alloc1 w _).alloc (by simp) _).alloc (by simp; omega) _
end Go.Proofs.YtifpknhhbdeopaaDoor
