/- Contracts of impl.SimplestOf and spec.SimplestOf. -/
import Derived.Test.YtjnhfgacgobfcaaDoorSimpleWalks
namespace Go.Proofs.YtjnhfgacgobfcaaDoor
open Go.RowKit Go.Joins
set_option linter.unusedVariables false
set_option maxHeartbeats 400000 in
theorem simplest_impl_no (a b c d : Int) (w : World) (hx : okI a b c d = false) :
    Calls Tryd.prog 14 #[ivV a b c d] w fun e w' => e = .returned (ivV 0 0 0 0) ∧ Below w.heap.size w w' := by
  have HX := Lib.hid hx
  clear hx
  go_enter Tryd.func14, Tryd.ntmps14
  go_wp2_with fail
  refine (intervalOk_any _ _ _ _ _).mono ?_
  rintro e w1 ⟨rfl, hb⟩
  rw [HX.out]
  obtain ⟨hc, hf⟩ := bcellT hb
  have q0 : w1.cell? ⟨w.heap.size + 1, 0, none⟩ = some (.int .i64 0) := by rw [hc _ _ (by simp)]; simp [go_sem]
  have q1 : w1.cell? ⟨w.heap.size + 1, 1, none⟩ = some (.int .i64 0) := by rw [hc _ _ (by simp)]; simp [go_sem]
  have q2 : w1.cell? ⟨w.heap.size + 1, 2, none⟩ = some (.int .i64 0) := by rw [hc _ _ (by simp)]; simp [go_sem]
  have q3 : w1.cell? ⟨w.heap.size + 1, 3, none⟩ = some (.int .i64 0) := by rw [hc _ _ (by simp)]; simp [go_sem]
  have kb : Below w.heap.size w w1 := (below_alloc2 w _ _).trans (hb.mono (by simp; omega))
  clear hb
  go_wp2_with fail
  refine bodyPost_ret (v := ivV 0 0 0 0) (by simp [results, Tryd.results14, go_sem, q0, q1, q2, q3]) rfl ⟨rfl, ?_⟩
  repeat' (first | exact kb | (refine Below.setCell ?_ (by simp) _))
set_option maxHeartbeats 400000 in
theorem simplest_impl_yes (a b c d g : Int) (w : World) (hg : g = gcd4 a b c d) (hx : okI a b c d = true) :
    Calls Tryd.prog 14 #[ivV a b c d] w fun e w' => e = .returned (ivV (a.tdiv g) (b.tdiv g) (c.tdiv g) (d.tdiv g)) ∧ Below w.heap.size w w' := by
  have hk : 1 ≤ d ∧ d ≤ 12 ∧ -400 ≤ a ∧ a ≤ 400 ∧ -400 ≤ b ∧ b ≤ 400 ∧ -400 ≤ c ∧ c ≤ 400 := by unfold okI at hx; simpa using hx
  obtain ⟨k1, k2, k3, k4, k5, k6, k7, k8⟩ := hk
  have HG := Lib.hid hg
  clear hg
  have HX := Lib.hid hx
  clear hx
  go_enter Tryd.func14, Tryd.ntmps14
  go_wp2_with fail
  refine (intervalOk_any _ _ _ _ _).mono ?_
  rintro e w1 ⟨rfl, hb⟩
  rw [HX.out]
  obtain ⟨hc, hf⟩ := bcellT hb
  have q0 : w1.cell? ⟨w.heap.size + 1, 0, none⟩ = some (.int .i64 0) := by rw [hc _ _ (by simp)]; simp [go_sem]
  have q1 : w1.cell? ⟨w.heap.size + 1, 1, none⟩ = some (.int .i64 0) := by rw [hc _ _ (by simp)]; simp [go_sem]
  have q2 : w1.cell? ⟨w.heap.size + 1, 2, none⟩ = some (.int .i64 0) := by rw [hc _ _ (by simp)]; simp [go_sem]
  have q3 : w1.cell? ⟨w.heap.size + 1, 3, none⟩ = some (.int .i64 0) := by rw [hc _ _ (by simp)]; simp [go_sem]
  have p0 : w1.cell? ⟨w.heap.size, 0, none⟩ = some (.int .i64 a) := by rw [hc _ _ (by simp; omega)]; simp [go_sem]
  have p1 : w1.cell? ⟨w.heap.size, 1, none⟩ = some (.int .i64 b) := by rw [hc _ _ (by simp; omega)]; simp [go_sem]
  have p2 : w1.cell? ⟨w.heap.size, 2, none⟩ = some (.int .i64 c) := by rw [hc _ _ (by simp; omega)]; simp [go_sem]
  have p3 : w1.cell? ⟨w.heap.size, 3, none⟩ = some (.int .i64 d) := by rw [hc _ _ (by simp; omega)]; simp [go_sem]
  have kb : Below w.heap.size w w1 := (below_alloc2 w _ _).trans (hb.mono (by simp; omega))
  have hz := hb.size
  simp at hz
  have f1 : ∀ o, w1.frozen? ⟨w.heap.size + 1, o, none⟩ = false := fun o => by rw [hf _ _ (by simp)]; simp [go_sem]
  have F1 := Lib.hid f1
  clear hb hc hf f1
  go_wp2_with fail
  refine (divided_any _ _ _ _ g _ HG.out (by omega) (by omega) (by omega) (by omega) (by omega) (by omega) (by omega) (by omega)).mono ?_
  rintro e w2 ⟨rfl, hb2⟩
  obtain ⟨hc2, hf2⟩ := bcellT hb2
  have r0 : w2.cell? ⟨w.heap.size + 1, 0, none⟩ = some (.int .i64 0) := by rw [hc2 _ _ (by omega)]; exact q0
  have r1 : w2.cell? ⟨w.heap.size + 1, 1, none⟩ = some (.int .i64 0) := by rw [hc2 _ _ (by omega)]; exact q1
  have r2 : w2.cell? ⟨w.heap.size + 1, 2, none⟩ = some (.int .i64 0) := by rw [hc2 _ _ (by omega)]; exact q2
  have r3 : w2.cell? ⟨w.heap.size + 1, 3, none⟩ = some (.int .i64 0) := by rw [hc2 _ _ (by omega)]; exact q3
  have f2 : ∀ o, w2.frozen? ⟨w.heap.size + 1, o, none⟩ = false := fun o => by rw [hf2 _ _ (by omega)]; exact F1.out o
  have kb2 : Below w.heap.size w w2 := kb.trans (hb2.mono (by omega))
  clear hb2 hc2 hf2 q0 q1 q2 q3 p0 p1 p2 p3
  go_wp2_with fail
  refine bodyPost_ret (v := ivV (a.tdiv g) (b.tdiv g) (c.tdiv g) (d.tdiv g)) (by simp [results, Tryd.results14, go_sem, r0, r1, r2, r3]) rfl ⟨rfl, ?_⟩
  repeat' (first | exact kb2 | (refine Below.setCell ?_ (by simp) _))
end Go.Proofs.YtjnhfgacgobfcaaDoor
