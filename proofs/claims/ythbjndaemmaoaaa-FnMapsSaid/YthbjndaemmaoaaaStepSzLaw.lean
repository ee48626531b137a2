/- Contracts of StepSize, both sides, and the walk of laws.FnExactStepSize. -/
import Derived.Deep.DeepCutAuto
import Derived.Test.YthbjndaemmaoaaaMapImpl
namespace Go.Proofs.Ythbjndaemmaoaaa
open Go.RowKit Go.Joins
set_option linter.unusedVariables false
/-- What StepSize answers: the power of 2 and the root. -/
def StAt (a b c p s : Int) : Prop := (okM a b c = true ∧ a ≤ 12 ∧ p = 1 ∧ a = s) ∨ (okM a b c = true ∧ 12 < a ∧ p = 0 ∧ s = 0) ∨ (okM a b c = false ∧ p = 0 ∧ s = 0)
theorem stAt_ex (a b c : Int) : ∃ p s, StAt a b c p s := by
  obtain ⟨x, hx⟩ : ∃ x : Bool, okM a b c = x := ⟨_, rfl⟩
  cases x
  · exact ⟨0, 0, .inr (.inr ⟨hx, rfl, rfl⟩)⟩
  · rcases (show a ≤ 12 ∨ 12 < a from by omega) with h | h
    · exact ⟨1, a, .inl ⟨hx, h, rfl, rfl⟩⟩
    · exact ⟨0, 0, .inr (.inl ⟨hx, h, rfl, rfl⟩)⟩
theorem four_al4 {w : World} {m : Nat} {p q r s : Int} {o : Obj} (h : Four m p q r s w) : Four m p q r s (w.alloc o) := four_keep ((Below.refl _ _).alloc (Nat.le_refl _) o) h
theorem below_grow {w w' : World} (h : Below w.heap.size w w') (o : Obj) : Below w.heap.size w (w'.alloc o) := h.alloc h.size o
set_option maxHeartbeats 1000000 in
theorem ststep_impl {a b c p s : Int} (h : StAt a b c p s) (w : World) : Calls Try.prog 22 #[mapV a b c] w fun e w' => e = .returned (ivV p 0 0 s) ∧ Below w.heap.size w w' := by
  rcases h with ⟨hx, ha, rfl, rfl⟩ | ⟨hx, ha, rfl, rfl⟩ | ⟨hx, rfl, rfl⟩
  all_goals
    have HX := Lib.hid hx
    clear hx
    go_enter Try.func22, Try.ntmps22
    go_wp2_with fail
    refine (mapOk_impl _ _ _ _).mono ?_
    rintro e w1 ⟨rfl, hb⟩
    rw [HX.out]
    obtain ⟨hc, hf⟩ := bcellT hb
    have q0 : w1.cell? ⟨w.heap.size + 1, 0, none⟩ = some (.int .i64 0) := by rw [hc _ _ (by simp)]; simp [go_sem]
    have q1 : w1.cell? ⟨w.heap.size + 1, 1, none⟩ = some (.int .i64 0) := by rw [hc _ _ (by simp)]; simp [go_sem]
    have q2 : w1.cell? ⟨w.heap.size + 1, 2, none⟩ = some (.int .i64 0) := by rw [hc _ _ (by simp)]; simp [go_sem]
    have q3 : w1.cell? ⟨w.heap.size + 1, 3, none⟩ = some (.int .i64 0) := by rw [hc _ _ (by simp)]; simp [go_sem]
    have x0 : w1.cell? ⟨w.heap.size, 0, none⟩ = some (.int .i64 a) := by rw [hc _ _ (by simp; omega)]; simp [go_sem]
    have x1 : w1.cell? ⟨w.heap.size, 1, none⟩ = some (.int .i64 b) := by rw [hc _ _ (by simp; omega)]; simp [go_sem]
    have x2 : w1.cell? ⟨w.heap.size, 2, none⟩ = some (.int .i64 c) := by rw [hc _ _ (by simp; omega)]; simp [go_sem]
    have kb : Below w.heap.size w w1 := (below_alloc2 w _ _).trans (hb.mono (by simp; omega))
    clear hb
    go_wp2_with fail
    first
      | (refine bodyPost_ret (v := ivV 1 0 0 a) (by simp [results, Try.results22, go_sem, q0, q1, q2, q3]) rfl ⟨rfl, ?_⟩
         repeat' (first | exact kb | (refine Below.setCell ?_ (by simp) _)))
      | (refine bodyPost_ret (v := ivV 0 0 0 0) (by simp [results, Try.results22, go_sem, q0, q1, q2, q3]) rfl ⟨rfl, ?_⟩
         repeat' (first | exact kb | (refine Below.setCell ?_ (by simp) _)))
set_option maxHeartbeats 1000000 in
theorem ststep_spec {a b c p s : Int} (h : StAt a b c p s) (w : World) : Calls Try.prog 21 #[mapV a b c] w fun e w' => e = .returned (ivV p 0 0 s) ∧ Below w.heap.size w w' := by
  rcases h with ⟨hx, ha, rfl, rfl⟩ | ⟨hx, ha, rfl, rfl⟩ | ⟨hx, rfl, rfl⟩
  all_goals
    have HX := Lib.hid hx
    clear hx
    go_enter Try.func21, Try.ntmps21
    go_wp2_with fail
    refine (smapOk_any _ _ _ _).mono ?_
    rintro e w1 ⟨rfl, hb⟩
    rw [HX.out]
    obtain ⟨hc, hf⟩ := bcellT hb
    have q0 : w1.cell? ⟨w.heap.size + 1, 0, none⟩ = some (.int .i64 0) := by rw [hc _ _ (by simp)]; simp [go_sem]
    have q1 : w1.cell? ⟨w.heap.size + 1, 1, none⟩ = some (.int .i64 0) := by rw [hc _ _ (by simp)]; simp [go_sem]
    have q2 : w1.cell? ⟨w.heap.size + 1, 2, none⟩ = some (.int .i64 0) := by rw [hc _ _ (by simp)]; simp [go_sem]
    have q3 : w1.cell? ⟨w.heap.size + 1, 3, none⟩ = some (.int .i64 0) := by rw [hc _ _ (by simp)]; simp [go_sem]
    have x0 : w1.cell? ⟨w.heap.size, 0, none⟩ = some (.int .i64 a) := by rw [hc _ _ (by simp; omega)]; simp [go_sem]
    have x1 : w1.cell? ⟨w.heap.size, 1, none⟩ = some (.int .i64 b) := by rw [hc _ _ (by simp; omega)]; simp [go_sem]
    have x2 : w1.cell? ⟨w.heap.size, 2, none⟩ = some (.int .i64 c) := by rw [hc _ _ (by simp; omega)]; simp [go_sem]
    have kb : Below w.heap.size w w1 := (below_alloc2 w _ _).trans (hb.mono (by simp; omega))
    clear hb
    go_wp2_with fail
    first
      | (refine bodyPost_ret (v := ivV 1 0 0 a) (by simp [results, Try.results21, go_sem, q0, q1, q2, q3]) rfl ⟨rfl, ?_⟩
         repeat' (first | exact kb | (refine Below.setCell ?_ (by simp) _)))
      | (refine bodyPost_ret (v := ivV 0 0 0 0) (by simp [results, Try.results21, go_sem, q0, q1, q2, q3]) rfl ⟨rfl, ?_⟩
         repeat' (first | exact kb | (refine Below.setCell ?_ (by simp) _)))
set_option maxHeartbeats 1000000 in
theorem walk_FnExactStepSize (a b c : Int) (w : World) :
    Calls Try.prog 6 #[mapV a b c] w fun e w' => e = .returned (.bool true) ∧ Below w.heap.size w w' := by
  obtain ⟨p, s, hst⟩ := stAt_ex a b c
  have HST := Lib.hid hst
  clear hst
  go_enter Try.func6, Try.ntmps6
  go_wp2_with fail
  have F0 := Lib.hid (tri_alloc (w := w) (p := a) (q := b) (r := c) (t := 38))
  have B0 := Lib.hid (below_alloc1 w (.cells #[.int .i64 a, .int .i64 b, .int .i64 c] 38))
  refine (toMap_any _ _ _ _).mono ?_
  rintro e w1 ⟨rfl, h1⟩
  have F1 := Lib.hid (tri_keep h1 F0.out)
  have B1 := Lib.hid (B0.out.trans (h1.mono B0.out.size))
  clear h1 F0 B0
  go_wp2_with fail
  refine (ststep_spec HST.out _).mono ?_
  rintro e w2 ⟨rfl, h2⟩
  have F2 := Lib.hid (tri_al (o := .cells #[.int .i64 p, .int .i64 0, .int .i64 0, .int .i64 s] 29) (tri_keep h2 F1.out))
  have G2 := Lib.hid (four_alloc (w := w2) (p := p) (q := 0) (r := 0) (s := s) (t := 29))
  have B2 := Lib.hid (below_grow (B1.out.trans (h2.mono B1.out.size)) (.cells #[.int .i64 p, .int .i64 0, .int .i64 0, .int .i64 s] 29))
  clear h2 F1 B1
  go_upto_region 2 with fail
  obtain ⟨W2, hW⟩ : ∃ W, W = w2.alloc (.cells #[.int .i64 p, .int .i64 0, .int .i64 0, .int .i64 s] 29) := ⟨_, rfl⟩
  rw [← hW] at F2 G2 B2 ⊢
  clear hW
  generalize w2.heap.size = m2 at G2 ⊢
  obtain ⟨z0, z1, z2, z3⟩ := F2.out
  go_wp2_with fail
  refine (toMap_any _ _ _ _).mono ?_
  rintro e w3 ⟨rfl, h3⟩
  have G3 := Lib.hid (four_keep h3 G2.out)
  have B3 := Lib.hid (B2.out.trans (h3.mono B2.out.size))
  clear h3 F2 B2 G2 z0 z1 z2 z3
  go_wp2_with fail
  refine (ststep_impl HST.out _).mono ?_
  rintro e w4 ⟨rfl, h4⟩
  have G4 := Lib.hid (four_al4 (o := .cells #[.int .i64 p, .int .i64 0, .int .i64 0, .int .i64 s] 29) (four_keep h4 G3.out))
  have K4 := Lib.hid (four_alloc (w := w4) (p := p) (q := 0) (r := 0) (s := s) (t := 29))
  have B4 := Lib.hid (below_grow (B3.out.trans (h4.mono B3.out.size)) (.cells #[.int .i64 p, .int .i64 0, .int .i64 0, .int .i64 s] 29))
  clear h4 B3 G3
  go_upto_region 3 with fail
  obtain ⟨W4, hW⟩ : ∃ W, W = w4.alloc (.cells #[.int .i64 p, .int .i64 0, .int .i64 0, .int .i64 s] 29) := ⟨_, rfl⟩
  rw [← hW] at G4 K4 B4 ⊢
  clear hW
  generalize w4.heap.size = m4 at K4 ⊢
  obtain ⟨x0, x1, x2, x3, x4⟩ := G4.out
  obtain ⟨y0, y1, y2, y3, y4⟩ := K4.out
  go_wp2_with fail
  refine (eqInterval_same _ _ _ _ _).mono ?_
  rintro e w5 ⟨rfl, h5⟩
  have B5 := Lib.hid (B4.out.trans (h5.mono B4.out.size))
  clear h5 B4
  go_wp2_with fail
  go_ret
  exact ⟨rfl, B5.out⟩
end Go.Proofs.Ythbjndaemmaoaaa
