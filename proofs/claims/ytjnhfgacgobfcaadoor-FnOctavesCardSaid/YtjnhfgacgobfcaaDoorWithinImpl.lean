/- Contract of impl.WithinOctave. -/
import Derived.Test.YtjnhfgacgobfcaaDoorWithinMath
namespace Go.Proofs.YtjnhfgacgobfcaaDoor
open Go.RowKit Go.Joins
set_option linter.unusedVariables false
theorem octAt_impl {a b c d n : Int} (h : OctAt a b c d n) (w : World) : Calls Tryd.prog 11 #[ivV a b c d] w fun e w' => e = .returned (.int .i64 n) ∧ Below w.heap.size w w' := octaves_impl_yes h w
set_option maxRecDepth 100000 in
set_option maxHeartbeats 2000000 in
theorem within_impl_yes {a b c d n m u p q r s : Int} {y : Bool} (h1 : OctAt a b c d n) (h2 : LessAt a d n m u) (h3 : CheckAt u b c d p q r s y) (w : World) :
    Calls Tryd.prog 6 #[ivV a b c d] w fun e w' => e = .returned (.tuple #[ivV p q r s, .bool y]) ∧ Below w.heap.size w w' := by
  have HX := Lib.hid h1.1
  have H1 := Lib.hid h1
  have H2 := Lib.hid h2
  have H3 := Lib.hid h3
  clear h1 h2 h3
  go_enter Tryd.func6, Tryd.ntmps6
  go_wp2_with fail
  refine (intervalOk_any _ _ _ _ _).mono ?_
  rintro e w1 ⟨rfl, hb⟩
  rw [HX.out]
  have hf : Four w.heap.size a b c d w1 := four_keep hb (four_alF four_alloc)
  have hz : Zero4 (w.heap.size + 1) w1 := by
    refine zero4_keep hb ?_
    have e : w.heap.size + 1 = (w.alloc (.cells #[.int .i64 a, .int .i64 b, .int .i64 c, .int .i64 d] 25)).heap.size := by simp
    rw [e]
    exact zero4_alloc
  have B1 := Lib.hid ((below_alloc2 w _ _).trans (hb.mono (by simp; omega)))
  clear hb
  obtain ⟨W1, hW⟩ : ∃ W, W = w1 := ⟨_, rfl⟩
  rw [← hW] at hf hz B1 ⊢
  clear hW
  obtain ⟨k, hk⟩ : ∃ k, k = w.heap.size := ⟨_, rfl⟩
  obtain ⟨z, hzz⟩ : ∃ k, k = w.heap.size + 1 := ⟨_, rfl⟩
  have hkz : k ≠ z := by omega
  have hbz : w.heap.size ≤ z := by omega
  rw [← hk] at hf
  rw [← hzz] at hz
  have F1 := Lib.hid hf
  have Z1 := Lib.hid hz
  have KZ := Lib.hid hkz
  have BZ := Lib.hid hbz
  clear hf hz hkz hbz
  go_upto_region 3 with fail
  rw [← hzz, ← hk]
  clear hzz hk
  go_region_held3 (fun w' => w'.cell? ⟨k, 0, none⟩ = some (.int .i64 a) ∧ w'.cell? ⟨k, 1, none⟩ = some (.int .i64 b) ∧ w'.cell? ⟨k, 2, none⟩ = some (.int .i64 c) ∧ w'.cell? ⟨k, 3, none⟩ = some (.int .i64 d)) (with_reducible first | exact four_cellsF (four_drewF F1.out) | exact four_cellsF (four_keep (by assumption) F1.out) | exact four_cellsF F1.out | exact four_cellsF (four_other KZ.out (four_keep (by assumption) F1.out)))
    (first
      | (go_at_call 11; refine (calls_fromF (W := W1) (by with_reducible first | assumption | exact (Below.refl _ _).drew) (octAt_impl H1.out _)).mono ?_; rintro e1 w2 ⟨rfl, hb⟩)
      | (go_at_call 20; refine (calls_fromF (W := W1) (by with_reducible first | assumption | exact (Below.refl _ _).drew) (less_any H2.out _)).mono ?_; rintro e1 w2 ⟨rfl, hb⟩)
      | (go_at_call 19; refine (calls_zero (W := W1) Z1.out (by with_reducible first | assumption | exact (Below.refl _ _).drew) (checkAt_impl H3.out _)).mono ?_; rintro e1 w2 ⟨rfl, hb, hz⟩; obtain ⟨⟨zm, z0, z1, z2, z3⟩, zf⟩ := hz))
  obtain ⟨X, hX, ⟨gm, g0, g1, g2, g3⟩, gb⟩ := stored4 (p := p) (q := q) (r := r) (s := s) B1.out.size BZ.out hb ⟨zm, z0, z1, z2, z3⟩
  rw [← hX]
  have GB := Lib.hid (B1.out.trans gb)
  clear hX gb z0 z1 z2 z3 zm zf hb
  go_wp2_with fail
  refine bodyPost_ret (v := .tuple #[ivV p q r s, .bool y]) (by simp [results, Tryd.results6, go_sem, g0, g1, g2, g3]) rfl ⟨rfl, GB.out⟩
set_option maxHeartbeats 400000 in
theorem within_impl_no {a b c d : Int} (h : okI a b c d = false) (w : World) :
    Calls Tryd.prog 6 #[ivV a b c d] w fun e w' => e = .returned (.tuple #[ivV 0 0 0 0, .bool false]) ∧ Below w.heap.size w w' := by
  have HX := Lib.hid h
  clear h
  go_enter Tryd.func6, Tryd.ntmps6
  go_wp2_with fail
  refine (intervalOk_any _ _ _ _ _).mono ?_
  rintro e w1 ⟨rfl, hb⟩
  rw [HX.out]
  obtain ⟨hc, hf⟩ := bcellT hb
  have q0 : w1.cell? ⟨w.heap.size + 1, 0, none⟩ = some (.int .i64 0) := by rw [hc _ _ (by simp)]; simp [go_sem]
  have q1 : w1.cell? ⟨w.heap.size + 1, 1, none⟩ = some (.int .i64 0) := by rw [hc _ _ (by simp)]; simp [go_sem]
  have q2 : w1.cell? ⟨w.heap.size + 1, 2, none⟩ = some (.int .i64 0) := by rw [hc _ _ (by simp)]; simp [go_sem]
  have q3 : w1.cell? ⟨w.heap.size + 1, 3, none⟩ = some (.int .i64 0) := by rw [hc _ _ (by simp)]; simp [go_sem]
  have kb : Below w.heap.size w w1 := (below_alloc2 w _ _).trans (hb.mono (by simp; omega))
  clear hb
  go_wp2_with fail
  refine bodyPost_ret (v := .tuple #[ivV 0 0 0 0, .bool false]) (by simp [results, Tryd.results6, go_sem, q0, q1, q2, q3]) rfl ⟨rfl, ?_⟩
  repeat' (first | exact kb | (refine Below.setCell ?_ (by simp) _))
theorem within_impl {a b c d p q r s : Int} {y : Bool} (h : WithinAt a b c d p q r s y) (w : World) :
    Calls Tryd.prog 6 #[ivV a b c d] w fun e w' => e = .returned (.tuple #[ivV p q r s, .bool y]) ∧ Below w.heap.size w w' := by
  rcases h with ⟨n, m, u, h1, h2, h3⟩ | ⟨h, rfl, rfl, rfl, rfl, rfl⟩
  · exact within_impl_yes h1 h2 h3 w
  · exact within_impl_no h w
end Go.Proofs.YtjnhfgacgobfcaaDoor
