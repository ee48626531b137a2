/- Contract of spec.InvertInterval. -/
import Derived.Test.YtjnhfgacgobfcaaInvImpl
namespace Go.Proofs.Ytjnhfgacgobfcaa
open Go.RowKit Go.Joins
set_option linter.unusedVariables false
set_option maxRecDepth 100000 in
set_option maxHeartbeats 1000000 in
theorem inv_spec_yes {a b c d p q r s : Int} {y : Bool} (hx : okI a b c d = true) (h : CheckAt (d - a) (-b) (-c) d p q r s y) (w : World) :
    Calls Try.prog 13 #[ivV a b c d] w fun e w' => e = .returned (.tuple #[ivV p q r s, .bool y]) ∧ Below w.heap.size w w' := by
  obtain ⟨d1, d2, a1, a2, b1, b2, c1, c2⟩ := okI_nums hx
  have HX := Lib.hid hx
  have H := Lib.hid h
  clear hx h
  go_enter Try.func13, Try.ntmps13
  go_wp2_with fail
  refine (sintervalOk_any _ _ _ _ _).mono ?_
  rintro e w1 ⟨rfl, hb⟩
  rw [HX.out]
  have hf : Four w.heap.size a b c d w1 := four_keep hb (four_alF four_alloc)
  have hz : Zero4 (w.heap.size + 1) w1 := by
    refine zero4_keep hb ?_
    have e : w.heap.size + 1 = (w.alloc (.cells #[.int .i64 a, .int .i64 b, .int .i64 c, .int .i64 d] 25)).heap.size := by simp
    rw [e]
    exact zero4_alloc
  have B1 := Lib.hid ((below_alloc2 w _ _).trans (hb.mono (by simp; omega)))
  have Z1 := Lib.hid hz
  clear hb hz
  obtain ⟨x0, x1, x2, x3, x4⟩ := hf
  go_wp2_with fail
  refine (calls_zero (W := w1) Z1.out (Below.refl _ _) (checkAt_spec H.out _)).mono ?_
  rintro e w2 ⟨rfl, hb, ⟨zm, z0, z1, z2, z3⟩, zf⟩
  have B2 := Lib.hid (B1.out.trans (hb.mono B1.out.size))
  clear x0 x1 x2 x3 x4 hb B1 Z1
  go_wp2_with fail
  refine bodyPost_ret (v := .tuple #[ivV p q r s, .bool y]) (by simp [results, Try.results13, go_sem, z0, z1, z2, z3]) rfl ⟨rfl, ?_⟩
  exact below_set4w (by omega) B2.out
set_option maxHeartbeats 400000 in
theorem inv_spec_no {a b c d : Int} (h : okI a b c d = false) (w : World) :
    Calls Try.prog 13 #[ivV a b c d] w fun e w' => e = .returned (.tuple #[ivV 0 0 0 0, .bool false]) ∧ Below w.heap.size w w' := by
  have HX := Lib.hid h
  clear h
  go_enter Try.func13, Try.ntmps13
  go_wp2_with fail
  refine (sintervalOk_any _ _ _ _ _).mono ?_
  rintro e w1 ⟨rfl, hb⟩
  rw [HX.out]
  obtain ⟨hc, hf⟩ := bcellT hb
  have q0 : w1.cell? ⟨w.heap.size + 1, 0, none⟩ = some (.int .i64 0) := by rw [hc _ _ (by simp)]; simp [go_sem]
  have q1 : w1.cell? ⟨w.heap.size + 1, 1, none⟩ = some (.int .i64 0) := by rw [hc _ _ (by simp)]; simp [go_sem]
  have q2 : w1.cell? ⟨w.heap.size + 1, 2, none⟩ = some (.int .i64 0) := by rw [hc _ _ (by simp)]; simp [go_sem]
  have q3 : w1.cell? ⟨w.heap.size + 1, 3, none⟩ = some (.int .i64 0) := by rw [hc _ _ (by simp)]; simp [go_sem]
  have kb : Below w.heap.size w w1 := (below_alloc2 w _ _).trans (hb.mono (by simp; omega))
  clear hb
  go_wp2_with fail
  refine bodyPost_ret (v := .tuple #[ivV 0 0 0 0, .bool false]) (by simp [results, Try.results13, go_sem, q0, q1, q2, q3]) rfl ⟨rfl, ?_⟩
  repeat' (first | exact kb | (refine Below.setCell ?_ (by simp) _))
theorem inv_spec {a b c d p q r s : Int} {y : Bool} (h : InvAt a b c d p q r s y) (w : World) :
    Calls Try.prog 13 #[ivV a b c d] w fun e w' => e = .returned (.tuple #[ivV p q r s, .bool y]) ∧ Below w.heap.size w w' := by
  rcases h with ⟨hx, hc⟩ | ⟨h, rfl, rfl, rfl, rfl, rfl⟩
  · exact inv_spec_yes hx hc w
  · exact inv_spec_no h w
end Go.Proofs.Ytjnhfgacgobfcaa
