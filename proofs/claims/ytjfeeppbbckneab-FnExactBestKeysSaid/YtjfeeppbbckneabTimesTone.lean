/- Contracts of impl.AddIntervals. -/
import Derived.Test.YtjfeeppbbckneabIfOkWalks
namespace Go.Proofs.Ytjfeeppbbckneab
open Go.RowKit Go.Joins
set_option linter.unusedVariables false
set_option maxHeartbeats 400000 in
theorem add_impl_bad1 (a b c d e f g h : Int) (w : World) (hx : okI a b c d = false) :
    Calls Try.prog 68 #[ivV a b c d, ivV e f g h] w fun e w' => e = .returned (.tuple #[ivV 0 0 0 0, .bool false]) ∧ Below w.heap.size w w' := by
  have HX := Lib.hid hx
  clear hx
  go_enter Try.func68, Try.ntmps68
  go_wp2_with fail
  refine (intervalOk_any _ _ _ _ _).mono ?_
  rintro e1 w1 ⟨rfl, hb⟩
  rw [HX.out]
  obtain ⟨hc, hf⟩ := bcellT hb
  have q0 : w1.cell? ⟨w.heap.size + 2, 0, none⟩ = some (.int .i64 0) := by rw [hc _ _ (by simp)]; simp [go_sem]
  have q1 : w1.cell? ⟨w.heap.size + 2, 1, none⟩ = some (.int .i64 0) := by rw [hc _ _ (by simp)]; simp [go_sem]
  have q2 : w1.cell? ⟨w.heap.size + 2, 2, none⟩ = some (.int .i64 0) := by rw [hc _ _ (by simp)]; simp [go_sem]
  have q3 : w1.cell? ⟨w.heap.size + 2, 3, none⟩ = some (.int .i64 0) := by rw [hc _ _ (by simp)]; simp [go_sem]
  have kb : Below w.heap.size w w1 := (below_alloc3 w _ _ _).trans (hb.mono (by simp; omega))
  clear hb
  go_wp2_with fail
  refine bodyPost_ret (v := .tuple #[ivV 0 0 0 0, .bool false]) (by simp [results, Try.results68, go_sem, q0, q1, q2, q3]) rfl ⟨rfl, ?_⟩
  repeat' (first | exact kb | (refine Below.setCell ?_ (by simp <;> omega) _))
set_option maxHeartbeats 400000 in
theorem add_impl_bad2 (a b c d e f g h : Int) (w : World) (hx : okI a b c d = true) (hy : okI e f g h = false) :
    Calls Try.prog 68 #[ivV a b c d, ivV e f g h] w fun e w' => e = .returned (.tuple #[ivV 0 0 0 0, .bool false]) ∧ Below w.heap.size w w' := by
  have HX := Lib.hid hx
  have HY := Lib.hid hy
  clear hx hy
  go_enter Try.func68, Try.ntmps68
  go_wp2_with fail
  refine (intervalOk_any _ _ _ _ _).mono ?_
  rintro e1 w1 ⟨rfl, hb⟩
  rw [HX.out]
  obtain ⟨hc, hf⟩ := bcellT hb
  have q0 : w1.cell? ⟨w.heap.size + 2, 0, none⟩ = some (.int .i64 0) := by rw [hc _ _ (by simp)]; simp [go_sem]
  have q1 : w1.cell? ⟨w.heap.size + 2, 1, none⟩ = some (.int .i64 0) := by rw [hc _ _ (by simp)]; simp [go_sem]
  have q2 : w1.cell? ⟨w.heap.size + 2, 2, none⟩ = some (.int .i64 0) := by rw [hc _ _ (by simp)]; simp [go_sem]
  have q3 : w1.cell? ⟨w.heap.size + 2, 3, none⟩ = some (.int .i64 0) := by rw [hc _ _ (by simp)]; simp [go_sem]
  have x0 : w1.cell? ⟨w.heap.size, 0, none⟩ = some (.int .i64 a) := by rw [hc _ _ (by simp; omega)]; simp [go_sem]
  have x1 : w1.cell? ⟨w.heap.size, 1, none⟩ = some (.int .i64 b) := by rw [hc _ _ (by simp; omega)]; simp [go_sem]
  have x2 : w1.cell? ⟨w.heap.size, 2, none⟩ = some (.int .i64 c) := by rw [hc _ _ (by simp; omega)]; simp [go_sem]
  have x3 : w1.cell? ⟨w.heap.size, 3, none⟩ = some (.int .i64 d) := by rw [hc _ _ (by simp; omega)]; simp [go_sem]
  have y0 : w1.cell? ⟨w.heap.size + 1, 0, none⟩ = some (.int .i64 e) := by rw [hc _ _ (by simp)]; simp [go_sem]
  have y1 : w1.cell? ⟨w.heap.size + 1, 1, none⟩ = some (.int .i64 f) := by rw [hc _ _ (by simp)]; simp [go_sem]
  have y2 : w1.cell? ⟨w.heap.size + 1, 2, none⟩ = some (.int .i64 g) := by rw [hc _ _ (by simp)]; simp [go_sem]
  have y3 : w1.cell? ⟨w.heap.size + 1, 3, none⟩ = some (.int .i64 h) := by rw [hc _ _ (by simp)]; simp [go_sem]
  have kb : Below w.heap.size w w1 := (below_alloc3 w _ _ _).trans (hb.mono (by simp; omega))
  have s1 := hb.size
  simp at s1
  have f1 : ∀ o, w1.frozen? ⟨w.heap.size + 2, o, none⟩ = false := fun o => by rw [hf _ _ (by simp)]; simp [go_sem]
  have F1 := Lib.hid f1
  clear hb hc hf f1
  go_wp2_with fail
  refine (intervalOk_any _ _ _ _ _).mono ?_
  rintro e2 w2 ⟨rfl, hb2⟩
  rw [HY.out]
  obtain ⟨hc2, hf2⟩ := bcellT hb2
  have r0 : w2.cell? ⟨w.heap.size + 2, 0, none⟩ = some (.int .i64 0) := by rw [hc2 _ _ (by omega)]; exact q0
  have r1 : w2.cell? ⟨w.heap.size + 2, 1, none⟩ = some (.int .i64 0) := by rw [hc2 _ _ (by omega)]; exact q1
  have r2 : w2.cell? ⟨w.heap.size + 2, 2, none⟩ = some (.int .i64 0) := by rw [hc2 _ _ (by omega)]; exact q2
  have r3 : w2.cell? ⟨w.heap.size + 2, 3, none⟩ = some (.int .i64 0) := by rw [hc2 _ _ (by omega)]; exact q3
  have f2 : ∀ o, w2.frozen? ⟨w.heap.size + 2, o, none⟩ = false := fun o => by rw [hf2 _ _ (by omega)]; exact F1.out o
  have kb2 : Below w.heap.size w w2 := kb.trans (hb2.mono (by omega))
  clear hb2 hc2 hf2 q0 q1 q2 q3 x0 x1 x2 x3 y0 y1 y2 y3
  go_wp2_with fail
  refine bodyPost_ret (v := .tuple #[ivV 0 0 0 0, .bool false]) (by simp [results, Try.results68, go_sem, r0, r1, r2, r3]) rfl ⟨rfl, ?_⟩
  repeat' (first | exact kb2 | (refine Below.setCell ?_ (by simp <;> omega) _))
set_option maxHeartbeats 1000000 in
theorem add_impl_yes (a b c d e f g h t0 t1 t2 t3 u0 u1 u2 m : Int) (w : World) (hx : okI a b c d = true) (hy : okI e f g h = true)
    (ht0 : a * h = t0) (ht1 : b * h = t1) (ht2 : c * h = t2) (ht3 : d * h = t3) (hu0 : e * d = u0) (hu1 : f * d = u1) (hu2 : g * d = u2)
    (hm : m = gcd4 (t0 + u0) (t1 + u1) (t2 + u2) t3) (hz : okI ((t0 + u0).tdiv m) ((t1 + u1).tdiv m) ((t2 + u2).tdiv m) (t3.tdiv m) = true) :
    Calls Try.prog 68 #[ivV a b c d, ivV e f g h] w fun e w' => e = .returned (.tuple #[ivV ((t0 + u0).tdiv m) ((t1 + u1).tdiv m) ((t2 + u2).tdiv m) (t3.tdiv m), .bool true]) ∧ Below w.heap.size w w' := by
  obtain ⟨k1, k2, k3, k4, k5, k6, k7, k8⟩ := okI_bd hx
  obtain ⟨l1, l2, l3, l4, l5, l6, l7, l8⟩ := okI_bd hy
  obtain ⟨t01, t02⟩ := mul_bd a h 400 12 t0 ht0 (by omega) (by omega) (by omega) (by omega) (by omega) (by omega)
  obtain ⟨t11, t12⟩ := mul_bd b h 400 12 t1 ht1 (by omega) (by omega) (by omega) (by omega) (by omega) (by omega)
  obtain ⟨t21, t22⟩ := mul_bd c h 400 12 t2 ht2 (by omega) (by omega) (by omega) (by omega) (by omega) (by omega)
  obtain ⟨t31, t32⟩ := mul_bd d h 12 12 t3 ht3 (by omega) (by omega) (by omega) (by omega) (by omega) (by omega)
  obtain ⟨u01, u02⟩ := mul_bd e d 400 12 u0 hu0 (by omega) (by omega) (by omega) (by omega) (by omega) (by omega)
  obtain ⟨u11, u12⟩ := mul_bd f d 400 12 u1 hu1 (by omega) (by omega) (by omega) (by omega) (by omega) (by omega)
  obtain ⟨u21, u22⟩ := mul_bd g d 400 12 u2 hu2 (by omega) (by omega) (by omega) (by omega) (by omega) (by omega)
  have t33 : 1 ≤ t3 := by have h1 : 0 < d * h := Int.mul_pos (by omega) (by omega); omega
  have HT0 := Lib.hid ht0
  have HT1 := Lib.hid ht1
  have HT2 := Lib.hid ht2
  have HT3 := Lib.hid ht3
  have HU0 := Lib.hid hu0
  have HU1 := Lib.hid hu1
  have HU2 := Lib.hid hu2
  have HM := Lib.hid hm
  have HZ := Lib.hid hz
  have HX := Lib.hid hx
  have HY := Lib.hid hy
  clear hx hy ht0 ht1 ht2 ht3 hu0 hu1 hu2 hm hz
  go_enter Try.func68, Try.ntmps68
  go_wp2_with fail
  refine (intervalOk_any _ _ _ _ _).mono ?_
  rintro e1 w1 ⟨rfl, hb⟩
  rw [HX.out]
  obtain ⟨hc, hf⟩ := bcellT hb
  have q0 : w1.cell? ⟨w.heap.size + 2, 0, none⟩ = some (.int .i64 0) := by rw [hc _ _ (by simp)]; simp [go_sem]
  have q1 : w1.cell? ⟨w.heap.size + 2, 1, none⟩ = some (.int .i64 0) := by rw [hc _ _ (by simp)]; simp [go_sem]
  have q2 : w1.cell? ⟨w.heap.size + 2, 2, none⟩ = some (.int .i64 0) := by rw [hc _ _ (by simp)]; simp [go_sem]
  have q3 : w1.cell? ⟨w.heap.size + 2, 3, none⟩ = some (.int .i64 0) := by rw [hc _ _ (by simp)]; simp [go_sem]
  have x0 : w1.cell? ⟨w.heap.size, 0, none⟩ = some (.int .i64 a) := by rw [hc _ _ (by simp; omega)]; simp [go_sem]
  have x1 : w1.cell? ⟨w.heap.size, 1, none⟩ = some (.int .i64 b) := by rw [hc _ _ (by simp; omega)]; simp [go_sem]
  have x2 : w1.cell? ⟨w.heap.size, 2, none⟩ = some (.int .i64 c) := by rw [hc _ _ (by simp; omega)]; simp [go_sem]
  have x3 : w1.cell? ⟨w.heap.size, 3, none⟩ = some (.int .i64 d) := by rw [hc _ _ (by simp; omega)]; simp [go_sem]
  have y0 : w1.cell? ⟨w.heap.size + 1, 0, none⟩ = some (.int .i64 e) := by rw [hc _ _ (by simp)]; simp [go_sem]
  have y1 : w1.cell? ⟨w.heap.size + 1, 1, none⟩ = some (.int .i64 f) := by rw [hc _ _ (by simp)]; simp [go_sem]
  have y2 : w1.cell? ⟨w.heap.size + 1, 2, none⟩ = some (.int .i64 g) := by rw [hc _ _ (by simp)]; simp [go_sem]
  have y3 : w1.cell? ⟨w.heap.size + 1, 3, none⟩ = some (.int .i64 h) := by rw [hc _ _ (by simp)]; simp [go_sem]
  have kb : Below w.heap.size w w1 := (below_alloc3 w _ _ _).trans (hb.mono (by simp; omega))
  have s1 := hb.size
  simp at s1
  have f1 : ∀ o, w1.frozen? ⟨w.heap.size + 2, o, none⟩ = false := fun o => by rw [hf _ _ (by simp)]; simp [go_sem]
  have F1 := Lib.hid f1
  clear hb hc hf f1
  go_wp2_with fail
  refine (intervalOk_any _ _ _ _ _).mono ?_
  rintro e2 w2 ⟨rfl, hb2⟩
  rw [HY.out]
  obtain ⟨hc2, hf2⟩ := bcellT hb2
  have r0 : w2.cell? ⟨w.heap.size + 2, 0, none⟩ = some (.int .i64 0) := by rw [hc2 _ _ (by omega)]; exact q0
  have r1 : w2.cell? ⟨w.heap.size + 2, 1, none⟩ = some (.int .i64 0) := by rw [hc2 _ _ (by omega)]; exact q1
  have r2 : w2.cell? ⟨w.heap.size + 2, 2, none⟩ = some (.int .i64 0) := by rw [hc2 _ _ (by omega)]; exact q2
  have r3 : w2.cell? ⟨w.heap.size + 2, 3, none⟩ = some (.int .i64 0) := by rw [hc2 _ _ (by omega)]; exact q3
  have f2 : ∀ o, w2.frozen? ⟨w.heap.size + 2, o, none⟩ = false := fun o => by rw [hf2 _ _ (by omega)]; exact F1.out o
  have kb2 : Below w.heap.size w w2 := kb.trans (hb2.mono (by omega))
  have v0 : w2.cell? ⟨w.heap.size, 0, none⟩ = some (.int .i64 a) := by rw [hc2 _ _ (by omega)]; exact x0
  have v1 : w2.cell? ⟨w.heap.size, 1, none⟩ = some (.int .i64 b) := by rw [hc2 _ _ (by omega)]; exact x1
  have v2 : w2.cell? ⟨w.heap.size, 2, none⟩ = some (.int .i64 c) := by rw [hc2 _ _ (by omega)]; exact x2
  have v3 : w2.cell? ⟨w.heap.size, 3, none⟩ = some (.int .i64 d) := by rw [hc2 _ _ (by omega)]; exact x3
  have z0 : w2.cell? ⟨w.heap.size + 1, 0, none⟩ = some (.int .i64 e) := by rw [hc2 _ _ (by omega)]; exact y0
  have z1 : w2.cell? ⟨w.heap.size + 1, 1, none⟩ = some (.int .i64 f) := by rw [hc2 _ _ (by omega)]; exact y1
  have z2 : w2.cell? ⟨w.heap.size + 1, 2, none⟩ = some (.int .i64 g) := by rw [hc2 _ _ (by omega)]; exact y2
  have z3 : w2.cell? ⟨w.heap.size + 1, 3, none⟩ = some (.int .i64 h) := by rw [hc2 _ _ (by omega)]; exact y3
  have s2 := hb2.size
  have F2 := Lib.hid f2
  clear hb2 hc2 hf2 f2 q0 q1 q2 q3 x0 x1 x2 x3 y0 y1 y2 y3
  have ht0 := HT0.out
  have ht1 := HT1.out
  have ht2 := HT2.out
  have ht3 := HT3.out
  have hu0 := HU0.out
  have hu1 := HU1.out
  have hu2 := HU2.out
  go_wp2_with fail
  refine (ifOk_yes _ _ _ _ m _ HM.out (by omega) (by omega) (by omega) (by omega) (by omega) (by omega) (by omega) (by omega) HZ.out).mono ?_
  rintro e3 w3 ⟨rfl, hb3⟩
  clear ht0 ht1 ht2 ht3 hu0 hu1 hu2
  obtain ⟨hc3, hf3⟩ := bcellT hb3
  have o0 : w3.cell? ⟨w.heap.size + 2, 0, none⟩ = some (.int .i64 0) := by rw [hc3 _ _ (by omega)]; exact r0
  have o1 : w3.cell? ⟨w.heap.size + 2, 1, none⟩ = some (.int .i64 0) := by rw [hc3 _ _ (by omega)]; exact r1
  have o2 : w3.cell? ⟨w.heap.size + 2, 2, none⟩ = some (.int .i64 0) := by rw [hc3 _ _ (by omega)]; exact r2
  have o3 : w3.cell? ⟨w.heap.size + 2, 3, none⟩ = some (.int .i64 0) := by rw [hc3 _ _ (by omega)]; exact r3
  have f3 : ∀ o, w3.frozen? ⟨w.heap.size + 2, o, none⟩ = false := fun o => by rw [hf3 _ _ (by omega)]; exact F2.out o
  have kb3 : Below w.heap.size w w3 := kb2.trans (hb3.mono (by omega))
  clear hb3 hc3 hf3 r0 r1 r2 r3 v0 v1 v2 v3 z0 z1 z2 z3
  go_wp2_with fail
  refine bodyPost_ret (v := .tuple #[ivV ((t0 + u0).tdiv m) ((t1 + u1).tdiv m) ((t2 + u2).tdiv m) (t3.tdiv m), .bool true]) (by simp [results, Try.results68, go_sem, o0, o1, o2, o3]) rfl ⟨rfl, ?_⟩
  repeat' (first | exact kb3 | (refine Below.setCell ?_ (by simp <;> omega) _))
set_option maxHeartbeats 1000000 in
theorem add_impl_no (a b c d e f g h t0 t1 t2 t3 u0 u1 u2 m : Int) (w : World) (hx : okI a b c d = true) (hy : okI e f g h = true)
    (ht0 : a * h = t0) (ht1 : b * h = t1) (ht2 : c * h = t2) (ht3 : d * h = t3) (hu0 : e * d = u0) (hu1 : f * d = u1) (hu2 : g * d = u2)
    (hm : m = gcd4 (t0 + u0) (t1 + u1) (t2 + u2) t3) (hz : okI ((t0 + u0).tdiv m) ((t1 + u1).tdiv m) ((t2 + u2).tdiv m) (t3.tdiv m) = false) :
    Calls Try.prog 68 #[ivV a b c d, ivV e f g h] w fun e w' => e = .returned (.tuple #[ivV 0 0 0 0, .bool false]) ∧ Below w.heap.size w w' := by
  obtain ⟨k1, k2, k3, k4, k5, k6, k7, k8⟩ := okI_bd hx
  obtain ⟨l1, l2, l3, l4, l5, l6, l7, l8⟩ := okI_bd hy
  obtain ⟨t01, t02⟩ := mul_bd a h 400 12 t0 ht0 (by omega) (by omega) (by omega) (by omega) (by omega) (by omega)
  obtain ⟨t11, t12⟩ := mul_bd b h 400 12 t1 ht1 (by omega) (by omega) (by omega) (by omega) (by omega) (by omega)
  obtain ⟨t21, t22⟩ := mul_bd c h 400 12 t2 ht2 (by omega) (by omega) (by omega) (by omega) (by omega) (by omega)
  obtain ⟨t31, t32⟩ := mul_bd d h 12 12 t3 ht3 (by omega) (by omega) (by omega) (by omega) (by omega) (by omega)
  obtain ⟨u01, u02⟩ := mul_bd e d 400 12 u0 hu0 (by omega) (by omega) (by omega) (by omega) (by omega) (by omega)
  obtain ⟨u11, u12⟩ := mul_bd f d 400 12 u1 hu1 (by omega) (by omega) (by omega) (by omega) (by omega) (by omega)
  obtain ⟨u21, u22⟩ := mul_bd g d 400 12 u2 hu2 (by omega) (by omega) (by omega) (by omega) (by omega) (by omega)
  have t33 : 1 ≤ t3 := by have h1 : 0 < d * h := Int.mul_pos (by omega) (by omega); omega
  have HT0 := Lib.hid ht0
  have HT1 := Lib.hid ht1
  have HT2 := Lib.hid ht2
  have HT3 := Lib.hid ht3
  have HU0 := Lib.hid hu0
  have HU1 := Lib.hid hu1
  have HU2 := Lib.hid hu2
  have HM := Lib.hid hm
  have HZ := Lib.hid hz
  have HX := Lib.hid hx
  have HY := Lib.hid hy
  clear hx hy ht0 ht1 ht2 ht3 hu0 hu1 hu2 hm hz
  go_enter Try.func68, Try.ntmps68
  go_wp2_with fail
  refine (intervalOk_any _ _ _ _ _).mono ?_
  rintro e1 w1 ⟨rfl, hb⟩
  rw [HX.out]
  obtain ⟨hc, hf⟩ := bcellT hb
  have q0 : w1.cell? ⟨w.heap.size + 2, 0, none⟩ = some (.int .i64 0) := by rw [hc _ _ (by simp)]; simp [go_sem]
  have q1 : w1.cell? ⟨w.heap.size + 2, 1, none⟩ = some (.int .i64 0) := by rw [hc _ _ (by simp)]; simp [go_sem]
  have q2 : w1.cell? ⟨w.heap.size + 2, 2, none⟩ = some (.int .i64 0) := by rw [hc _ _ (by simp)]; simp [go_sem]
  have q3 : w1.cell? ⟨w.heap.size + 2, 3, none⟩ = some (.int .i64 0) := by rw [hc _ _ (by simp)]; simp [go_sem]
  have x0 : w1.cell? ⟨w.heap.size, 0, none⟩ = some (.int .i64 a) := by rw [hc _ _ (by simp; omega)]; simp [go_sem]
  have x1 : w1.cell? ⟨w.heap.size, 1, none⟩ = some (.int .i64 b) := by rw [hc _ _ (by simp; omega)]; simp [go_sem]
  have x2 : w1.cell? ⟨w.heap.size, 2, none⟩ = some (.int .i64 c) := by rw [hc _ _ (by simp; omega)]; simp [go_sem]
  have x3 : w1.cell? ⟨w.heap.size, 3, none⟩ = some (.int .i64 d) := by rw [hc _ _ (by simp; omega)]; simp [go_sem]
  have y0 : w1.cell? ⟨w.heap.size + 1, 0, none⟩ = some (.int .i64 e) := by rw [hc _ _ (by simp)]; simp [go_sem]
  have y1 : w1.cell? ⟨w.heap.size + 1, 1, none⟩ = some (.int .i64 f) := by rw [hc _ _ (by simp)]; simp [go_sem]
  have y2 : w1.cell? ⟨w.heap.size + 1, 2, none⟩ = some (.int .i64 g) := by rw [hc _ _ (by simp)]; simp [go_sem]
  have y3 : w1.cell? ⟨w.heap.size + 1, 3, none⟩ = some (.int .i64 h) := by rw [hc _ _ (by simp)]; simp [go_sem]
  have kb : Below w.heap.size w w1 := (below_alloc3 w _ _ _).trans (hb.mono (by simp; omega))
  have s1 := hb.size
  simp at s1
  have f1 : ∀ o, w1.frozen? ⟨w.heap.size + 2, o, none⟩ = false := fun o => by rw [hf _ _ (by simp)]; simp [go_sem]
  have F1 := Lib.hid f1
  clear hb hc hf f1
  go_wp2_with fail
  refine (intervalOk_any _ _ _ _ _).mono ?_
  rintro e2 w2 ⟨rfl, hb2⟩
  rw [HY.out]
  obtain ⟨hc2, hf2⟩ := bcellT hb2
  have r0 : w2.cell? ⟨w.heap.size + 2, 0, none⟩ = some (.int .i64 0) := by rw [hc2 _ _ (by omega)]; exact q0
  have r1 : w2.cell? ⟨w.heap.size + 2, 1, none⟩ = some (.int .i64 0) := by rw [hc2 _ _ (by omega)]; exact q1
  have r2 : w2.cell? ⟨w.heap.size + 2, 2, none⟩ = some (.int .i64 0) := by rw [hc2 _ _ (by omega)]; exact q2
  have r3 : w2.cell? ⟨w.heap.size + 2, 3, none⟩ = some (.int .i64 0) := by rw [hc2 _ _ (by omega)]; exact q3
  have f2 : ∀ o, w2.frozen? ⟨w.heap.size + 2, o, none⟩ = false := fun o => by rw [hf2 _ _ (by omega)]; exact F1.out o
  have kb2 : Below w.heap.size w w2 := kb.trans (hb2.mono (by omega))
  have v0 : w2.cell? ⟨w.heap.size, 0, none⟩ = some (.int .i64 a) := by rw [hc2 _ _ (by omega)]; exact x0
  have v1 : w2.cell? ⟨w.heap.size, 1, none⟩ = some (.int .i64 b) := by rw [hc2 _ _ (by omega)]; exact x1
  have v2 : w2.cell? ⟨w.heap.size, 2, none⟩ = some (.int .i64 c) := by rw [hc2 _ _ (by omega)]; exact x2
  have v3 : w2.cell? ⟨w.heap.size, 3, none⟩ = some (.int .i64 d) := by rw [hc2 _ _ (by omega)]; exact x3
  have z0 : w2.cell? ⟨w.heap.size + 1, 0, none⟩ = some (.int .i64 e) := by rw [hc2 _ _ (by omega)]; exact y0
  have z1 : w2.cell? ⟨w.heap.size + 1, 1, none⟩ = some (.int .i64 f) := by rw [hc2 _ _ (by omega)]; exact y1
  have z2 : w2.cell? ⟨w.heap.size + 1, 2, none⟩ = some (.int .i64 g) := by rw [hc2 _ _ (by omega)]; exact y2
  have z3 : w2.cell? ⟨w.heap.size + 1, 3, none⟩ = some (.int .i64 h) := by rw [hc2 _ _ (by omega)]; exact y3
  have s2 := hb2.size
  have F2 := Lib.hid f2
  clear hb2 hc2 hf2 f2 q0 q1 q2 q3 x0 x1 x2 x3 y0 y1 y2 y3
  have ht0 := HT0.out
  have ht1 := HT1.out
  have ht2 := HT2.out
  have ht3 := HT3.out
  have hu0 := HU0.out
  have hu1 := HU1.out
  have hu2 := HU2.out
  go_wp2_with fail
  refine (ifOk_no _ _ _ _ m _ HM.out (by omega) (by omega) (by omega) (by omega) (by omega) (by omega) (by omega) (by omega) HZ.out).mono ?_
  rintro e3 w3 ⟨rfl, hb3⟩
  clear ht0 ht1 ht2 ht3 hu0 hu1 hu2
  obtain ⟨hc3, hf3⟩ := bcellT hb3
  have o0 : w3.cell? ⟨w.heap.size + 2, 0, none⟩ = some (.int .i64 0) := by rw [hc3 _ _ (by omega)]; exact r0
  have o1 : w3.cell? ⟨w.heap.size + 2, 1, none⟩ = some (.int .i64 0) := by rw [hc3 _ _ (by omega)]; exact r1
  have o2 : w3.cell? ⟨w.heap.size + 2, 2, none⟩ = some (.int .i64 0) := by rw [hc3 _ _ (by omega)]; exact r2
  have o3 : w3.cell? ⟨w.heap.size + 2, 3, none⟩ = some (.int .i64 0) := by rw [hc3 _ _ (by omega)]; exact r3
  have f3 : ∀ o, w3.frozen? ⟨w.heap.size + 2, o, none⟩ = false := fun o => by rw [hf3 _ _ (by omega)]; exact F2.out o
  have kb3 : Below w.heap.size w w3 := kb2.trans (hb3.mono (by omega))
  clear hb3 hc3 hf3 r0 r1 r2 r3 v0 v1 v2 v3 z0 z1 z2 z3
  go_wp2_with fail
  refine bodyPost_ret (v := .tuple #[ivV 0 0 0 0, .bool false]) (by simp [results, Try.results68, go_sem, o0, o1, o2, o3]) rfl ⟨rfl, ?_⟩
  repeat' (first | exact kb3 | (refine Below.setCell ?_ (by simp <;> omega) _))
end Go.Proofs.Ytjfeeppbbckneab
/- Contracts of impl.TimesInterval and spec.TimesInterval. -/
namespace Go.Proofs.Ytjfeeppbbckneab
open Go.RowKit Go.Joins
set_option linter.unusedVariables false
set_option maxHeartbeats 400000 in
theorem times_impl_bad (a b c d n : Int) (w : World) (hx : okI a b c d = false) :
    Calls Try.prog 83 #[ivV a b c d, .int .i64 n] w fun e w' => e = .returned (.tuple #[ivV 0 0 0 0, .bool false]) ∧ Below w.heap.size w w' := by
  have HX := Lib.hid hx
  clear hx
  go_enter Try.func83, Try.ntmps83
  go_wp2_with fail
  refine (intervalOk_any _ _ _ _ _).mono ?_
  rintro e w1 ⟨rfl, hb⟩
  rw [HX.out]
  obtain ⟨hc, hf⟩ := bcellT hb
  have q0 : w1.cell? ⟨w.heap.size + 1, 0, none⟩ = some (.int .i64 0) := by rw [hc _ _ (by simp)]; simp [go_sem]
  have q1 : w1.cell? ⟨w.heap.size + 1, 1, none⟩ = some (.int .i64 0) := by rw [hc _ _ (by simp)]; simp [go_sem]
  have q2 : w1.cell? ⟨w.heap.size + 1, 2, none⟩ = some (.int .i64 0) := by rw [hc _ _ (by simp)]; simp [go_sem]
  have q3 : w1.cell? ⟨w.heap.size + 1, 3, none⟩ = some (.int .i64 0) := by rw [hc _ _ (by simp)]; simp [go_sem]
  have kb : Below w.heap.size w w1 := (below_alloc2 w _ _).trans (hb.mono (by simp; omega))
  clear hb
  go_wp2_with fail
  refine bodyPost_ret (v := .tuple #[ivV 0 0 0 0, .bool false]) (by simp [results, Try.results83, go_sem, q0, q1, q2, q3]) rfl ⟨rfl, ?_⟩
  repeat' (first | exact kb | (refine Below.setCell ?_ (by simp) _))
set_option maxHeartbeats 400000 in
theorem times_impl_low (a b c d n : Int) (w : World) (hx : okI a b c d = true) (hn : n < -400) :
    Calls Try.prog 83 #[ivV a b c d, .int .i64 n] w fun e w' => e = .returned (.tuple #[ivV 0 0 0 0, .bool false]) ∧ Below w.heap.size w w' := by
  have HN : Hid (decide (-400 ≤ n ∧ n ≤ 400) = false) := Lib.hid (by simp; omega)
  have HX := Lib.hid hx
  clear hx
  go_enter Try.func83, Try.ntmps83
  go_wp2_with fail
  refine (intervalOk_any _ _ _ _ _).mono ?_
  rintro e w1 ⟨rfl, hb⟩
  rw [HX.out]
  obtain ⟨hc, hf⟩ := bcellT hb
  have q0 : w1.cell? ⟨w.heap.size + 1, 0, none⟩ = some (.int .i64 0) := by rw [hc _ _ (by simp)]; simp [go_sem]
  have q1 : w1.cell? ⟨w.heap.size + 1, 1, none⟩ = some (.int .i64 0) := by rw [hc _ _ (by simp)]; simp [go_sem]
  have q2 : w1.cell? ⟨w.heap.size + 1, 2, none⟩ = some (.int .i64 0) := by rw [hc _ _ (by simp)]; simp [go_sem]
  have q3 : w1.cell? ⟨w.heap.size + 1, 3, none⟩ = some (.int .i64 0) := by rw [hc _ _ (by simp)]; simp [go_sem]
  have kb : Below w.heap.size w w1 := (below_alloc2 w _ _).trans (hb.mono (by simp; omega))
  clear hb
  go_wp2_with fail
  refine bodyPost_ret (v := .tuple #[ivV 0 0 0 0, .bool false]) (by simp [results, Try.results83, go_sem, q0, q1, q2, q3]) rfl ⟨rfl, ?_⟩
  repeat' (first | exact kb | (refine Below.setCell ?_ (by simp) _))
set_option maxHeartbeats 400000 in
theorem times_impl_high (a b c d n : Int) (w : World) (hx : okI a b c d = true) (hm : ¬ n < -400) (hn : 400 < n) :
    Calls Try.prog 83 #[ivV a b c d, .int .i64 n] w fun e w' => e = .returned (.tuple #[ivV 0 0 0 0, .bool false]) ∧ Below w.heap.size w w' := by
  have HN : Hid (decide (-400 ≤ n ∧ n ≤ 400) = false) := Lib.hid (by simp; omega)
  have HX := Lib.hid hx
  clear hx
  go_enter Try.func83, Try.ntmps83
  go_wp2_with fail
  refine (intervalOk_any _ _ _ _ _).mono ?_
  rintro e w1 ⟨rfl, hb⟩
  rw [HX.out]
  obtain ⟨hc, hf⟩ := bcellT hb
  have q0 : w1.cell? ⟨w.heap.size + 1, 0, none⟩ = some (.int .i64 0) := by rw [hc _ _ (by simp)]; simp [go_sem]
  have q1 : w1.cell? ⟨w.heap.size + 1, 1, none⟩ = some (.int .i64 0) := by rw [hc _ _ (by simp)]; simp [go_sem]
  have q2 : w1.cell? ⟨w.heap.size + 1, 2, none⟩ = some (.int .i64 0) := by rw [hc _ _ (by simp)]; simp [go_sem]
  have q3 : w1.cell? ⟨w.heap.size + 1, 3, none⟩ = some (.int .i64 0) := by rw [hc _ _ (by simp)]; simp [go_sem]
  have kb : Below w.heap.size w w1 := (below_alloc2 w _ _).trans (hb.mono (by simp; omega))
  clear hb
  go_wp2_with fail
  refine bodyPost_ret (v := .tuple #[ivV 0 0 0 0, .bool false]) (by simp [results, Try.results83, go_sem, q0, q1, q2, q3]) rfl ⟨rfl, ?_⟩
  repeat' (first | exact kb | (refine Below.setCell ?_ (by simp) _))
set_option maxHeartbeats 400000 in
theorem times_impl_yes (a b c d n p q r g : Int) (w : World) (hx : okI a b c d = true) (hn : -400 ≤ n) (hn' : n ≤ 400) (hp : a * n = p) (hq : b * n = q) (hr : c * n = r) (hg : g = gcd4 p q r d) (hy : okI (p.tdiv g) (q.tdiv g) (r.tdiv g) (d.tdiv g) = true) :
    Calls Try.prog 83 #[ivV a b c d, .int .i64 n] w fun e w' => e = .returned (.tuple #[ivV (p.tdiv g) (q.tdiv g) (r.tdiv g) (d.tdiv g), .bool true]) ∧ Below w.heap.size w w' := by
  obtain ⟨k1, k2, k3, k4, k5, k6, k7, k8⟩ := okI_bd hx
  have pb := mul_bd a n 400 400 p hp (by omega) (by omega) (by omega) (by omega) (by omega) (by omega)
  have qb := mul_bd b n 400 400 q hq (by omega) (by omega) (by omega) (by omega) (by omega) (by omega)
  have rb := mul_bd c n 400 400 r hr (by omega) (by omega) (by omega) (by omega) (by omega) (by omega)
  obtain ⟨pb1, pb2⟩ := pb
  obtain ⟨qb1, qb2⟩ := qb
  obtain ⟨rb1, rb2⟩ := rb
  have HN : Hid (decide (-400 ≤ n ∧ n ≤ 400) = true) := Lib.hid (by simp; omega)
  have HP := Lib.hid hp
  have HQ := Lib.hid hq
  have HR := Lib.hid hr
  have HG := Lib.hid hg
  have HY := Lib.hid hy
  have HX := Lib.hid hx
  clear hx hp hq hr hg hy
  go_enter Try.func83, Try.ntmps83
  go_wp2_with fail
  refine (intervalOk_any _ _ _ _ _).mono ?_
  rintro e w1 ⟨rfl, hb⟩
  rw [HX.out]
  obtain ⟨hc, hf⟩ := bcellT hb
  have q0 : w1.cell? ⟨w.heap.size + 1, 0, none⟩ = some (.int .i64 0) := by rw [hc _ _ (by simp)]; simp [go_sem]
  have q1 : w1.cell? ⟨w.heap.size + 1, 1, none⟩ = some (.int .i64 0) := by rw [hc _ _ (by simp)]; simp [go_sem]
  have q2 : w1.cell? ⟨w.heap.size + 1, 2, none⟩ = some (.int .i64 0) := by rw [hc _ _ (by simp)]; simp [go_sem]
  have q3 : w1.cell? ⟨w.heap.size + 1, 3, none⟩ = some (.int .i64 0) := by rw [hc _ _ (by simp)]; simp [go_sem]
  have p0 : w1.cell? ⟨w.heap.size, 0, none⟩ = some (.int .i64 a) := by rw [hc _ _ (by simp; omega)]; simp [go_sem]
  have p1 : w1.cell? ⟨w.heap.size, 1, none⟩ = some (.int .i64 b) := by rw [hc _ _ (by simp; omega)]; simp [go_sem]
  have p2 : w1.cell? ⟨w.heap.size, 2, none⟩ = some (.int .i64 c) := by rw [hc _ _ (by simp; omega)]; simp [go_sem]
  have p3 : w1.cell? ⟨w.heap.size, 3, none⟩ = some (.int .i64 d) := by rw [hc _ _ (by simp; omega)]; simp [go_sem]
  have kb : Below w.heap.size w w1 := (below_alloc2 w _ _).trans (hb.mono (by simp; omega))
  have s1 := hb.size
  simp at s1
  have f1 : ∀ o, w1.frozen? ⟨w.heap.size + 1, o, none⟩ = false := fun o => by rw [hf _ _ (by simp)]; simp [go_sem]
  have F1 := Lib.hid f1
  clear hb hc hf f1
  have hp := HP.out
  have hq := HQ.out
  have hr := HR.out
  go_wp2_with fail
  refine (ifOk_yes _ _ _ _ g _ HG.out (by omega) (by omega) (by omega) (by omega) (by omega) (by omega) (by omega) (by omega) HY.out).mono ?_
  rintro e w2 ⟨rfl, hb2⟩
  clear hp hq hr
  obtain ⟨hc2, hf2⟩ := bcellT hb2
  have r0 : w2.cell? ⟨w.heap.size + 1, 0, none⟩ = some (.int .i64 0) := by rw [hc2 _ _ (by omega)]; exact q0
  have r1 : w2.cell? ⟨w.heap.size + 1, 1, none⟩ = some (.int .i64 0) := by rw [hc2 _ _ (by omega)]; exact q1
  have r2 : w2.cell? ⟨w.heap.size + 1, 2, none⟩ = some (.int .i64 0) := by rw [hc2 _ _ (by omega)]; exact q2
  have r3 : w2.cell? ⟨w.heap.size + 1, 3, none⟩ = some (.int .i64 0) := by rw [hc2 _ _ (by omega)]; exact q3
  have f2 : ∀ o, w2.frozen? ⟨w.heap.size + 1, o, none⟩ = false := fun o => by rw [hf2 _ _ (by omega)]; exact F1.out o
  have kb2 : Below w.heap.size w w2 := kb.trans (hb2.mono (by omega))
  clear hb2 hc2 hf2 q0 q1 q2 q3 p0 p1 p2 p3
  go_wp2_with fail
  refine bodyPost_ret (v := .tuple #[ivV (p.tdiv g) (q.tdiv g) (r.tdiv g) (d.tdiv g), .bool true]) (by simp [results, Try.results83, go_sem, r0, r1, r2, r3]) rfl ⟨rfl, ?_⟩
  repeat' (first | exact kb2 | (refine Below.setCell ?_ (by simp) _))
set_option maxHeartbeats 400000 in
theorem times_impl_no (a b c d n p q r g : Int) (w : World) (hx : okI a b c d = true) (hn : -400 ≤ n) (hn' : n ≤ 400) (hp : a * n = p) (hq : b * n = q) (hr : c * n = r) (hg : g = gcd4 p q r d) (hy : okI (p.tdiv g) (q.tdiv g) (r.tdiv g) (d.tdiv g) = false) :
    Calls Try.prog 83 #[ivV a b c d, .int .i64 n] w fun e w' => e = .returned (.tuple #[ivV 0 0 0 0, .bool false]) ∧ Below w.heap.size w w' := by
  obtain ⟨k1, k2, k3, k4, k5, k6, k7, k8⟩ := okI_bd hx
  have pb := mul_bd a n 400 400 p hp (by omega) (by omega) (by omega) (by omega) (by omega) (by omega)
  have qb := mul_bd b n 400 400 q hq (by omega) (by omega) (by omega) (by omega) (by omega) (by omega)
  have rb := mul_bd c n 400 400 r hr (by omega) (by omega) (by omega) (by omega) (by omega) (by omega)
  obtain ⟨pb1, pb2⟩ := pb
  obtain ⟨qb1, qb2⟩ := qb
  obtain ⟨rb1, rb2⟩ := rb
  have HN : Hid (decide (-400 ≤ n ∧ n ≤ 400) = true) := Lib.hid (by simp; omega)
  have HP := Lib.hid hp
  have HQ := Lib.hid hq
  have HR := Lib.hid hr
  have HG := Lib.hid hg
  have HY := Lib.hid hy
  have HX := Lib.hid hx
  clear hx hp hq hr hg hy
  go_enter Try.func83, Try.ntmps83
  go_wp2_with fail
  refine (intervalOk_any _ _ _ _ _).mono ?_
  rintro e w1 ⟨rfl, hb⟩
  rw [HX.out]
  obtain ⟨hc, hf⟩ := bcellT hb
  have q0 : w1.cell? ⟨w.heap.size + 1, 0, none⟩ = some (.int .i64 0) := by rw [hc _ _ (by simp)]; simp [go_sem]
  have q1 : w1.cell? ⟨w.heap.size + 1, 1, none⟩ = some (.int .i64 0) := by rw [hc _ _ (by simp)]; simp [go_sem]
  have q2 : w1.cell? ⟨w.heap.size + 1, 2, none⟩ = some (.int .i64 0) := by rw [hc _ _ (by simp)]; simp [go_sem]
  have q3 : w1.cell? ⟨w.heap.size + 1, 3, none⟩ = some (.int .i64 0) := by rw [hc _ _ (by simp)]; simp [go_sem]
  have p0 : w1.cell? ⟨w.heap.size, 0, none⟩ = some (.int .i64 a) := by rw [hc _ _ (by simp; omega)]; simp [go_sem]
  have p1 : w1.cell? ⟨w.heap.size, 1, none⟩ = some (.int .i64 b) := by rw [hc _ _ (by simp; omega)]; simp [go_sem]
  have p2 : w1.cell? ⟨w.heap.size, 2, none⟩ = some (.int .i64 c) := by rw [hc _ _ (by simp; omega)]; simp [go_sem]
  have p3 : w1.cell? ⟨w.heap.size, 3, none⟩ = some (.int .i64 d) := by rw [hc _ _ (by simp; omega)]; simp [go_sem]
  have kb : Below w.heap.size w w1 := (below_alloc2 w _ _).trans (hb.mono (by simp; omega))
  have s1 := hb.size
  simp at s1
  have f1 : ∀ o, w1.frozen? ⟨w.heap.size + 1, o, none⟩ = false := fun o => by rw [hf _ _ (by simp)]; simp [go_sem]
  have F1 := Lib.hid f1
  clear hb hc hf f1
  have hp := HP.out
  have hq := HQ.out
  have hr := HR.out
  go_wp2_with fail
  refine (ifOk_no _ _ _ _ g _ HG.out (by omega) (by omega) (by omega) (by omega) (by omega) (by omega) (by omega) (by omega) HY.out).mono ?_
  rintro e w2 ⟨rfl, hb2⟩
  clear hp hq hr
  obtain ⟨hc2, hf2⟩ := bcellT hb2
  have r0 : w2.cell? ⟨w.heap.size + 1, 0, none⟩ = some (.int .i64 0) := by rw [hc2 _ _ (by omega)]; exact q0
  have r1 : w2.cell? ⟨w.heap.size + 1, 1, none⟩ = some (.int .i64 0) := by rw [hc2 _ _ (by omega)]; exact q1
  have r2 : w2.cell? ⟨w.heap.size + 1, 2, none⟩ = some (.int .i64 0) := by rw [hc2 _ _ (by omega)]; exact q2
  have r3 : w2.cell? ⟨w.heap.size + 1, 3, none⟩ = some (.int .i64 0) := by rw [hc2 _ _ (by omega)]; exact q3
  have f2 : ∀ o, w2.frozen? ⟨w.heap.size + 1, o, none⟩ = false := fun o => by rw [hf2 _ _ (by omega)]; exact F1.out o
  have kb2 : Below w.heap.size w w2 := kb.trans (hb2.mono (by omega))
  clear hb2 hc2 hf2 q0 q1 q2 q3 p0 p1 p2 p3
  go_wp2_with fail
  refine bodyPost_ret (v := .tuple #[ivV 0 0 0 0, .bool false]) (by simp [results, Try.results83, go_sem, r0, r1, r2, r3]) rfl ⟨rfl, ?_⟩
  repeat' (first | exact kb2 | (refine Below.setCell ?_ (by simp) _))
end Go.Proofs.Ytjfeeppbbckneab
