/- Contracts of impl.TimesInterval and spec.TimesInterval. -/
import Derived.Test.YtifpknhhbdeopaaDoorIfOkWalks
namespace Go.Proofs.YtifpknhhbdeopaaDoor
open Go.RowKit Go.Joins
set_option linter.unusedVariables false
set_option maxHeartbeats 400000 in
theorem times_impl_bad (a b c d n : Int) (w : World) (hx : okI a b c d = false) :
    Calls Tryd.prog 35 #[ivV a b c d, .int .i64 n] w fun e w' => e = .returned (.tuple #[ivV 0 0 0 0, .bool false]) ∧ Below w.heap.size w w' := by
  have HX := Lib.hid hx
  clear hx
  go_enter Tryd.func35, Tryd.ntmps35
  go_wp2_with fail
  refine (intervalOk_any _ _ _ _ _).mono ?_
  rintro e w1 ⟨rfl, hb⟩
  rw [HX.out]
  obtain ⟨hc, hf⟩ := bcellT hb
  have q0 : w1.cell? ⟨w.heap.size + 1, 0, none⟩ = some (.int .i64 0) := by rw [hc _ _ (by simp)]; simp [go_sem]
  have q1 : w1.cell? ⟨w.heap.size + 1, 1, none⟩ = some (.int .i64 0) := by rw [hc _ _ (by simp)]; simp [go_sem]
  have q2 : w1.cell? ⟨w.heap.size + 1, 2, none⟩ = some (.int .i64 0) := by rw [hc _ _ (by simp)]; simp [go_sem]
  have q3 : w1.cell? ⟨w.heap.size + 1, 3, none⟩ = some (.int .i64 0) := by rw [hc _ _ (by simp)]; simp [go_sem]
  have kb : Below w.heap.size w w1 := (below_alloc2 w _ _).trans (hb.mono (by simp; omega))
  clear hb
  go_wp2_with fail
  refine bodyPost_ret (v := .tuple #[ivV 0 0 0 0, .bool false]) (by simp [results, Tryd.results35, go_sem, q0, q1, q2, q3]) rfl ⟨rfl, ?_⟩
  repeat' (first | exact kb | (refine Below.setCell ?_ (by simp) _))
set_option maxHeartbeats 400000 in
theorem times_impl_low (a b c d n : Int) (w : World) (hx : okI a b c d = true) (hn : n < -400) :
    Calls Tryd.prog 35 #[ivV a b c d, .int .i64 n] w fun e w' => e = .returned (.tuple #[ivV 0 0 0 0, .bool false]) ∧ Below w.heap.size w w' := by
  have HN : Hid (decide (-400 ≤ n ∧ n ≤ 400) = false) := Lib.hid (by simp; omega)
  have HX := Lib.hid hx
  clear hx
  go_enter Tryd.func35, Tryd.ntmps35
  go_wp2_with fail
  refine (intervalOk_any _ _ _ _ _).mono ?_
  rintro e w1 ⟨rfl, hb⟩
  rw [HX.out]
  obtain ⟨hc, hf⟩ := bcellT hb
  have q0 : w1.cell? ⟨w.heap.size + 1, 0, none⟩ = some (.int .i64 0) := by rw [hc _ _ (by simp)]; simp [go_sem]
  have q1 : w1.cell? ⟨w.heap.size + 1, 1, none⟩ = some (.int .i64 0) := by rw [hc _ _ (by simp)]; simp [go_sem]
  have q2 : w1.cell? ⟨w.heap.size + 1, 2, none⟩ = some (.int .i64 0) := by rw [hc _ _ (by simp)]; simp [go_sem]
  have q3 : w1.cell? ⟨w.heap.size + 1, 3, none⟩ = some (.int .i64 0) := by rw [hc _ _ (by simp)]; simp [go_sem]
  have kb : Below w.heap.size w w1 := (below_alloc2 w _ _).trans (hb.mono (by simp; omega))
  clear hb
  go_wp2_with fail
  refine bodyPost_ret (v := .tuple #[ivV 0 0 0 0, .bool false]) (by simp [results, Tryd.results35, go_sem, q0, q1, q2, q3]) rfl ⟨rfl, ?_⟩
  repeat' (first | exact kb | (refine Below.setCell ?_ (by simp) _))
set_option maxHeartbeats 400000 in
theorem times_impl_high (a b c d n : Int) (w : World) (hx : okI a b c d = true) (hm : ¬ n < -400) (hn : 400 < n) :
    Calls Tryd.prog 35 #[ivV a b c d, .int .i64 n] w fun e w' => e = .returned (.tuple #[ivV 0 0 0 0, .bool false]) ∧ Below w.heap.size w w' := by
  have HN : Hid (decide (-400 ≤ n ∧ n ≤ 400) = false) := Lib.hid (by simp; omega)
  have HX := Lib.hid hx
  clear hx
  go_enter Tryd.func35, Tryd.ntmps35
  go_wp2_with fail
  refine (intervalOk_any _ _ _ _ _).mono ?_
  rintro e w1 ⟨rfl, hb⟩
  rw [HX.out]
  obtain ⟨hc, hf⟩ := bcellT hb
  have q0 : w1.cell? ⟨w.heap.size + 1, 0, none⟩ = some (.int .i64 0) := by rw [hc _ _ (by simp)]; simp [go_sem]
  have q1 : w1.cell? ⟨w.heap.size + 1, 1, none⟩ = some (.int .i64 0) := by rw [hc _ _ (by simp)]; simp [go_sem]
  have q2 : w1.cell? ⟨w.heap.size + 1, 2, none⟩ = some (.int .i64 0) := by rw [hc _ _ (by simp)]; simp [go_sem]
  have q3 : w1.cell? ⟨w.heap.size + 1, 3, none⟩ = some (.int .i64 0) := by rw [hc _ _ (by simp)]; simp [go_sem]
  have kb : Below w.heap.size w w1 := (below_alloc2 w _ _).trans (hb.mono (by simp; omega))
  clear hb
  go_wp2_with fail
  refine bodyPost_ret (v := .tuple #[ivV 0 0 0 0, .bool false]) (by simp [results, Tryd.results35, go_sem, q0, q1, q2, q3]) rfl ⟨rfl, ?_⟩
  repeat' (first | exact kb | (refine Below.setCell ?_ (by simp) _))
set_option maxHeartbeats 400000 in
theorem times_impl_yes (a b c d n p q r g : Int) (w : World) (hx : okI a b c d = true) (hn : -400 ≤ n) (hn' : n ≤ 400) (hp : a * n = p) (hq : b * n = q) (hr : c * n = r) (hg : g = gcd4 p q r d) (hy : okI (p.tdiv g) (q.tdiv g) (r.tdiv g) (d.tdiv g) = true) :
    Calls Tryd.prog 35 #[ivV a b c d, .int .i64 n] w fun e w' => e = .returned (.tuple #[ivV (p.tdiv g) (q.tdiv g) (r.tdiv g) (d.tdiv g), .bool true]) ∧ Below w.heap.size w w' := by
  obtain ⟨k1, k2, k3, k4, k5, k6, k7, k8⟩ := okI_bd hx
  have pb := mul_bd a n 400 400 p hp (by omega) (by omega) (by omega) (by omega) (by omega) (by omega)
  have qb := mul_bd b n 400 400 q hq (by omega) (by omega) (by omega) (by omega) (by omega) (by omega)
  have rb := mul_bd c n 400 400 r hr (by omega) (by omega) (by omega) (by omega) (by omega) (by omega)
  obtain ⟨pb1, pb2⟩ := pb
  obtain ⟨qb1, qb2⟩ := qb
  obtain ⟨rb1, rb2⟩ := rb
  have HN : Hid (decide (-400 ≤ n ∧ n ≤ 400) = true) := Lib.hid (by simp; omega)
  have HP := Lib.hid hp
  have HQ := Lib.hid hq
  have HR := Lib.hid hr
  have HG := Lib.hid hg
  have HY := Lib.hid hy
  have HX := Lib.hid hx
  clear hx hp hq hr hg hy
  go_enter Tryd.func35, Tryd.ntmps35
  go_wp2_with fail
  refine (intervalOk_any _ _ _ _ _).mono ?_
  rintro e w1 ⟨rfl, hb⟩
  rw [HX.out]
  obtain ⟨hc, hf⟩ := bcellT hb
  have q0 : w1.cell? ⟨w.heap.size + 1, 0, none⟩ = some (.int .i64 0) := by rw [hc _ _ (by simp)]; simp [go_sem]
  have q1 : w1.cell? ⟨w.heap.size + 1, 1, none⟩ = some (.int .i64 0) := by rw [hc _ _ (by simp)]; simp [go_sem]
  have q2 : w1.cell? ⟨w.heap.size + 1, 2, none⟩ = some (.int .i64 0) := by rw [hc _ _ (by simp)]; simp [go_sem]
  have q3 : w1.cell? ⟨w.heap.size + 1, 3, none⟩ = some (.int .i64 0) := by rw [hc _ _ (by simp)]; simp [go_sem]
  have p0 : w1.cell? ⟨w.heap.size, 0, none⟩ = some (.int .i64 a) := by rw [hc _ _ (by simp; omega)]; simp [go_sem]
  have p1 : w1.cell? ⟨w.heap.size, 1, none⟩ = some (.int .i64 b) := by rw [hc _ _ (by simp; omega)]; simp [go_sem]
  have p2 : w1.cell? ⟨w.heap.size, 2, none⟩ = some (.int .i64 c) := by rw [hc _ _ (by simp; omega)]; simp [go_sem]
  have p3 : w1.cell? ⟨w.heap.size, 3, none⟩ = some (.int .i64 d) := by rw [hc _ _ (by simp; omega)]; simp [go_sem]
  have kb : Below w.heap.size w w1 := (below_alloc2 w _ _).trans (hb.mono (by simp; omega))
  have s1 := hb.size
  simp at s1
  have f1 : ∀ o, w1.frozen? ⟨w.heap.size + 1, o, none⟩ = false := fun o => by rw [hf _ _ (by simp)]; simp [go_sem]
  have F1 := Lib.hid f1
  clear hb hc hf f1
  have hp := HP.out
  have hq := HQ.out
  have hr := HR.out
  go_wp2_with fail
  refine (ifOk_yes _ _ _ _ g _ HG.out (by omega) (by omega) (by omega) (by omega) (by omega) (by omega) (by omega) (by omega) HY.out).mono ?_
  rintro e w2 ⟨rfl, hb2⟩
  clear hp hq hr
  obtain ⟨hc2, hf2⟩ := bcellT hb2
  have r0 : w2.cell? ⟨w.heap.size + 1, 0, none⟩ = some (.int .i64 0) := by rw [hc2 _ _ (by omega)]; exact q0
  have r1 : w2.cell? ⟨w.heap.size + 1, 1, none⟩ = some (.int .i64 0) := by rw [hc2 _ _ (by omega)]; exact q1
  have r2 : w2.cell? ⟨w.heap.size + 1, 2, none⟩ = some (.int .i64 0) := by rw [hc2 _ _ (by omega)]; exact q2
  have r3 : w2.cell? ⟨w.heap.size + 1, 3, none⟩ = some (.int .i64 0) := by rw [hc2 _ _ (by omega)]; exact q3
  have f2 : ∀ o, w2.frozen? ⟨w.heap.size + 1, o, none⟩ = false := fun o => by rw [hf2 _ _ (by omega)]; exact F1.out o
  have kb2 : Below w.heap.size w w2 := kb.trans (hb2.mono (by omega))
  clear hb2 hc2 hf2 q0 q1 q2 q3 p0 p1 p2 p3
  go_wp2_with fail
  refine bodyPost_ret (v := .tuple #[ivV (p.tdiv g) (q.tdiv g) (r.tdiv g) (d.tdiv g), .bool true]) (by simp [results, Tryd.results35, go_sem, r0, r1, r2, r3]) rfl ⟨rfl, ?_⟩
  repeat' (first | exact kb2 | (refine Below.setCell ?_ (by simp) _))
set_option maxHeartbeats 400000 in
theorem times_impl_no (a b c d n p q r g : Int) (w : World) (hx : okI a b c d = true) (hn : -400 ≤ n) (hn' : n ≤ 400) (hp : a * n = p) (hq : b * n = q) (hr : c * n = r) (hg : g = gcd4 p q r d) (hy : okI (p.tdiv g) (q.tdiv g) (r.tdiv g) (d.tdiv g) = false) :
    Calls Tryd.prog 35 #[ivV a b c d, .int .i64 n] w fun e w' => e = .returned (.tuple #[ivV 0 0 0 0, .bool false]) ∧ Below w.heap.size w w' := by
  obtain ⟨k1, k2, k3, k4, k5, k6, k7, k8⟩ := okI_bd hx
  have pb := mul_bd a n 400 400 p hp (by omega) (by omega) (by omega) (by omega) (by omega) (by omega)
  have qb := mul_bd b n 400 400 q hq (by omega) (by omega) (by omega) (by omega) (by omega) (by omega)
  have rb := mul_bd c n 400 400 r hr (by omega) (by omega) (by omega) (by omega) (by omega) (by omega)
  obtain ⟨pb1, pb2⟩ := pb
  obtain ⟨qb1, qb2⟩ := qb
  obtain ⟨rb1, rb2⟩ := rb
  have HN : Hid (decide (-400 ≤ n ∧ n ≤ 400) = true) := Lib.hid (by simp; omega)
  have HP := Lib.hid hp
  have HQ := Lib.hid hq
  have HR := Lib.hid hr
  have HG := Lib.hid hg
  have HY := Lib.hid hy
  have HX := Lib.hid hx
  clear hx hp hq hr hg hy
  go_enter Tryd.func35, Tryd.ntmps35
  go_wp2_with fail
  refine (intervalOk_any _ _ _ _ _).mono ?_
  rintro e w1 ⟨rfl, hb⟩
  rw [HX.out]
  obtain ⟨hc, hf⟩ := bcellT hb
  have q0 : w1.cell? ⟨w.heap.size + 1, 0, none⟩ = some (.int .i64 0) := by rw [hc _ _ (by simp)]; simp [go_sem]
  have q1 : w1.cell? ⟨w.heap.size + 1, 1, none⟩ = some (.int .i64 0) := by rw [hc _ _ (by simp)]; simp [go_sem]
  have q2 : w1.cell? ⟨w.heap.size + 1, 2, none⟩ = some (.int .i64 0) := by rw [hc _ _ (by simp)]; simp [go_sem]
  have q3 : w1.cell? ⟨w.heap.size + 1, 3, none⟩ = some (.int .i64 0) := by rw [hc _ _ (by simp)]; simp [go_sem]
  have p0 : w1.cell? ⟨w.heap.size, 0, none⟩ = some (.int .i64 a) := by rw [hc _ _ (by simp; omega)]; simp [go_sem]
  have p1 : w1.cell? ⟨w.heap.size, 1, none⟩ = some (.int .i64 b) := by rw [hc _ _ (by simp; omega)]; simp [go_sem]
  have p2 : w1.cell? ⟨w.heap.size, 2, none⟩ = some (.int .i64 c) := by rw [hc _ _ (by simp; omega)]; simp [go_sem]
  have p3 : w1.cell? ⟨w.heap.size, 3, none⟩ = some (.int .i64 d) := by rw [hc _ _ (by simp; omega)]; simp [go_sem]
  have kb : Below w.heap.size w w1 := (below_alloc2 w _ _).trans (hb.mono (by simp; omega))
  have s1 := hb.size
  simp at s1
  have f1 : ∀ o, w1.frozen? ⟨w.heap.size + 1, o, none⟩ = false := fun o => by rw [hf _ _ (by simp)]; simp [go_sem]
  have F1 := Lib.hid f1
  clear hb hc hf f1
  have hp := HP.out
  have hq := HQ.out
  have hr := HR.out
  go_wp2_with fail
  refine (ifOk_no _ _ _ _ g _ HG.out (by omega) (by omega) (by omega) (by omega) (by omega) (by omega) (by omega) (by omega) HY.out).mono ?_
  rintro e w2 ⟨rfl, hb2⟩
  clear hp hq hr
  obtain ⟨hc2, hf2⟩ := bcellT hb2
  have r0 : w2.cell? ⟨w.heap.size + 1, 0, none⟩ = some (.int .i64 0) := by rw [hc2 _ _ (by omega)]; exact q0
  have r1 : w2.cell? ⟨w.heap.size + 1, 1, none⟩ = some (.int .i64 0) := by rw [hc2 _ _ (by omega)]; exact q1
  have r2 : w2.cell? ⟨w.heap.size + 1, 2, none⟩ = some (.int .i64 0) := by rw [hc2 _ _ (by omega)]; exact q2
  have r3 : w2.cell? ⟨w.heap.size + 1, 3, none⟩ = some (.int .i64 0) := by rw [hc2 _ _ (by omega)]; exact q3
  have f2 : ∀ o, w2.frozen? ⟨w.heap.size + 1, o, none⟩ = false := fun o => by rw [hf2 _ _ (by omega)]; exact F1.out o
  have kb2 : Below w.heap.size w w2 := kb.trans (hb2.mono (by omega))
  clear hb2 hc2 hf2 q0 q1 q2 q3 p0 p1 p2 p3
  go_wp2_with fail
  refine bodyPost_ret (v := .tuple #[ivV 0 0 0 0, .bool false]) (by simp [results, Tryd.results35, go_sem, r0, r1, r2, r3]) rfl ⟨rfl, ?_⟩
  repeat' (first | exact kb2 | (refine Below.setCell ?_ (by simp) _))
end Go.Proofs.YtifpknhhbdeopaaDoor
