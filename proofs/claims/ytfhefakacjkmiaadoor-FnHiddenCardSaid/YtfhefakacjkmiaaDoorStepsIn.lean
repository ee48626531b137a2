/- What StepsIn answers; a map and an interval in two blocks. -/
import Derived.Test.YtfhefakacjkmiaaDoorMapWalks
import Derived.Test.YtfhefakacjkmiaaDoorNumBase
import Derived.Deep.RegionHeld3
import Derived.Deep.DeepCutAuto
namespace Go.Proofs.YtfhefakacjkmiaaDoor
open Go.RowKit Go.Joins
set_option linter.unusedVariables false
/-- The products of the steps, and their bounds. -/
structure ProdAt (a b c t h f p q r z : Int) : Prop where
  p0 : a * t = p
  q0 : b * h = q
  r0 : c * f = r
  p1 : -1000000 ≤ p
  p2 : p ≤ 1000000
  q1 : -1000000 ≤ q
  q2 : q ≤ 1000000
  r1 : -1000000 ≤ r
  r2 : r ≤ 1000000
  z0 : z = p + q + r
def StepsAt (a b c t h f d z : Int) (y : Bool) : Prop :=
  (okM a b c = true ∧ okI t h f d = true ∧ d = 1 ∧ (∃ p q r, ProdAt a b c t h f p q r z) ∧ y = true) ∨ (okM a b c = false ∧ z = 0 ∧ y = false) ∨
  (okM a b c = true ∧ okI t h f d = false ∧ z = 0 ∧ y = false) ∨ (okM a b c = true ∧ okI t h f d = true ∧ ¬ d = 1 ∧ z = 0 ∧ y = false)
theorem prod_bd {a t : Int} (a0 : 0 ≤ a) (a1 : a ≤ 200) (t0 : -400 ≤ t) (t1 : t ≤ 400) : -1000000 ≤ a * t ∧ a * t ≤ 1000000 := by
  have h1 := Int.mul_nonneg a0 (show 0 ≤ t + 400 from by omega)
  have h2 := Int.mul_nonneg a0 (show 0 ≤ 400 - t from by omega)
  rw [Int.mul_add] at h1
  rw [Int.mul_sub] at h2
  omega
theorem stepsAt_ex (a b c t h f d : Int) : ∃ z y, StepsAt a b c t h f d z y := by
  obtain ⟨x, hx⟩ : ∃ x : Bool, okM a b c = x := ⟨_, rfl⟩
  obtain ⟨u, hu⟩ : ∃ x : Bool, okI t h f d = x := ⟨_, rfl⟩
  cases x
  · exact ⟨0, false, .inr (.inl ⟨hx, rfl, rfl⟩)⟩
  · cases u
    · exact ⟨0, false, .inr (.inr (.inl ⟨hx, hu, rfl, rfl⟩))⟩
    · by_cases hd : d = 1
      · obtain ⟨a1, a2, b1, b2, c1, c2⟩ := okM_nums hx
        obtain ⟨_, _, t1, t2, h1, h2, f1, f2⟩ := okI_nums hu
        have P := prod_bd (a := a) (t := t) (by omega) (by omega) t1 t2
        have Q := prod_bd b1 b2 h1 h2
        have R := prod_bd c1 c2 f1 f2
        exact ⟨_, true, .inl ⟨hx, hu, hd, ⟨_, _, _, ⟨rfl, rfl, rfl, P.1, P.2, Q.1, Q.2, R.1, R.2, rfl⟩⟩, rfl⟩⟩
      · exact ⟨0, false, .inr (.inr (.inr ⟨hx, hu, hd, rfl, rfl⟩))⟩
/-- A map and an interval in two blocks, one behind the other. -/
abbrev TF (n : Nat) (a b c t h f d : Int) (w : World) : Prop := w.cell? ⟨n, 0, none⟩ = some (.int .i64 a) ∧ w.cell? ⟨n, 1, none⟩ = some (.int .i64 b) ∧ w.cell? ⟨n, 2, none⟩ = some (.int .i64 c) ∧ w.cell? ⟨n + 1, 0, none⟩ = some (.int .i64 t) ∧ w.cell? ⟨n + 1, 1, none⟩ = some (.int .i64 h) ∧ w.cell? ⟨n + 1, 2, none⟩ = some (.int .i64 f) ∧ w.cell? ⟨n + 1, 3, none⟩ = some (.int .i64 d)
theorem tf_keep {W w : World} {n : Nat} {a b c t h f d : Int} (hn : n + 1 < W.heap.size) (hb : Below W.heap.size W w) (H : TF n a b c t h f d W) : TF n a b c t h f d w := by
  obtain ⟨h0, h1, h2, h3, h4, h5, h6⟩ := H
  exact ⟨(hb.cell (by show n < _; omega)).trans h0, (hb.cell (by show n < _; omega)).trans h1, (hb.cell (by show n < _; omega)).trans h2, (hb.cell (by show n + 1 < _; omega)).trans h3, (hb.cell (by show n + 1 < _; omega)).trans h4, (hb.cell (by show n + 1 < _; omega)).trans h5, (hb.cell (by show n + 1 < _; omega)).trans h6⟩
theorem tf_drew {w : World} {n : Nat} {a b c t h f d : Int} (H : TF n a b c t h f d w) : TF n a b c t h f d w.drew := H
theorem tf_start (a b c t h f d : Int) (w : World) (T U : TypeId) : TF w.heap.size a b c t h f d ((w.alloc (.cells #[.int .i64 a, .int .i64 b, .int .i64 c] T)).alloc (.cells #[.int .i64 t, .int .i64 h, .int .i64 f, .int .i64 d] U)) := by
  unfold TF
  refine ⟨?_, ?_, ?_, ?_, ?_, ?_, ?_⟩ <;> simp [go_sem]
theorem tf_lt {W w : World} {n : Nat} (hn : n + 1 < W.heap.size) (hb : Below W.heap.size W w) : n + 1 < w.heap.size := Nat.lt_of_lt_of_le hn hb.size
theorem ret_tupT {x z : Int} {y : Bool} (h : x = z) : Ending.returned (.tuple #[.int .i64 x, .bool y]) = .returned (.tuple #[.int .i64 z, .bool y]) := by rw [h]
end Go.Proofs.YtfhefakacjkmiaaDoor
/- Contracts of StepsIn, both sides. -/
namespace Go.Proofs.YtfhefakacjkmiaaDoor
open Go.RowKit Go.Joins
set_option linter.unusedVariables false
theorem smapOkB {a b c : Int} {x : Bool} (h : okM a b c = x) (w : World) : Calls Tryd.prog 33 #[mapV a b c] w fun e w' => e = .returned (.bool x) ∧ Below w.heap.size w w' := by rw [← h]; exact smapOk_any a b c w
theorem mapOkB {a b c : Int} {x : Bool} (h : okM a b c = x) (w : World) : Calls Tryd.prog 30 #[mapV a b c] w fun e w' => e = .returned (.bool x) ∧ Below w.heap.size w w' := by rw [← h]; exact mapOk_impl a b c w
theorem sokIB {a b c d : Int} {x : Bool} (h : okI a b c d = x) (w : World) : Calls Tryd.prog 35 #[ivV a b c d] w fun e w' => e = .returned (.bool x) ∧ Below w.heap.size w w' := by rw [← h]; exact sintervalOk_any a b c d w
theorem pure9B {a b c d : Int} {x : Bool} (h : pure9 a b c d = x) (w : World) : Calls Tryd.prog 43 #[ivV a b c d] w fun e w' => e = .returned (.bool x) ∧ Below w.heap.size w w' := by rw [← h]; exact isPure9_impl a b c d w
set_option maxHeartbeats 2000000 in
theorem steps_spec {a b c t h f d z : Int} {y : Bool} (H : StepsAt a b c t h f d z y) (w : World) :
    Calls Tryd.prog 71 #[mapV a b c, ivV t h f d] w fun e w' => e = .returned (.tuple #[.int .i64 z, .bool y]) ∧ Below w.heap.size w w' := by
  rcases H with ⟨hm, hi, hd, ⟨p, q, r, hp⟩, rfl⟩ | ⟨hm, rfl, rfl⟩ | ⟨hm, hi, rfl, rfl⟩ | ⟨hm, hi, hd, rfl, rfl⟩
  · subst hd
    have HM := Lib.hid (fun w => smapOkB hm w)
    have HI := Lib.hid (fun w => sokIB hi w)
    have HP := Lib.hid hp
    clear hm hi hp
    go_enter Tryd.func71, Tryd.ntmps71
    go_upto_region 1 with fail
    obtain ⟨W0, hW0⟩ : ∃ W0, W0 = ((w.alloc (.cells #[.int .i64 a, .int .i64 b, .int .i64 c] 25)).alloc (.cells #[.int .i64 t, .int .i64 h, .int .i64 f, .int .i64 1] 29)) := ⟨_, rfl⟩
    have TB : Hid (TF w.heap.size a b c t h f 1 W0) := Lib.hid (by rw [hW0]; exact tf_start _ _ _ _ _ _ _ _ _ _)
    have HN : Hid (w.heap.size + 1 < W0.heap.size) := Lib.hid (by rw [hW0]; simp)
    have B0 : Hid (Below w.heap.size w W0) := Lib.hid (by rw [hW0]; exact below_alloc2 _ _ _)
    rw [← hW0]
    clear hW0
    generalize hn : w.heap.size = n at TB HN ⊢
    obtain ⟨z0, z1, z2, z3, z4, z5, z6⟩ := TB.out
    go_wp2_with fail
    refine (HM.out _).mono ?_
    rintro e w1 ⟨rfl, h1⟩
    clear z0 z1 z2 z3 z4 z5 z6
    have T1 := Lib.hid (tf_keep HN.out h1 TB.out)
    have N1 := Lib.hid (tf_lt HN.out h1)
    have B1 := Lib.hid (B0.out.trans (h1.mono B0.out.size))
    clear h1 TB HN B0
    obtain ⟨z0, z1, z2, z3, z4, z5, z6⟩ := T1.out
    go_wp2_with fail
    refine (HI.out _).mono ?_
    rintro e w2 ⟨rfl, h1⟩
    clear z0 z1 z2 z3 z4 z5 z6
    have T2 := Lib.hid (tf_keep N1.out h1 T1.out)
    have B2 := Lib.hid (B1.out.trans (h1.mono B1.out.size))
    clear h1 T1 N1 B1
    obtain ⟨z0, z1, z2, z3, z4, z5, z6⟩ := T2.out
    obtain ⟨p0, q0, r0, p1, p2, q1, q2, r1, r2, e0⟩ := HP.out
    have E0 := Lib.hid e0
    clear e0
    go_wp2_with fail
    go_ret2
    exact ⟨ret_tupT E0.out.symm, hn ▸ B2.out⟩
  · have HM := Lib.hid (fun w => smapOkB hm w)
    clear hm
    go_enter Tryd.func71, Tryd.ntmps71
    go_wp2_with fail
    refine (HM.out _).mono ?_
    rintro e w1 ⟨rfl, h1⟩
    have B1 := Lib.hid ((below_alloc2 w _ _).trans (h1.mono (by simp; omega)))
    clear h1
    go_wp2_with fail
    go_ret2
    exact ⟨rfl, B1.out⟩
  · have HM := Lib.hid (fun w => smapOkB hm w)
    have HI := Lib.hid (fun w => sokIB hi w)
    clear hm hi
    go_enter Tryd.func71, Tryd.ntmps71
    go_upto_region 1 with fail
    obtain ⟨W0, hW0⟩ : ∃ W0, W0 = ((w.alloc (.cells #[.int .i64 a, .int .i64 b, .int .i64 c] 25)).alloc (.cells #[.int .i64 t, .int .i64 h, .int .i64 f, .int .i64 d] 29)) := ⟨_, rfl⟩
    have TB : Hid (TF w.heap.size a b c t h f d W0) := Lib.hid (by rw [hW0]; exact tf_start _ _ _ _ _ _ _ _ _ _)
    have HN : Hid (w.heap.size + 1 < W0.heap.size) := Lib.hid (by rw [hW0]; simp)
    have B0 : Hid (Below w.heap.size w W0) := Lib.hid (by rw [hW0]; exact below_alloc2 _ _ _)
    rw [← hW0]
    clear hW0
    generalize hn : w.heap.size = n at TB HN ⊢
    obtain ⟨z0, z1, z2, z3, z4, z5, z6⟩ := TB.out
    go_wp2_with fail
    refine (HM.out _).mono ?_
    rintro e w1 ⟨rfl, h1⟩
    clear z0 z1 z2 z3 z4 z5 z6
    have T1 := Lib.hid (tf_keep HN.out h1 TB.out)
    have B1 := Lib.hid (B0.out.trans (h1.mono B0.out.size))
    clear h1 TB HN B0
    obtain ⟨z0, z1, z2, z3, z4, z5, z6⟩ := T1.out
    go_wp2_with fail
    refine (HI.out _).mono ?_
    rintro e w2 ⟨rfl, h1⟩
    have B2 := Lib.hid (B1.out.trans (h1.mono B1.out.size))
    clear h1 T1 B1 z0 z1 z2 z3 z4 z5 z6
    go_wp2_with fail
    go_ret2
    exact ⟨rfl, hn ▸ B2.out⟩
  · have HM := Lib.hid (fun w => smapOkB hm w)
    have HI := Lib.hid (fun w => sokIB hi w)
    clear hm hi
    go_enter Tryd.func71, Tryd.ntmps71
    go_upto_region 1 with fail
    obtain ⟨W0, hW0⟩ : ∃ W0, W0 = ((w.alloc (.cells #[.int .i64 a, .int .i64 b, .int .i64 c] 25)).alloc (.cells #[.int .i64 t, .int .i64 h, .int .i64 f, .int .i64 d] 29)) := ⟨_, rfl⟩
    have TB : Hid (TF w.heap.size a b c t h f d W0) := Lib.hid (by rw [hW0]; exact tf_start _ _ _ _ _ _ _ _ _ _)
    have HN : Hid (w.heap.size + 1 < W0.heap.size) := Lib.hid (by rw [hW0]; simp)
    have B0 : Hid (Below w.heap.size w W0) := Lib.hid (by rw [hW0]; exact below_alloc2 _ _ _)
    rw [← hW0]
    clear hW0
    generalize hn : w.heap.size = n at TB HN ⊢
    obtain ⟨z0, z1, z2, z3, z4, z5, z6⟩ := TB.out
    go_wp2_with fail
    refine (HM.out _).mono ?_
    rintro e w1 ⟨rfl, h1⟩
    clear z0 z1 z2 z3 z4 z5 z6
    have T1 := Lib.hid (tf_keep HN.out h1 TB.out)
    have N1 := Lib.hid (tf_lt HN.out h1)
    have B1 := Lib.hid (B0.out.trans (h1.mono B0.out.size))
    clear h1 TB HN B0
    obtain ⟨z0, z1, z2, z3, z4, z5, z6⟩ := T1.out
    go_wp2_with fail
    refine (HI.out _).mono ?_
    rintro e w2 ⟨rfl, h1⟩
    clear z0 z1 z2 z3 z4 z5 z6
    have T2 := Lib.hid (tf_keep N1.out h1 T1.out)
    have B2 := Lib.hid (B1.out.trans (h1.mono B1.out.size))
    clear h1 T1 N1 B1
    obtain ⟨z0, z1, z2, z3, z4, z5, z6⟩ := T2.out
    go_wp2_with fail
    go_ret2
    exact ⟨rfl, hn ▸ B2.out⟩
end Go.Proofs.YtfhefakacjkmiaaDoor
