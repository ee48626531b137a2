/- What Fifths answers, told without a look inside; contracts of impl.Fifths and spec.Fifths. -/
import Derived.Test.YtdnlebijmiaclabDoorOctWalks
import Derived.Test.YtdnlebijmiaclabDoorSOctWalks
import Derived.Test.YtdnlebijmiaclabDoorToneWalks
namespace Go.Proofs.YtdnlebijmiaclabDoor
open Go.RowKit Go.Joins
set_option linter.unusedVariables false
/-- What Fifths answers. -/
def FifAt (n p q r s : Int) (y : Bool) : Prop :=
  ((-100 ≤ n ∧ n ≤ 100) ∧ WithinAt (-n) n 0 1 p q r s y) ∨ (¬ (-100 ≤ n ∧ n ≤ 100) ∧ p = 0 ∧ q = 0 ∧ r = 0 ∧ s = 0 ∧ y = false)
theorem fifAt_ex (n : Int) : ∃ p q r s y, FifAt n p q r s y := by
  by_cases h : -100 ≤ n ∧ n ≤ 100
  · obtain ⟨p, q, r, s, y, hw⟩ := withinAt_ex (-n) n 0 1
    exact ⟨p, q, r, s, y, Or.inl ⟨h, hw⟩⟩
  · exact ⟨0, 0, 0, 0, false, Or.inr ⟨h, rfl, rfl, rfl, rfl, rfl⟩⟩
theorem fif_ok {n : Int} (h : -100 ≤ n ∧ n ≤ 100) : okI (-n) n 0 1 = true := okI_mk (by omega)
theorem zero4_store {w w2 : World} {z : Nat} {p q r s : Int} (hz : w.heap.size ≤ z) (hb : Below w.heap.size w w2) (h4 : Four z 0 0 0 0 w2) :
    ∃ X, X = ((((w2.setCell ⟨z, 0, none⟩ (.int .i64 p)).setCell ⟨z, 1, none⟩ (.int .i64 q)).setCell ⟨z, 2, none⟩ (.int .i64 r)).setCell ⟨z, 3, none⟩ (.int .i64 s)) ∧ Four z p q r s X ∧ Below w.heap.size w X :=
  ⟨_, rfl, four_set h4, below_set4w hz hb⟩
set_option maxRecDepth 100000 in
set_option maxHeartbeats 1000000 in
theorem fifths_impl_yes {n p q r s : Int} {y : Bool} (hn : -100 ≤ n ∧ n ≤ 100) (h : WithinAt (-n) n 0 1 p q r s y) (w : World) :
    Calls Tryd.prog 39 #[.int .i64 n] w fun e w' => e = .returned (.tuple #[ivV p q r s, .bool y]) ∧ Below w.heap.size w w' := by
  have H := Lib.hid h
  have OK := Lib.hid (fif_ok hn)
  obtain ⟨n1, n2⟩ := hn
  have v1 : IntKind.i64.wrap (-n) = -n := IntWalk.i64_in _ (by omega)
  have d1 : ¬ n < -100 := by omega
  have d2 : ¬ 100 < n := by omega
  clear h
  go_enter Tryd.func39, Tryd.ntmps39
  go_wp2_with fail
  refine (pure_impl_yes (-n) n 0 _ OK.out).mono ?_
  rintro e w1 ⟨rfl, hb⟩
  have hz : Zero4 w.heap.size w1 := zero4_keep hb zero4_alloc
  have B1 := Lib.hid ((below_alloc1 w _).trans (hb.mono (by simp)))
  clear hb
  go_wp2_with fail
  refine (calls_zero (W := w1) hz (Below.refl _ _) (within_impl H.out _)).mono ?_
  rintro e w2 ⟨rfl, hb, ⟨zm, z0, z1, z2, z3⟩, zf⟩
  have B2 := Lib.hid (B1.out.trans (hb.mono B1.out.size))
  clear hb B1
  go_upto_region 6 with fail
  obtain ⟨X, hX, ⟨gm, g0, g1, g2, g3⟩, gb⟩ := zero4_store (p := p) (q := q) (r := r) (s := s) (Nat.le_refl _) B2.out ⟨zm, z0, z1, z2, z3⟩
  rw [← hX]
  have GB := Lib.hid gb
  clear hX gb z0 z1 z2 z3 zm zf hz
  go_wp2_with fail
  refine bodyPost_ret (v := .tuple #[ivV p q r s, .bool y]) (by simp [results, Tryd.results39, go_sem, g0, g1, g2, g3]) rfl ⟨rfl, GB.out⟩
set_option maxRecDepth 100000 in
set_option maxHeartbeats 1000000 in
theorem fifths_impl_no {n : Int} (hn : ¬ (-100 ≤ n ∧ n ≤ 100)) (w : World) :
    Calls Tryd.prog 39 #[.int .i64 n] w fun e w' => e = .returned (.tuple #[ivV 0 0 0 0, .bool false]) ∧ Below w.heap.size w w' := by
  by_cases d1 : n < -100
  · clear hn
    go_enter Tryd.func39, Tryd.ntmps39
    go_wp2_with fail
    refine bodyPost_ret (v := .tuple #[ivV 0 0 0 0, .bool false]) (by simp [results, Tryd.results39, go_sem]) rfl ⟨rfl, ?_⟩
    repeat' (first | exact below_alloc1 w _ | (refine Below.setCell ?_ (by simp) _))
  · have d2 : 100 < n := by omega
    clear hn
    go_enter Tryd.func39, Tryd.ntmps39
    go_wp2_with fail
    refine bodyPost_ret (v := .tuple #[ivV 0 0 0 0, .bool false]) (by simp [results, Tryd.results39, go_sem]) rfl ⟨rfl, ?_⟩
    repeat' (first | exact below_alloc1 w _ | (refine Below.setCell ?_ (by simp) _))
theorem fifths_impl {n p q r s : Int} {y : Bool} (h : FifAt n p q r s y) (w : World) :
    Calls Tryd.prog 39 #[.int .i64 n] w fun e w' => e = .returned (.tuple #[ivV p q r s, .bool y]) ∧ Below w.heap.size w w' := by
  rcases h with ⟨h1, h2⟩ | ⟨h, rfl, rfl, rfl, rfl, rfl⟩
  · exact fifths_impl_yes h1 h2 w
  · exact fifths_impl_no h w
set_option maxRecDepth 100000 in
set_option maxHeartbeats 1000000 in
theorem fifths_spec_yes {n p q r s : Int} {y : Bool} (hn : -100 ≤ n ∧ n ≤ 100) (h : WithinAt (-n) n 0 1 p q r s y) (w : World) :
    Calls Tryd.prog 68 #[.int .i64 n] w fun e w' => e = .returned (.tuple #[ivV p q r s, .bool y]) ∧ Below w.heap.size w w' := by
  have H := Lib.hid h
  have D := Lib.hid (decide_eq_true hn)
  obtain ⟨n1, n2⟩ := hn
  have v1 : IntKind.i64.wrap (-n) = -n := IntWalk.i64_in _ (by omega)
  clear h n1 n2
  go_enter Tryd.func68, Tryd.ntmps68
  go_wp2_with fail
  refine (in_any _ _ _ _).mono ?_
  rintro e w1 ⟨rfl, rfl⟩
  rw [D.out]
  go_wp2_with fail
  refine (calls_zero (zero4_alloc (w := w) (t := 25)) (Below.refl _ _) (within_spec H.out _)).mono ?_
  rintro e w2 ⟨rfl, hb, ⟨zm, z0, z1, z2, z3⟩, zf⟩
  have B2 := Lib.hid ((below_alloc1 w _).trans (hb.mono (by simp)))
  clear hb
  go_upto_region 6 with fail
  obtain ⟨X, hX, ⟨gm, g0, g1, g2, g3⟩, gb⟩ := zero4_store (p := p) (q := q) (r := r) (s := s) (Nat.le_refl _) B2.out ⟨zm, z0, z1, z2, z3⟩
  rw [← hX]
  have GB := Lib.hid gb
  clear hX gb z0 z1 z2 z3 zm zf
  go_wp2_with fail
  refine bodyPost_ret (v := .tuple #[ivV p q r s, .bool y]) (by simp [results, Tryd.results68, go_sem, g0, g1, g2, g3]) rfl ⟨rfl, GB.out⟩
set_option maxRecDepth 100000 in
set_option maxHeartbeats 1000000 in
theorem fifths_spec_no {n : Int} (hn : ¬ (-100 ≤ n ∧ n ≤ 100)) (w : World) :
    Calls Tryd.prog 68 #[.int .i64 n] w fun e w' => e = .returned (.tuple #[ivV 0 0 0 0, .bool false]) ∧ Below w.heap.size w w' := by
  have D := Lib.hid (decide_eq_false hn)
  clear hn
  go_enter Tryd.func68, Tryd.ntmps68
  go_wp2_with fail
  refine (in_any _ _ _ _).mono ?_
  rintro e w1 ⟨rfl, rfl⟩
  rw [D.out]
  go_wp2_with fail
  refine bodyPost_ret (v := .tuple #[ivV 0 0 0 0, .bool false]) (by simp [results, Tryd.results68, go_sem]) rfl ⟨rfl, ?_⟩
  repeat' (first | exact below_alloc1 w _ | (refine Below.setCell ?_ (by simp) _))
theorem fifths_spec {n p q r s : Int} {y : Bool} (h : FifAt n p q r s y) (w : World) :
    Calls Tryd.prog 68 #[.int .i64 n] w fun e w' => e = .returned (.tuple #[ivV p q r s, .bool y]) ∧ Below w.heap.size w w' := by
  rcases h with ⟨h1, h2⟩ | ⟨h, rfl, rfl, rfl, rfl, rfl⟩
  · exact fifths_spec_yes h1 h2 w
  · exact fifths_spec_no h w
end Go.Proofs.YtdnlebijmiaclabDoor
