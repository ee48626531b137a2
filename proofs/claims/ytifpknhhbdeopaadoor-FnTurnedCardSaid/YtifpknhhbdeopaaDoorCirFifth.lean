/- Contracts of impl.narrowedFifths and of FifthAt, both sides. -/
import Derived.Test.YtifpknhhbdeopaaDoorCirMath
import Derived.Test.YtifpknhhbdeopaaDoorMeanWalks
namespace Go.Proofs.YtifpknhhbdeopaaDoor
open Go.RowKit Go.Joins
set_option linter.unusedVariables false
set_option maxHeartbeats 1000000 in
/-- The pure fifth some times and the Pythagorean comma some times. -/
theorem sumChain_impl {a b p q : Int} (ha : 0 ≤ a ∧ a ≤ 200) (hb : -100 ≤ b ∧ b ≤ 100) (h1 : p = -a + b * -19) (h2 : q = a + b * 12) (w : World) :
    Calls Tryd.prog 32 #[ivV (-1) 1 0 1, .int .i64 a, ivV (-19) 12 0 1, .int .i64 b] w fun e w' => e = .returned (ivV p q 0 1) ∧ Below w.heap.size w w' := by
  have v0 : IntKind.i64.wrap (-a) = -a := IntWalk.i64_in _ (by omega)
  have v1 : IntKind.i64.wrap a = a := IntWalk.i64_in _ (by omega)
  have v2 : IntKind.i64.wrap (b * -19) = b * -19 := IntWalk.i64_in _ (by omega)
  have v4 : IntKind.i64.wrap (b * 12) = b * 12 := IntWalk.i64_in _ (by omega)
  have v6 : IntKind.i64.wrap (-a + b * -19) = p := by rw [IntWalk.i64_in _ (by omega)]; exact h1.symm
  have v7 : IntKind.i64.wrap (a + b * 12) = q := by rw [IntWalk.i64_in _ (by omega)]; exact h2.symm
  clear h1 h2
  go_enter Tryd.func32, Tryd.ntmps32
  go_wp2_with fail
  refine bodyPost_ret (v := ivV p q 0 1) (by simp [results, Tryd.results32, go_sem]) rfl ⟨rfl, ?_⟩
  exact ((below_alloc1 w _).alloc (by simp) _).alloc (by simp; omega) _
/-- What narrowedFifths answers. -/
def ChAt (f n p q r s : Int) : Prop := ChOk f n ∧ p = (chV f n).two ∧ q = (chV f n).three ∧ r = (chV f n).five ∧ s = (chV f n).root
theorem ch_raw {f n : Int} (h : ChOk f n) : okI (19 * n - 12 * f) (12 * f - 12 * n) 0 12 = true := by
  obtain ⟨h1, h2, h3, h4⟩ := h
  exact okI_mk (by omega)
theorem chAt_simple {f n p q r s : Int} (h : ChAt f n p q r s) (w : World) :
    Calls Tryd.prog 34 #[ivV (19 * n - 12 * f) (12 * f - 12 * n) 0 12] w fun e w' => e = .returned (ivV p q r s) ∧ Below w.heap.size w w' := by
  obtain ⟨hk, rfl, rfl, rfl, rfl⟩ := h
  exact simplest_impl_yes _ _ _ _ _ w rfl (ch_raw hk)
set_option maxRecDepth 100000 in
set_option maxHeartbeats 2000000 in
theorem narrowed_impl {f n p q r s : Int} (h : ChAt f n p q r s) (w : World) :
    Calls Tryd.prog 18 #[.int .i64 f, .int .i64 n] w fun e w' => e = .returned (ivV p q r s) ∧ Below w.heap.size w w' := by
  obtain ⟨h1, h2, h3, h4⟩ := h.1
  obtain ⟨a, ha⟩ : ∃ a, a = 12 * f := ⟨_, rfl⟩
  obtain ⟨b, hb⟩ : ∃ b, b = -n := ⟨_, rfl⟩
  obtain ⟨t, ht⟩ : ∃ t, t = 19 * n - 12 * f := ⟨_, rfl⟩
  obtain ⟨u, hu⟩ : ∃ u, u = 12 * f - 12 * n := ⟨_, rfl⟩
  have HC := Lib.hid (fun w => chAt_simple h w)
  rw [← ht, ← hu] at HC
  have SU := Lib.hid (fun w => sumChain_impl (a := a) (b := b) (p := t) (q := u) (by omega) (by omega) (by omega) (by omega) w)
  have v0 : IntKind.i64.wrap (-n) = b := by rw [IntWalk.i64_in _ (by omega)]; exact hb.symm
  have v1 : IntKind.i64.wrap (12 * f) = a := by rw [IntWalk.i64_in _ (by omega)]; exact ha.symm
  clear h ht hu hb ha
  go_enter Tryd.func18, Tryd.ntmps18
  go_wp2_with fail
  refine (pure_impl_yes (-1) 1 0 _ (by decide)).mono ?_
  rintro e w1 ⟨rfl, b1⟩
  have Z1 := Lib.hid (zero4_keep b1 zero4_alloc)
  have B1 := Lib.hid ((below_alloc1 w _).trans (b1.mono (by simp)))
  clear b1
  go_wp2_with fail
  refine (comma_impl com1 _).mono ?_
  rintro e w2 ⟨rfl, b2⟩
  have Z2 := Lib.hid (zero4_keep b2 Z1.out)
  have B2 := Lib.hid (B1.out.trans (b2.mono B1.out.size))
  clear b2 Z1 B1
  go_wp2_with fail
  refine (SU.out _).mono ?_
  rintro e w3 ⟨rfl, b3⟩
  have Z3 := Lib.hid (zero4_keep ((Below.refl _ _).alloc (Nat.le_refl _) (.cells #[.int .i64 t, .int .i64 u, .int .i64 0, .int .i64 1] 33)) (zero4_keep b3 Z2.out))
  have G3 := Lib.hid (four_alloc (w := w3) (p := t) (q := u) (r := 0) (s := 1) (t := 33))
  have B3 := Lib.hid ((B2.out.trans (b3.mono B2.out.size)).alloc (by have := b3.size; have := B2.out.size; omega) (.cells #[.int .i64 t, .int .i64 u, .int .i64 0, .int .i64 1] 33))
  have M3 : w.heap.size < w3.heap.size := by have := b3.size; have := Z2.out.1.1; omega
  clear b3 Z2 B2 SU v0
  go_upto_region 2 with fail
  obtain ⟨W3, hW⟩ : ∃ W, W = w3.alloc (.cells #[.int .i64 t, .int .i64 u, .int .i64 0, .int .i64 1] 33) := ⟨_, rfl⟩
  obtain ⟨k, hk⟩ : ∃ k, k = w3.heap.size := ⟨_, rfl⟩
  rw [← hW] at Z3 G3 B3 ⊢
  rw [← hk] at G3 M3 ⊢
  have Z4 := Lib.hid (zero4_oth (j := 3) (v := .int .i64 12) (show k ≠ w.heap.size from by omega) Z3.out)
  have G4 := Lib.hid (four_last (s' := 12) G3.out)
  have B4 := Lib.hid (B3.out.setCell (p := ⟨k, 3, none⟩) (by simp; omega) (.int .i64 12))
  have F3 : ∀ o, W3.frozen? ⟨k, o, none⟩ = false := fun o => by rw [hW, hk]; simp [go_sem]
  obtain ⟨_, x0, x1, x2, x3⟩ := G3.out
  clear hW hk Z3 G3 B3 M3
  go_upto_region 3 with fail
  obtain ⟨W4, hW⟩ : ∃ W, W = W3.setCell ⟨k, 3, none⟩ (.int .i64 12) := ⟨_, rfl⟩
  rw [← hW] at Z4 G4 B4 ⊢
  clear hW x0 x1 x2 x3 F3
  obtain ⟨_, x0, x1, x2, x3⟩ := G4.out
  go_wp2_with fail
  refine (calls_zero Z4.out (Below.refl _ _) (HC.out _)).mono ?_
  rintro e w5 ⟨rfl, hb, ⟨zm, z0, z1, z2, z3⟩, zf⟩
  have B5 := Lib.hid (B4.out.trans (hb.mono B4.out.size))
  clear x0 x1 x2 x3 hb B4 Z4 G4
  go_wp2_with fail
  obtain ⟨X, hX, ⟨gm, g0, g1, g2, g3⟩, gb⟩ := zed4_store (w := w) (p := p) (q := q) (r := r) (s := s) (Nat.le_refl _) B5.out ⟨zm, z0, z1, z2, z3⟩
  rw [← hX]
  have GB := Lib.hid gb
  clear hX gb z0 z1 z2 z3 zm zf B5
  refine bodyPost_ret (v := ivV p q r s) (by simp [results, Tryd.results18, go_sem, g0, g1, g2, g3]) rfl ⟨rfl, GB.out⟩
/-- What FifthAt answers. -/
def FtAt (xs : List Int) (i p q r s : Int) : Prop :=
  ((CirOk xs ∧ 0 ≤ i ∧ i ≤ 11) ∧ ChAt 1 (xs.getD i.toNat 0) p q r s) ∨
  ((cirB xs && decide (0 ≤ i ∧ i ≤ 11)) = false ∧ p = 0 ∧ q = 0 ∧ r = 0 ∧ s = 0)
theorem cir_part {xs : List Int} (h : CirOk xs) {j : Nat} (hj : j < 12) : 0 ≤ xs.getD j 0 ∧ xs.getD j 0 ≤ 12 := h.2.1 j hj
theorem key_cases (xs : List Int) (i : Int) : (CirOk xs ∧ 0 ≤ i ∧ i ≤ 11) ∨ (cirB xs && decide (0 ≤ i ∧ i ≤ 11)) = false := by
  by_cases h1 : CirOk xs
  · by_cases h2 : 0 ≤ i ∧ i ≤ 11
    · exact .inl ⟨h1, h2⟩
    · exact .inr (by rw [decide_eq_false h2, Bool.and_false])
  · exact .inr (by rw [show cirB xs = false from decide_eq_false h1, Bool.false_and])
theorem ftAt_ex (xs : List Int) (i : Int) : ∃ p q r s, FtAt xs i p q r s := by
  rcases key_cases xs i with h | h
  · have k := cir_part h.1 (j := i.toNat) (by omega)
    exact ⟨_, _, _, _, .inl ⟨h, ⟨by omega, by omega, k.1, k.2⟩, rfl, rfl, rfl, rfl⟩⟩
  · exact ⟨_, _, _, _, .inr ⟨h, rfl, rfl, rfl, rfl⟩⟩
/-- The row of a valid circle. -/
theorem cir_row {w : World} {b : Nat} {e : TypeId} {v : Value} {xs : List Int} (h : w.ownsRow b e 1 v xs.length (intCs xs)) (hc : CirOk xs) : ∃ g cap, v = .slice (some ⟨g, 0, none⟩) 12 cap ∧ g < w.heap.size ∧ 12 ≤ cap ∧ cap ≤ maxLen ∧ ∀ j, j < 12 → w.cell? ⟨g, j, none⟩ = some (.int .i64 (xs.getD j 0)) := by
  obtain ⟨l, hl⟩ : ∃ l, l = xs.length := ⟨_, rfl⟩
  have hl' := hc.1
  rw [← hl] at h hl'
  subst hl'
  have hh := h
  obtain ⟨g, cap, rfl, _, hg⟩ := own_pos h (by omega)
  obtain ⟨_, h1 | ⟨g', cap', cur, hv, _, _, q1, q2, _⟩⟩ := hh
  · exact absurd h1.2 (by omega)
  · simp only [Value.slice.injEq] at hv
    obtain ⟨_, _, rfl⟩ := hv
    exact ⟨g, cap, rfl, hg, q1, q2, fun j hj => own_icell h j hj⟩
end Go.Proofs.YtifpknhhbdeopaaDoor
