/- Contracts of MeanFifth, both sides, and of impl's tuning: a function value that holds a fifth in a block. -/
import Derived.Test.YtnlfmiheapcodaaMeanMath
import Derived.Test.YtnlfmiheapcodaaComSplit
import Derived.Test.YtnlfmiheapcodaaSOctWalks
namespace Go.Proofs.Ytnlfmiheapcodaa
open Go.RowKit Go.Joins
set_option linter.unusedVariables false
theorem four_last {w : World} {m : Nat} {p q r s s' : Int} (h : Four m p q r s w) : Four m p q r s' (w.setCell ⟨m, 3, none⟩ (.int .i64 s')) := by
  obtain ⟨k, k0, k1, k2, k3⟩ := h
  exact ⟨by simpa using k, by simp [go_sem, k0], by simp [go_sem, k1], by simp [go_sem, k2], by simp [go_sem, k3]⟩
theorem zero4_oth {w : World} {n m j : Nat} {v : Value} (hn : n ≠ m) (h : Zero4 m w) : Zero4 m (w.setCell ⟨n, j, none⟩ v) := by
  obtain ⟨⟨k, k0, k1, k2, k3⟩, hf⟩ := h
  exact ⟨⟨by simpa using k, by simp [go_sem, k0], by simp [go_sem, k1], by simp [go_sem, k2], by simp [go_sem, k3]⟩, fun o => by simp [go_sem, hf]⟩
/-- What MeanFifth answers. -/
def MfAt (num den p q r s : Int) (y : Bool) : Prop :=
  (PartOk num den ∧ p = (mfV num den).two ∧ q = (mfV num den).three ∧ r = (mfV num den).five ∧ s = (mfV num den).root ∧ y = true) ∨
  ((den < 1 ∨ (¬ den < 1 ∧ 12 < den) ∨ (¬ den < 1 ∧ ¬ 12 < den ∧ num < 0) ∨ (¬ den < 1 ∧ ¬ 12 < den ∧ ¬ num < 0 ∧ den < num)) ∧ p = 0 ∧ q = 0 ∧ r = 0 ∧ s = 0 ∧ y = false)
theorem mfAt_ex (num den : Int) : ∃ p q r s y, MfAt num den p q r s y := by
  by_cases h : PartOk num den
  · exact ⟨_, _, _, _, _, .inl ⟨h, rfl, rfl, rfl, rfl, rfl⟩⟩
  · refine ⟨_, _, _, _, _, .inr ⟨?_, rfl, rfl, rfl, rfl, rfl⟩⟩
    unfold PartOk at h
    omega
theorem mf_check {num den : Int} (h : PartOk num den) : CheckAt (4 * num - den) (den - 4 * num) num den (mfV num den).two (mfV num den).three (mfV num den).five (mfV num den).root true := by
  have ok := mf_ok h
  obtain ⟨h1, h2, h3, h4⟩ := h
  exact sim_check (X := ⟨4 * num - den, den - 4 * num, num, den⟩) (by simp only; omega) rfl ok
set_option maxHeartbeats 1000000 in
/-- The pure fifth some times and the syntonic comma some times. -/
theorem sumMean_impl {a b p q r : Int} (ha : -100 ≤ a ∧ a ≤ 100) (hb : -100 ≤ b ∧ b ≤ 100) (h1 : p = -a + b * -4) (h2 : q = a + b * 4) (h3 : r = -b) (w : World) :
    Calls Try.prog 60 #[ivV (-1) 1 0 1, .int .i64 a, ivV (-4) 4 (-1) 1, .int .i64 b] w fun e w' => e = .returned (ivV p q r 1) ∧ Below w.heap.size w w' := by
  have v0 : IntKind.i64.wrap (-a) = -a := IntWalk.i64_in _ (by omega)
  have v1 : IntKind.i64.wrap a = a := IntWalk.i64_in _ (by omega)
  have v2 : IntKind.i64.wrap (b * -4) = b * -4 := IntWalk.i64_in _ (by omega)
  have v4 : IntKind.i64.wrap (b * 4) = b * 4 := IntWalk.i64_in _ (by omega)
  have v5 : IntKind.i64.wrap (-b) = -b := IntWalk.i64_in _ (by omega)
  have v6 : IntKind.i64.wrap (-a + b * -4) = p := by rw [IntWalk.i64_in _ (by omega)]; exact h1.symm
  have v7 : IntKind.i64.wrap (a + b * 4) = q := by rw [IntWalk.i64_in _ (by omega)]; exact h2.symm
  have H3 := Lib.hid h3
  clear h1 h2 h3
  go_enter Try.func60, Try.ntmps60
  go_wp2_with fail
  refine bodyPost_ret (v := ivV p q (-b) 1) (by simp [results, Try.results60, go_sem]) rfl ⟨by rw [H3.out], ?_⟩
  exact ((below_alloc1 w _).alloc (by simp) _).alloc (by simp; omega) _
set_option maxRecDepth 100000 in
set_option maxHeartbeats 2000000 in
theorem mean_impl_yes {num den p q r s t h : Int} {y : Bool} (hn : PartOk num den) (hc : CheckAt t h num den p q r s y) (ht : t = 4 * num - den) (hh : h = den - 4 * num) (w : World) :
    Calls Try.prog 33 #[.int .i64 num, .int .i64 den] w fun e w' => e = .returned (.tuple #[ivV p q r s, .bool y]) ∧ Below w.heap.size w w' := by
  obtain ⟨h1, h2, h3, h4⟩ := hn
  have HC := Lib.hid (fun w => checkAt_impl hc w)
  obtain ⟨b, hb⟩ : ∃ b, b = -num := ⟨_, rfl⟩
  have SU := Lib.hid (fun w => sumMean_impl (a := den) (b := b) (p := t) (q := h) (r := num) (by omega) (by omega) (by omega) (by omega) (by omega) w)
  have v0 : IntKind.i64.wrap (-num) = b := by rw [IntWalk.i64_in _ (by omega)]; exact hb.symm
  clear hc ht hh hb
  go_enter Try.func33, Try.ntmps33
  go_wp2_with fail
  refine (pure_impl_yes (-1) 1 0 _ (by decide)).mono ?_
  rintro e w1 ⟨rfl, b1⟩
  have Z1 := Lib.hid (zero4_keep b1 zero4_alloc)
  have B1 := Lib.hid ((below_alloc1 w _).trans (b1.mono (by simp)))
  clear b1
  go_wp2_with fail
  refine (comma_impl com2 _).mono ?_
  rintro e w2 ⟨rfl, b2⟩
  have Z2 := Lib.hid (zero4_keep b2 Z1.out)
  have B2 := Lib.hid (B1.out.trans (b2.mono B1.out.size))
  clear b2 Z1 B1
  go_wp2_with fail
  refine (SU.out _).mono ?_
  rintro e w3 ⟨rfl, b3⟩
  have Z3 := Lib.hid (zero4_keep ((Below.refl _ _).alloc (Nat.le_refl _) (.cells #[.int .i64 t, .int .i64 h, .int .i64 num, .int .i64 1] 32)) (zero4_keep b3 Z2.out))
  have G3 := Lib.hid (four_alloc (w := w3) (p := t) (q := h) (r := num) (s := 1) (t := 32))
  have B3 := Lib.hid ((B2.out.trans (b3.mono B2.out.size)).alloc (by have := b3.size; have := B2.out.size; omega) (.cells #[.int .i64 t, .int .i64 h, .int .i64 num, .int .i64 1] 32))
  have M3 : w.heap.size < w3.heap.size := by have := b3.size; have := Z2.out.1.1; omega
  clear b3 Z2 B2 SU v0
  go_upto_region 4 with fail
  obtain ⟨W3, hW⟩ : ∃ W, W = w3.alloc (.cells #[.int .i64 t, .int .i64 h, .int .i64 num, .int .i64 1] 32) := ⟨_, rfl⟩
  obtain ⟨k, hk⟩ : ∃ k, k = w3.heap.size := ⟨_, rfl⟩
  rw [← hW] at Z3 G3 B3 ⊢
  rw [← hk] at G3 M3 ⊢
  have Z4 := Lib.hid (zero4_oth (j := 3) (v := .int .i64 den) (show k ≠ w.heap.size from by omega) Z3.out)
  have G4 := Lib.hid (four_last (s' := den) G3.out)
  have B4 := Lib.hid (B3.out.setCell (p := ⟨k, 3, none⟩) (by simp; omega) (.int .i64 den))
  have F3 : ∀ o, W3.frozen? ⟨k, o, none⟩ = false := fun o => by rw [hW, hk]; simp [go_sem]
  obtain ⟨_, x0, x1, x2, x3⟩ := G3.out
  clear hW hk Z3 G3 B3 M3
  go_upto_region 5 with fail
  obtain ⟨W4, hW⟩ : ∃ W, W = W3.setCell ⟨k, 3, none⟩ (.int .i64 den) := ⟨_, rfl⟩
  rw [← hW] at Z4 G4 B4 ⊢
  clear hW x0 x1 x2 x3 F3
  obtain ⟨_, x0, x1, x2, x3⟩ := G4.out
  go_wp2_with fail
  refine (calls_zero Z4.out (Below.refl _ _) (HC.out _)).mono ?_
  rintro e w5 ⟨rfl, hb, ⟨zm, z0, z1, z2, z3⟩, zf⟩
  have B5 := Lib.hid (B4.out.trans (hb.mono B4.out.size))
  clear x0 x1 x2 x3 hb B4 Z4 G4
  go_wp2_with fail
  obtain ⟨X, hX, ⟨gm, g0, g1, g2, g3⟩, gb⟩ := zed4_store (w := w) (p := p) (q := q) (r := r) (s := s) (Nat.le_refl _) B5.out ⟨zm, z0, z1, z2, z3⟩
  rw [← hX]
  have GB := Lib.hid gb
  clear hX gb z0 z1 z2 z3 zm zf B5
  refine bodyPost_ret (v := .tuple #[ivV p q r s, .bool y]) (by simp [results, Try.results33, go_sem, g0, g1, g2, g3]) rfl ⟨rfl, GB.out⟩
set_option maxRecDepth 100000 in
set_option maxHeartbeats 2000000 in
theorem mean_impl {num den p q r s : Int} {y : Bool} (h : MfAt num den p q r s y) (w : World) :
    Calls Try.prog 33 #[.int .i64 num, .int .i64 den] w fun e w' => e = .returned (.tuple #[ivV p q r s, .bool y]) ∧ Below w.heap.size w w' := by
  rcases h with ⟨hp, rfl, rfl, rfl, rfl, rfl⟩ | ⟨hb, rfl, rfl, rfl, rfl, rfl⟩
  · exact mean_impl_yes hp (mf_check hp) rfl rfl w
  · rcases hb with h | ⟨h1, h2⟩ | ⟨h1, h2, h3⟩ | ⟨h1, h2, h3, h4⟩
    all_goals
      go_enter Try.func33, Try.ntmps33
      go_wp2_with fail
      refine bodyPost_ret (v := .tuple #[ivV 0 0 0 0, .bool false]) (by simp [results, Try.results33, go_sem]) rfl ⟨rfl, ?_⟩
      repeat' (first | exact below_alloc1 w _ | (refine Below.setCell ?_ (by simp) _))
set_option maxRecDepth 100000 in
set_option maxHeartbeats 2000000 in
theorem mean_spec_yes {num den p q r s t h : Int} {y : Bool} (hn : PartOk num den) (hc : CheckAt t h num den p q r s y) (ht : t = 4 * num - den) (hh : h = den - 4 * num) (w : World) :
    Calls Try.prog 88 #[.int .i64 num, .int .i64 den] w fun e w' => e = .returned (.tuple #[ivV p q r s, .bool y]) ∧ Below w.heap.size w w' := by
  obtain ⟨h1, h2, h3, h4⟩ := hn
  have HC := Lib.hid (fun w => checkAt_spec hc w)
  have I1 : decide (1 ≤ den ∧ den ≤ 12) = true := decide_eq_true ⟨h1, h2⟩
  have I2 : decide (0 ≤ num ∧ num ≤ den) = true := decide_eq_true ⟨h3, h4⟩
  have v0 : IntKind.i64.wrap (-den) = -den := IntWalk.i64_in _ (by omega)
  have v1 : IntKind.i64.wrap (4 * num) = 4 * num := IntWalk.i64_in _ (by omega)
  have v2 : IntKind.i64.wrap (-den + 4 * num) = t := by rw [IntWalk.i64_in _ (by omega)]; omega
  have v3 : IntKind.i64.wrap (den - 4 * num) = h := by rw [IntWalk.i64_in _ (by omega)]; omega
  clear hc ht hh
  go_enter Try.func88, Try.ntmps88
  go_wp2_with fail
  refine (inT_any _ _ _ _).mono ?_
  rintro e w1 ⟨rfl, rfl⟩
  rw [I1]
  go_wp2_with fail
  refine (inT_any _ _ _ _).mono ?_
  rintro e w1 ⟨rfl, rfl⟩
  rw [I2]
  go_wp2_with fail
  refine (calls_zed zed4_alloc (Below.refl _ _) (HC.out _)).mono ?_
  rintro e w2 ⟨rfl, hb, ⟨zm, z0, z1, z2, z3⟩, zf⟩
  have B2 := (below_alloc1 w _).trans (hb.mono (by simp))
  clear hb
  go_wp2_with fail
  obtain ⟨X, hX, ⟨gm, g0, g1, g2, g3⟩, hB⟩ := zed4_store (p := p) (q := q) (r := r) (s := s) (Nat.le_refl _) B2 ⟨zm, z0, z1, z2, z3⟩
  rw [← hX]
  clear hX z0 z1 z2 z3 zm zf B2
  refine bodyPost_ret (v := .tuple #[ivV p q r s, .bool y]) (by simp [results, Try.results88, go_sem, g0, g1, g2, g3]) rfl ⟨rfl, hB⟩
set_option maxRecDepth 100000 in
set_option maxHeartbeats 2000000 in
theorem mean_spec {num den p q r s : Int} {y : Bool} (h : MfAt num den p q r s y) (w : World) :
    Calls Try.prog 88 #[.int .i64 num, .int .i64 den] w fun e w' => e = .returned (.tuple #[ivV p q r s, .bool y]) ∧ Below w.heap.size w w' := by
  rcases h with ⟨hp, rfl, rfl, rfl, rfl, rfl⟩ | ⟨hb, rfl, rfl, rfl, rfl, rfl⟩
  · exact mean_spec_yes hp (mf_check hp) rfl rfl w
  · by_cases hd : 1 ≤ den ∧ den ≤ 12
    · have I1 : decide (1 ≤ den ∧ den ≤ 12) = true := decide_eq_true hd
      have I2 : decide (0 ≤ num ∧ num ≤ den) = false := decide_eq_false (by omega)
      clear hb hd
      go_enter Try.func88, Try.ntmps88
      go_wp2_with fail
      refine (inT_any _ _ _ _).mono ?_
      rintro e w1 ⟨rfl, rfl⟩
      rw [I1]
      go_wp2_with fail
      refine (inT_any _ _ _ _).mono ?_
      rintro e w1 ⟨rfl, rfl⟩
      rw [I2]
      go_wp2_with fail
      refine bodyPost_ret (v := .tuple #[ivV 0 0 0 0, .bool false]) (by simp [results, Try.results88, go_sem]) rfl ⟨rfl, ?_⟩
      repeat' (first | exact below_alloc1 w _ | (refine Below.setCell ?_ (by simp) _))
    · have I1 : decide (1 ≤ den ∧ den ≤ 12) = false := decide_eq_false hd
      clear hb hd
      go_enter Try.func88, Try.ntmps88
      go_wp2_with fail
      refine (inT_any _ _ _ _).mono ?_
      rintro e w1 ⟨rfl, rfl⟩
      rw [I1]
      go_wp2_with fail
      refine bodyPost_ret (v := .tuple #[ivV 0 0 0 0, .bool false]) (by simp [results, Try.results88, go_sem]) rfl ⟨rfl, ?_⟩
      repeat' (first | exact below_alloc1 w _ | (refine Below.setCell ?_ (by simp) _))
end Go.Proofs.Ytnlfmiheapcodaa
