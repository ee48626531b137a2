/- Circles of fifths as functions: some fifths without some twelfths of the comma, by one table that the kernel decides. -/
import Derived.Test.YtjfeeppbbckneabMeanWalks
import Derived.Test.YtjfeeppbbckneabCirOk
namespace Go.Proofs.Ytjfeeppbbckneab
open Go.RowKit Go.Joins
set_option linter.unusedVariables false
/-- f fifths, narrower by n twelfths of the comma. -/
def chV (f n : Int) : Iv := simV ⟨19 * n - 12 * f, 12 * f - 12 * n, 0, 12⟩
def octGo (x : Iv) : Nat → Int → Int
  | 0, n => n
  | k + 1, n => if 0 ≤ sgnP (x.two - (n + 1) * x.root) x.three x.five then octGo x k (n + 1) else n
/-- How many octaves these are. -/
def chN (f n : Int) : Int := octGo (chV f n) 9 (-1)
/-- The same within one octave. -/
def pitV (f n : Int) : Iv := simV ⟨(chV f n).two - chN f n * (chV f n).root, (chV f n).three, (chV f n).five, (chV f n).root⟩
def cirChk1 (f n : Nat) : Bool :=
  okV (chV f n) && decide (0 ≤ sgnP ((chV f n).two - chN f n * (chV f n).root) (chV f n).three (chV f n).five) && decide (sgnP ((chV f n).two - (chN f n + 1) * (chV f n).root) (chV f n).three (chV f n).five < 0) &&
  okV (pitV f n) && decide (0 ≤ sgnP (pitV f n).two (pitV f n).three (pitV f n).five) && decide (sgnP ((pitV f n).two - (pitV f n).root) (pitV f n).three (pitV f n).five < 0) && eqV (simV (pitV f n)) (pitV f n) &&
  decide (-1 ≤ chN f n ∧ chN f n ≤ 8)
def cirChk2 (f n q : Nat) : Bool := (addV (chV f n) (chV 1 q)).2 && eqV (addV (chV f n) (chV 1 q)).1 (chV (f + 1) (n + q))
def cirChk3 (f : Nat) : Bool := decide ((pitV f f).three = 0)
theorem cir_chk1 : ∀ f, f < 13 → ∀ n, n < 13 → cirChk1 f n = true := by decide +kernel
theorem cir_chk2 : ∀ f, f < 12 → ∀ n, n < 13 → ∀ q, q < 13 → n + q ≤ 12 → cirChk2 f n q = true := by decide +kernel
theorem cir_chk3 : ∀ f, f < 12 → cirChk3 f = true := by decide +kernel
theorem ch_end : eqV (chV 12 12) ⟨7, 0, 0, 1⟩ = true ∧ eqV (chV 0 0) ⟨0, 0, 0, 1⟩ = true := by decide +kernel
/-- The numbers of a chain. -/
def ChOk (f n : Int) : Prop := 0 ≤ f ∧ f ≤ 12 ∧ 0 ≤ n ∧ n ≤ 12
theorem ch_nat {f n : Int} (h : ChOk f n) : ∃ i j : Nat, f = (i : Int) ∧ n = (j : Int) ∧ i < 13 ∧ j < 13 := by
  obtain ⟨h1, h2, h3, h4⟩ := h
  exact ⟨f.toNat, n.toNat, by omega, by omega, by omega, by omega⟩
theorem ch_ok {f n : Int} (h : ChOk f n) : okV (chV f n) = true := by
  obtain ⟨i, j, rfl, rfl, hi, hj⟩ := ch_nat h
  have k := cir_chk1 i hi j hj
  unfold cirChk1 at k
  simp only [Bool.and_eq_true] at k
  exact k.1.1.1.1.1.1.1
theorem ch_oct {f n : Int} (h : ChOk f n) : OctAt (chV f n).two (chV f n).three (chV f n).five (chV f n).root (chN f n) := by
  have ok := ch_ok h
  obtain ⟨i, j, rfl, rfl, hi, hj⟩ := ch_nat h
  have k := cir_chk1 i hi j hj
  unfold cirChk1 at k
  simp only [Bool.and_eq_true, decide_eq_true_eq] at k
  exact octAt_of ok k.1.1.1.1.1.1.2 k.1.1.1.1.1.2
theorem pit_ok {f n : Int} (h : ChOk f n) : okV (pitV f n) = true := by
  obtain ⟨i, j, rfl, rfl, hi, hj⟩ := ch_nat h
  have k := cir_chk1 i hi j hj
  unfold cirChk1 at k
  simp only [Bool.and_eq_true] at k
  exact k.1.1.1.1.2
theorem ch_num {f n : Int} (h : ChOk f n) : -1 ≤ chN f n ∧ chN f n ≤ 8 := by
  obtain ⟨i, j, rfl, rfl, hi, hj⟩ := ch_nat h
  have k := cir_chk1 i hi j hj
  unfold cirChk1 at k
  simp only [Bool.and_eq_true, decide_eq_true_eq] at k
  exact k.2
theorem ch_mul {f n : Int} (h : ChOk f n) : -12 ≤ chN f n * (chV f n).root ∧ chN f n * (chV f n).root ≤ 96 := by
  obtain ⟨d1, d2, _⟩ := okI_nums (ch_ok h)
  obtain ⟨n1, n2⟩ := ch_num h
  have e1 := mul_mono (m := -1) (n := chN f n) (d := (chV f n).root) n1 d1
  have e2 := mul_mono (m := chN f n) (n := 8) (d := (chV f n).root) n2 d1
  omega
theorem ch_within {f n : Int} (h : ChOk f n) : WithinAt (chV f n).two (chV f n).three (chV f n).five (chV f n).root (pitV f n).two (pitV f n).three (pitV f n).five (pitV f n).root true := by
  obtain ⟨d1, d2, a1, a2, b1, b2, c1, c2⟩ := okI_nums (ch_ok h)
  have m := ch_mul h
  refine .inl ⟨chN f n, chN f n * (chV f n).root, (chV f n).two - chN f n * (chV f n).root, ch_oct h, ⟨rfl, rfl, by omega, by omega, by omega, by omega⟩, ?_⟩
  exact sim_check (X := ⟨(chV f n).two - chN f n * (chV f n).root, (chV f n).three, (chV f n).five, (chV f n).root⟩) (by simp only; omega) rfl (pit_ok h)
theorem pit_within {f n : Int} (h : ChOk f n) : WithinAt (pitV f n).two (pitV f n).three (pitV f n).five (pitV f n).root (pitV f n).two (pitV f n).three (pitV f n).five (pitV f n).root true := by
  have ok := pit_ok h
  obtain ⟨d1, d2, a1, a2, b1, b2, c1, c2⟩ := okI_nums ok
  obtain ⟨i, j, rfl, rfl, hi, hj⟩ := ch_nat h
  have k := cir_chk1 i hi j hj
  unfold cirChk1 at k
  simp only [Bool.and_eq_true, decide_eq_true_eq] at k
  refine .inl ⟨0, 0, (pitV i j).two, octAt_of ok (by rw [Int.zero_mul, Int.sub_zero]; exact k.1.1.1.2) (by rw [Int.zero_add, Int.one_mul]; exact k.1.1.2), ⟨by rw [Int.zero_mul], by rw [Int.sub_zero], by omega, by omega, by omega, by omega⟩, ?_⟩
  exact sim_check (X := pitV i j) (Y := pitV i j) (by omega) (eqV_eq k.1.2) ok
/-- One fifth more. -/
theorem ch_add {f n q : Int} (h : ChOk f n) (hf : f < 12) (hq : 0 ≤ q) (hn : n + q ≤ 12) : addV (chV f n) (chV 1 q) = (chV (f + 1) (n + q), true) := by
  obtain ⟨i, j, rfl, rfl, hi, hj⟩ := ch_nat h
  obtain ⟨l, rfl⟩ : ∃ l : Nat, q = (l : Int) := ⟨q.toNat, by omega⟩
  have k := cir_chk2 i (by omega) j hj l (by have := h.2.2.1; omega) (by omega)
  unfold cirChk2 at k
  simp only [Bool.and_eq_true] at k
  exact Prod.ext (eqV_eq k.2) k.1
theorem pit_three {f : Int} (h : 0 ≤ f) (h' : f ≤ 11) : (pitV f f).three = 0 := by
  obtain ⟨i, rfl⟩ : ∃ i : Nat, f = (i : Int) := ⟨f.toNat, by omega⟩
  have k := cir_chk3 i (by omega)
  unfold cirChk3 at k
  exact of_decide_eq_true k
end Go.Proofs.Ytjfeeppbbckneab
/- Contracts of impl.narrowedFifths and of FifthAt, both sides. -/
namespace Go.Proofs.Ytjfeeppbbckneab
open Go.RowKit Go.Joins
set_option linter.unusedVariables false
set_option maxHeartbeats 1000000 in
/-- The pure fifth some times and the Pythagorean comma some times. -/
theorem sumChain_impl {a b p q : Int} (ha : 0 ≤ a ∧ a ≤ 200) (hb : -100 ≤ b ∧ b ≤ 100) (h1 : p = -a + b * -19) (h2 : q = a + b * 12) (w : World) :
    Calls Try.prog 80 #[ivV (-1) 1 0 1, .int .i64 a, ivV (-19) 12 0 1, .int .i64 b] w fun e w' => e = .returned (ivV p q 0 1) ∧ Below w.heap.size w w' := by
  have v0 : IntKind.i64.wrap (-a) = -a := IntWalk.i64_in _ (by omega)
  have v1 : IntKind.i64.wrap a = a := IntWalk.i64_in _ (by omega)
  have v2 : IntKind.i64.wrap (b * -19) = b * -19 := IntWalk.i64_in _ (by omega)
  have v4 : IntKind.i64.wrap (b * 12) = b * 12 := IntWalk.i64_in _ (by omega)
  have v6 : IntKind.i64.wrap (-a + b * -19) = p := by rw [IntWalk.i64_in _ (by omega)]; exact h1.symm
  have v7 : IntKind.i64.wrap (a + b * 12) = q := by rw [IntWalk.i64_in _ (by omega)]; exact h2.symm
  clear h1 h2
  go_enter Try.func80, Try.ntmps80
  go_wp2_with fail
  refine bodyPost_ret (v := ivV p q 0 1) (by simp [results, Try.results80, go_sem]) rfl ⟨rfl, ?_⟩
  exact ((below_alloc1 w _).alloc (by simp) _).alloc (by simp; omega) _
/-- What narrowedFifths answers. -/
def ChAt (f n p q r s : Int) : Prop := ChOk f n ∧ p = (chV f n).two ∧ q = (chV f n).three ∧ r = (chV f n).five ∧ s = (chV f n).root
theorem ch_raw {f n : Int} (h : ChOk f n) : okI (19 * n - 12 * f) (12 * f - 12 * n) 0 12 = true := by
  obtain ⟨h1, h2, h3, h4⟩ := h
  exact okI_mk (by omega)
theorem chAt_simple {f n p q r s : Int} (h : ChAt f n p q r s) (w : World) :
    Calls Try.prog 82 #[ivV (19 * n - 12 * f) (12 * f - 12 * n) 0 12] w fun e w' => e = .returned (ivV p q r s) ∧ Below w.heap.size w w' := by
  obtain ⟨hk, rfl, rfl, rfl, rfl⟩ := h
  exact simplest_impl_yes _ _ _ _ _ w rfl (ch_raw hk)
theorem chAt_spec {f n p q r s : Int} (h : ChAt f n p q r s) (w : World) :
    Calls Try.prog 76 #[ivV (19 * n - 12 * f) (12 * f - 12 * n) 0 12] w fun e w' => e = .returned (ivV p q r s) ∧ Below w.heap.size w w' := by
  obtain ⟨⟨h1, h2, h3, h4⟩, rfl, rfl, rfl, rfl⟩ := h
  exact simple_any _ _ _ _ _ w rfl (by omega) (by omega) (by omega) (by omega) (by omega) (by omega) (by omega) (by omega)
set_option maxRecDepth 100000 in
set_option maxHeartbeats 2000000 in
theorem narrowed_impl {f n p q r s : Int} (h : ChAt f n p q r s) (w : World) :
    Calls Try.prog 69 #[.int .i64 f, .int .i64 n] w fun e w' => e = .returned (ivV p q r s) ∧ Below w.heap.size w w' := by
  obtain ⟨h1, h2, h3, h4⟩ := h.1
  obtain ⟨a, ha⟩ : ∃ a, a = 12 * f := ⟨_, rfl⟩
  obtain ⟨b, hb⟩ : ∃ b, b = -n := ⟨_, rfl⟩
  obtain ⟨t, ht⟩ : ∃ t, t = 19 * n - 12 * f := ⟨_, rfl⟩
  obtain ⟨u, hu⟩ : ∃ u, u = 12 * f - 12 * n := ⟨_, rfl⟩
  have HC := Lib.hid (fun w => chAt_simple h w)
  rw [← ht, ← hu] at HC
  have SU := Lib.hid (fun w => sumChain_impl (a := a) (b := b) (p := t) (q := u) (by omega) (by omega) (by omega) (by omega) w)
  have v0 : IntKind.i64.wrap (-n) = b := by rw [IntWalk.i64_in _ (by omega)]; exact hb.symm
  have v1 : IntKind.i64.wrap (12 * f) = a := by rw [IntWalk.i64_in _ (by omega)]; exact ha.symm
  clear h ht hu hb ha
  go_enter Try.func69, Try.ntmps69
  go_wp2_with fail
  refine (pure_impl_yes (-1) 1 0 _ (by decide)).mono ?_
  rintro e w1 ⟨rfl, b1⟩
  have Z1 := Lib.hid (zero4_keep b1 zero4_alloc)
  have B1 := Lib.hid ((below_alloc1 w _).trans (b1.mono (by simp)))
  clear b1
  go_wp2_with fail
  refine (comma_impl com1 _).mono ?_
  rintro e w2 ⟨rfl, b2⟩
  have Z2 := Lib.hid (zero4_keep b2 Z1.out)
  have B2 := Lib.hid (B1.out.trans (b2.mono B1.out.size))
  clear b2 Z1 B1
  go_wp2_with fail
  refine (SU.out _).mono ?_
  rintro e w3 ⟨rfl, b3⟩
  have Z3 := Lib.hid (zero4_keep ((Below.refl _ _).alloc (Nat.le_refl _) (.cells #[.int .i64 t, .int .i64 u, .int .i64 0, .int .i64 1] 44)) (zero4_keep b3 Z2.out))
  have G3 := Lib.hid (four_alloc (w := w3) (p := t) (q := u) (r := 0) (s := 1) (t := 44))
  have B3 := Lib.hid ((B2.out.trans (b3.mono B2.out.size)).alloc (by have := b3.size; have := B2.out.size; omega) (.cells #[.int .i64 t, .int .i64 u, .int .i64 0, .int .i64 1] 44))
  have M3 : w.heap.size < w3.heap.size := by have := b3.size; have := Z2.out.1.1; omega
  clear b3 Z2 B2 SU v0
  go_upto_region 2 with fail
  obtain ⟨W3, hW⟩ : ∃ W, W = w3.alloc (.cells #[.int .i64 t, .int .i64 u, .int .i64 0, .int .i64 1] 44) := ⟨_, rfl⟩
  obtain ⟨k, hk⟩ : ∃ k, k = w3.heap.size := ⟨_, rfl⟩
  rw [← hW] at Z3 G3 B3 ⊢
  rw [← hk] at G3 M3 ⊢
  have Z4 := Lib.hid (zero4_oth (j := 3) (v := .int .i64 12) (show k ≠ w.heap.size from by omega) Z3.out)
  have G4 := Lib.hid (four_last (s' := 12) G3.out)
  have B4 := Lib.hid (B3.out.setCell (p := ⟨k, 3, none⟩) (by simp; omega) (.int .i64 12))
  have F3 : ∀ o, W3.frozen? ⟨k, o, none⟩ = false := fun o => by rw [hW, hk]; simp [go_sem]
  obtain ⟨_, x0, x1, x2, x3⟩ := G3.out
  clear hW hk Z3 G3 B3 M3
  go_upto_region 3 with fail
  obtain ⟨W4, hW⟩ : ∃ W, W = W3.setCell ⟨k, 3, none⟩ (.int .i64 12) := ⟨_, rfl⟩
  rw [← hW] at Z4 G4 B4 ⊢
  clear hW x0 x1 x2 x3 F3
  obtain ⟨_, x0, x1, x2, x3⟩ := G4.out
  go_wp2_with fail
  refine (calls_zero Z4.out (Below.refl _ _) (HC.out _)).mono ?_
  rintro e w5 ⟨rfl, hb, ⟨zm, z0, z1, z2, z3⟩, zf⟩
  have B5 := Lib.hid (B4.out.trans (hb.mono B4.out.size))
  clear x0 x1 x2 x3 hb B4 Z4 G4
  go_wp2_with fail
  obtain ⟨X, hX, ⟨gm, g0, g1, g2, g3⟩, gb⟩ := zed4_store (w := w) (p := p) (q := q) (r := r) (s := s) (Nat.le_refl _) B5.out ⟨zm, z0, z1, z2, z3⟩
  rw [← hX]
  have GB := Lib.hid gb
  clear hX gb z0 z1 z2 z3 zm zf B5
  refine bodyPost_ret (v := ivV p q r s) (by simp [results, Try.results69, go_sem, g0, g1, g2, g3]) rfl ⟨rfl, GB.out⟩
/-- What FifthAt answers. -/
def FtAt (xs : List Int) (i p q r s : Int) : Prop :=
  ((CirOk xs ∧ 0 ≤ i ∧ i ≤ 11) ∧ ChAt 1 (xs.getD i.toNat 0) p q r s) ∨
  ((cirB xs && decide (0 ≤ i ∧ i ≤ 11)) = false ∧ p = 0 ∧ q = 0 ∧ r = 0 ∧ s = 0)
theorem cir_part {xs : List Int} (h : CirOk xs) {j : Nat} (hj : j < 12) : 0 ≤ xs.getD j 0 ∧ xs.getD j 0 ≤ 12 := h.2.1 j hj
theorem key_cases (xs : List Int) (i : Int) : (CirOk xs ∧ 0 ≤ i ∧ i ≤ 11) ∨ (cirB xs && decide (0 ≤ i ∧ i ≤ 11)) = false := by
  by_cases h1 : CirOk xs
  · by_cases h2 : 0 ≤ i ∧ i ≤ 11
    · exact .inl ⟨h1, h2⟩
    · exact .inr (by rw [decide_eq_false h2, Bool.and_false])
  · exact .inr (by rw [show cirB xs = false from decide_eq_false h1, Bool.false_and])
theorem ftAt_ex (xs : List Int) (i : Int) : ∃ p q r s, FtAt xs i p q r s := by
  rcases key_cases xs i with h | h
  · have k := cir_part h.1 (j := i.toNat) (by omega)
    exact ⟨_, _, _, _, .inl ⟨h, ⟨by omega, by omega, k.1, k.2⟩, rfl, rfl, rfl, rfl⟩⟩
  · exact ⟨_, _, _, _, .inr ⟨h, rfl, rfl, rfl, rfl⟩⟩
/-- The row of a valid circle. -/
theorem cir_row {w : World} {b : Nat} {e : TypeId} {v : Value} {xs : List Int} (h : w.ownsRow b e 1 v xs.length (intCs xs)) (hc : CirOk xs) : ∃ g cap, v = .slice (some ⟨g, 0, none⟩) 12 cap ∧ g < w.heap.size ∧ 12 ≤ cap ∧ cap ≤ maxLen ∧ ∀ j, j < 12 → w.cell? ⟨g, j, none⟩ = some (.int .i64 (xs.getD j 0)) := by
  obtain ⟨l, hl⟩ : ∃ l, l = xs.length := ⟨_, rfl⟩
  have hl' := hc.1
  rw [← hl] at h hl'
  subst hl'
  have hh := h
  obtain ⟨g, cap, rfl, _, hg⟩ := own_pos h (by omega)
  obtain ⟨_, h1 | ⟨g', cap', cur, hv, _, _, q1, q2, _⟩⟩ := hh
  · exact absurd h1.2 (by omega)
  · simp only [Value.slice.injEq] at hv
    obtain ⟨_, _, rfl⟩ := hv
    exact ⟨g, cap, rfl, hg, q1, q2, fun j hj => own_icell h j hj⟩
end Go.Proofs.Ytjfeeppbbckneab
