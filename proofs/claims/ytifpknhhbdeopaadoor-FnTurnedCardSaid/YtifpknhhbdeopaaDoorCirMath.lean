/- Circles of fifths as functions: some fifths without some twelfths of the comma, by one table that the kernel decides. -/
import Derived.Test.YtifpknhhbdeopaaDoorMeanMath
import Derived.Test.YtifpknhhbdeopaaDoorCirOk
namespace Go.Proofs.YtifpknhhbdeopaaDoor
open Go.RowKit Go.Joins
set_option linter.unusedVariables false
/-- f fifths, narrower by n twelfths of the comma. -/
def chV (f n : Int) : Iv := simV ⟨19 * n - 12 * f, 12 * f - 12 * n, 0, 12⟩
def octGo (x : Iv) : Nat → Int → Int
  | 0, n => n
  | k + 1, n => if 0 ≤ sgnP (x.two - (n + 1) * x.root) x.three x.five then octGo x k (n + 1) else n
/-- How many octaves these are. -/
def chN (f n : Int) : Int := octGo (chV f n) 9 (-1)
/-- The same within one octave. -/
def pitV (f n : Int) : Iv := simV ⟨(chV f n).two - chN f n * (chV f n).root, (chV f n).three, (chV f n).five, (chV f n).root⟩
def cirChk1 (f n : Nat) : Bool :=
  okV (chV f n) && decide (0 ≤ sgnP ((chV f n).two - chN f n * (chV f n).root) (chV f n).three (chV f n).five) && decide (sgnP ((chV f n).two - (chN f n + 1) * (chV f n).root) (chV f n).three (chV f n).five < 0) &&
  okV (pitV f n) && decide (0 ≤ sgnP (pitV f n).two (pitV f n).three (pitV f n).five) && decide (sgnP ((pitV f n).two - (pitV f n).root) (pitV f n).three (pitV f n).five < 0) && eqV (simV (pitV f n)) (pitV f n) &&
  decide (-1 ≤ chN f n ∧ chN f n ≤ 8)
def cirChk2 (f n q : Nat) : Bool := (addV (chV f n) (chV 1 q)).2 && eqV (addV (chV f n) (chV 1 q)).1 (chV (f + 1) (n + q))
def cirChk3 (f : Nat) : Bool := decide ((pitV f f).three = 0)
theorem cir_chk1 : ∀ f, f < 13 → ∀ n, n < 13 → cirChk1 f n = true := by decide +kernel
theorem cir_chk2 : ∀ f, f < 12 → ∀ n, n < 13 → ∀ q, q < 13 → n + q ≤ 12 → cirChk2 f n q = true := by decide +kernel
theorem cir_chk3 : ∀ f, f < 12 → cirChk3 f = true := by decide +kernel
theorem ch_end : eqV (chV 12 12) ⟨7, 0, 0, 1⟩ = true ∧ eqV (chV 0 0) ⟨0, 0, 0, 1⟩ = true := by decide +kernel
/-- The numbers of a chain. -/
def ChOk (f n : Int) : Prop := 0 ≤ f ∧ f ≤ 12 ∧ 0 ≤ n ∧ n ≤ 12
theorem ch_nat {f n : Int} (h : ChOk f n) : ∃ i j : Nat, f = (i : Int) ∧ n = (j : Int) ∧ i < 13 ∧ j < 13 := by
  obtain ⟨h1, h2, h3, h4⟩ := h
  exact ⟨f.toNat, n.toNat, by omega, by omega, by omega, by omega⟩
theorem ch_ok {f n : Int} (h : ChOk f n) : okV (chV f n) = true := by
  obtain ⟨i, j, rfl, rfl, hi, hj⟩ := ch_nat h
  have k := cir_chk1 i hi j hj
  unfold cirChk1 at k
  simp only [Bool.and_eq_true] at k
  exact k.1.1.1.1.1.1.1
theorem ch_oct {f n : Int} (h : ChOk f n) : OctAt (chV f n).two (chV f n).three (chV f n).five (chV f n).root (chN f n) := by
  have ok := ch_ok h
  obtain ⟨i, j, rfl, rfl, hi, hj⟩ := ch_nat h
  have k := cir_chk1 i hi j hj
  unfold cirChk1 at k
  simp only [Bool.and_eq_true, decide_eq_true_eq] at k
  exact octAt_of ok k.1.1.1.1.1.1.2 k.1.1.1.1.1.2
theorem pit_ok {f n : Int} (h : ChOk f n) : okV (pitV f n) = true := by
  obtain ⟨i, j, rfl, rfl, hi, hj⟩ := ch_nat h
  have k := cir_chk1 i hi j hj
  unfold cirChk1 at k
  simp only [Bool.and_eq_true] at k
  exact k.1.1.1.1.2
theorem ch_num {f n : Int} (h : ChOk f n) : -1 ≤ chN f n ∧ chN f n ≤ 8 := by
  obtain ⟨i, j, rfl, rfl, hi, hj⟩ := ch_nat h
  have k := cir_chk1 i hi j hj
  unfold cirChk1 at k
  simp only [Bool.and_eq_true, decide_eq_true_eq] at k
  exact k.2
theorem ch_mul {f n : Int} (h : ChOk f n) : -12 ≤ chN f n * (chV f n).root ∧ chN f n * (chV f n).root ≤ 96 := by
  obtain ⟨d1, d2, _⟩ := okI_nums (ch_ok h)
  obtain ⟨n1, n2⟩ := ch_num h
  have e1 := mul_mono (m := -1) (n := chN f n) (d := (chV f n).root) n1 d1
  have e2 := mul_mono (m := chN f n) (n := 8) (d := (chV f n).root) n2 d1
  omega
theorem ch_within {f n : Int} (h : ChOk f n) : WithinAt (chV f n).two (chV f n).three (chV f n).five (chV f n).root (pitV f n).two (pitV f n).three (pitV f n).five (pitV f n).root true := by
  obtain ⟨d1, d2, a1, a2, b1, b2, c1, c2⟩ := okI_nums (ch_ok h)
  have m := ch_mul h
  refine .inl ⟨chN f n, chN f n * (chV f n).root, (chV f n).two - chN f n * (chV f n).root, ch_oct h, ⟨rfl, rfl, by omega, by omega, by omega, by omega⟩, ?_⟩
  exact sim_check (X := ⟨(chV f n).two - chN f n * (chV f n).root, (chV f n).three, (chV f n).five, (chV f n).root⟩) (by simp only; omega) rfl (pit_ok h)
theorem pit_within {f n : Int} (h : ChOk f n) : WithinAt (pitV f n).two (pitV f n).three (pitV f n).five (pitV f n).root (pitV f n).two (pitV f n).three (pitV f n).five (pitV f n).root true := by
  have ok := pit_ok h
  obtain ⟨d1, d2, a1, a2, b1, b2, c1, c2⟩ := okI_nums ok
  obtain ⟨i, j, rfl, rfl, hi, hj⟩ := ch_nat h
  have k := cir_chk1 i hi j hj
  unfold cirChk1 at k
  simp only [Bool.and_eq_true, decide_eq_true_eq] at k
  refine .inl ⟨0, 0, (pitV i j).two, octAt_of ok (by rw [Int.zero_mul, Int.sub_zero]; exact k.1.1.1.2) (by rw [Int.zero_add, Int.one_mul]; exact k.1.1.2), ⟨by rw [Int.zero_mul], by rw [Int.sub_zero], by omega, by omega, by omega, by omega⟩, ?_⟩
  exact sim_check (X := pitV i j) (Y := pitV i j) (by omega) (eqV_eq k.1.2) ok
/-- One fifth more. -/
theorem ch_add {f n q : Int} (h : ChOk f n) (hf : f < 12) (hq : 0 ≤ q) (hn : n + q ≤ 12) : addV (chV f n) (chV 1 q) = (chV (f + 1) (n + q), true) := by
  obtain ⟨i, j, rfl, rfl, hi, hj⟩ := ch_nat h
  obtain ⟨l, rfl⟩ : ∃ l : Nat, q = (l : Int) := ⟨q.toNat, by omega⟩
  have k := cir_chk2 i (by omega) j hj l (by have := h.2.2.1; omega) (by omega)
  unfold cirChk2 at k
  simp only [Bool.and_eq_true] at k
  exact Prod.ext (eqV_eq k.2) k.1
theorem pit_three {f : Int} (h : 0 ≤ f) (h' : f ≤ 11) : (pitV f f).three = 0 := by
  obtain ⟨i, rfl⟩ : ∃ i : Nat, f = (i : Int) := ⟨f.toNat, by omega⟩
  have k := cir_chk3 i (by omega)
  unfold cirChk3 at k
  exact of_decide_eq_true k
end Go.Proofs.YtifpknhhbdeopaaDoor
