/- Circles of fifths as functions: some fifths without some twelfths of the comma, by one table that the kernel decides. -/
import Derived.Test.YtneblpplkidkfaaMeanWalks
import Derived.Test.YtneblpplkidkfaaCirOk
namespace Go.Proofs.Ytneblpplkidkfaa
open Go.RowKit Go.Joins
set_option linter.unusedVariables false
/-- f fifths, narrower by n twelfths of the comma. -/
def chV (f n : Int) : Iv := simV ⟨19 * n - 12 * f, 12 * f - 12 * n, 0, 12⟩
def octGo (x : Iv) : Nat → Int → Int
  | 0, n => n
  | k + 1, n => if 0 ≤ sgnP (x.two - (n + 1) * x.root) x.three x.five then octGo x k (n + 1) else n
/-- How many octaves these are. -/
def chN (f n : Int) : Int := octGo (chV f n) 9 (-1)
/-- The same within one octave. -/
def pitV (f n : Int) : Iv := simV ⟨(chV f n).two - chN f n * (chV f n).root, (chV f n).three, (chV f n).five, (chV f n).root⟩
def cirChk1 (f n : Nat) : Bool :=
  okV (chV f n) && decide (0 ≤ sgnP ((chV f n).two - chN f n * (chV f n).root) (chV f n).three (chV f n).five) && decide (sgnP ((chV f n).two - (chN f n + 1) * (chV f n).root) (chV f n).three (chV f n).five < 0) &&
  okV (pitV f n) && decide (0 ≤ sgnP (pitV f n).two (pitV f n).three (pitV f n).five) && decide (sgnP ((pitV f n).two - (pitV f n).root) (pitV f n).three (pitV f n).five < 0) && eqV (simV (pitV f n)) (pitV f n) &&
  decide (-1 ≤ chN f n ∧ chN f n ≤ 8)
def cirChk2 (f n q : Nat) : Bool := (addV (chV f n) (chV 1 q)).2 && eqV (addV (chV f n) (chV 1 q)).1 (chV (f + 1) (n + q))
def cirChk3 (f : Nat) : Bool := decide ((pitV f f).three = 0)
theorem cir_chk1 : ∀ f, f < 13 → ∀ n, n < 13 → cirChk1 f n = true := by decide +kernel
theorem cir_chk2 : ∀ f, f < 12 → ∀ n, n < 13 → ∀ q, q < 13 → n + q ≤ 12 → cirChk2 f n q = true := by decide +kernel
theorem cir_chk3 : ∀ f, f < 12 → cirChk3 f = true := by decide +kernel
theorem ch_end : eqV (chV 12 12) ⟨7, 0, 0, 1⟩ = true ∧ eqV (chV 0 0) ⟨0, 0, 0, 1⟩ = true := by decide +kernel
/-- The numbers of a chain. -/
def ChOk (f n : Int) : Prop := 0 ≤ f ∧ f ≤ 12 ∧ 0 ≤ n ∧ n ≤ 12
theorem ch_nat {f n : Int} (h : ChOk f n) : ∃ i j : Nat, f = (i : Int) ∧ n = (j : Int) ∧ i < 13 ∧ j < 13 := by
  obtain ⟨h1, h2, h3, h4⟩ := h
  exact ⟨f.toNat, n.toNat, by omega, by omega, by omega, by omega⟩
theorem ch_ok {f n : Int} (h : ChOk f n) : okV (chV f n) = true := by
  obtain ⟨i, j, rfl, rfl, hi, hj⟩ := ch_nat h
  have k := cir_chk1 i hi j hj
  unfold cirChk1 at k
  simp only [Bool.and_eq_true] at k
  exact k.1.1.1.1.1.1.1
theorem ch_oct {f n : Int} (h : ChOk f n) : OctAt (chV f n).two (chV f n).three (chV f n).five (chV f n).root (chN f n) := by
  have ok := ch_ok h
  obtain ⟨i, j, rfl, rfl, hi, hj⟩ := ch_nat h
  have k := cir_chk1 i hi j hj
  unfold cirChk1 at k
  simp only [Bool.and_eq_true, decide_eq_true_eq] at k
  exact octAt_of ok k.1.1.1.1.1.1.2 k.1.1.1.1.1.2
theorem pit_ok {f n : Int} (h : ChOk f n) : okV (pitV f n) = true := by
  obtain ⟨i, j, rfl, rfl, hi, hj⟩ := ch_nat h
  have k := cir_chk1 i hi j hj
  unfold cirChk1 at k
  simp only [Bool.and_eq_true] at k
  exact k.1.1.1.1.2
theorem ch_num {f n : Int} (h : ChOk f n) : -1 ≤ chN f n ∧ chN f n ≤ 8 := by
  obtain ⟨i, j, rfl, rfl, hi, hj⟩ := ch_nat h
  have k := cir_chk1 i hi j hj
  unfold cirChk1 at k
  simp only [Bool.and_eq_true, decide_eq_true_eq] at k
  exact k.2
theorem ch_mul {f n : Int} (h : ChOk f n) : -12 ≤ chN f n * (chV f n).root ∧ chN f n * (chV f n).root ≤ 96 := by
  obtain ⟨d1, d2, _⟩ := okI_nums (ch_ok h)
  obtain ⟨n1, n2⟩ := ch_num h
  have e1 := mul_mono (m := -1) (n := chN f n) (d := (chV f n).root) n1 d1
  have e2 := mul_mono (m := chN f n) (n := 8) (d := (chV f n).root) n2 d1
  omega
theorem ch_within {f n : Int} (h : ChOk f n) : WithinAt (chV f n).two (chV f n).three (chV f n).five (chV f n).root (pitV f n).two (pitV f n).three (pitV f n).five (pitV f n).root true := by
  obtain ⟨d1, d2, a1, a2, b1, b2, c1, c2⟩ := okI_nums (ch_ok h)
  have m := ch_mul h
  refine .inl ⟨chN f n, chN f n * (chV f n).root, (chV f n).two - chN f n * (chV f n).root, ch_oct h, ⟨rfl, rfl, by omega, by omega, by omega, by omega⟩, ?_⟩
  exact sim_check (X := ⟨(chV f n).two - chN f n * (chV f n).root, (chV f n).three, (chV f n).five, (chV f n).root⟩) (by simp only; omega) rfl (pit_ok h)
theorem pit_within {f n : Int} (h : ChOk f n) : WithinAt (pitV f n).two (pitV f n).three (pitV f n).five (pitV f n).root (pitV f n).two (pitV f n).three (pitV f n).five (pitV f n).root true := by
  have ok := pit_ok h
  obtain ⟨d1, d2, a1, a2, b1, b2, c1, c2⟩ := okI_nums ok
  obtain ⟨i, j, rfl, rfl, hi, hj⟩ := ch_nat h
  have k := cir_chk1 i hi j hj
  unfold cirChk1 at k
  simp only [Bool.and_eq_true, decide_eq_true_eq] at k
  refine .inl ⟨0, 0, (pitV i j).two, octAt_of ok (by rw [Int.zero_mul, Int.sub_zero]; exact k.1.1.1.2) (by rw [Int.zero_add, Int.one_mul]; exact k.1.1.2), ⟨by rw [Int.zero_mul], by rw [Int.sub_zero], by omega, by omega, by omega, by omega⟩, ?_⟩
  exact sim_check (X := pitV i j) (Y := pitV i j) (by omega) (eqV_eq k.1.2) ok
/-- One fifth more. -/
theorem ch_add {f n q : Int} (h : ChOk f n) (hf : f < 12) (hq : 0 ≤ q) (hn : n + q ≤ 12) : addV (chV f n) (chV 1 q) = (chV (f + 1) (n + q), true) := by
  obtain ⟨i, j, rfl, rfl, hi, hj⟩ := ch_nat h
  obtain ⟨l, rfl⟩ : ∃ l : Nat, q = (l : Int) := ⟨q.toNat, by omega⟩
  have k := cir_chk2 i (by omega) j hj l (by have := h.2.2.1; omega) (by omega)
  unfold cirChk2 at k
  simp only [Bool.and_eq_true] at k
  exact Prod.ext (eqV_eq k.2) k.1
theorem pit_three {f : Int} (h : 0 ≤ f) (h' : f ≤ 11) : (pitV f f).three = 0 := by
  obtain ⟨i, rfl⟩ : ∃ i : Nat, f = (i : Int) := ⟨f.toNat, by omega⟩
  have k := cir_chk3 i (by omega)
  unfold cirChk3 at k
  exact of_decide_eq_true k
end Go.Proofs.Ytneblpplkidkfaa
/- Contracts of impl.narrowedFifths and of FifthAt, both sides. -/
namespace Go.Proofs.Ytneblpplkidkfaa
open Go.RowKit Go.Joins
set_option linter.unusedVariables false
/-- What narrowedFifths answers. -/
def ChAt (f n p q r s : Int) : Prop := ChOk f n ∧ p = (chV f n).two ∧ q = (chV f n).three ∧ r = (chV f n).five ∧ s = (chV f n).root
theorem ch_raw {f n : Int} (h : ChOk f n) : okI (19 * n - 12 * f) (12 * f - 12 * n) 0 12 = true := by
  obtain ⟨h1, h2, h3, h4⟩ := h
  exact okI_mk (by omega)
/-- What FifthAt answers. -/
def FtAt (xs : List Int) (i p q r s : Int) : Prop :=
  ((CirOk xs ∧ 0 ≤ i ∧ i ≤ 11) ∧ ChAt 1 (xs.getD i.toNat 0) p q r s) ∨
  ((cirB xs && decide (0 ≤ i ∧ i ≤ 11)) = false ∧ p = 0 ∧ q = 0 ∧ r = 0 ∧ s = 0)
theorem cir_part {xs : List Int} (h : CirOk xs) {j : Nat} (hj : j < 12) : 0 ≤ xs.getD j 0 ∧ xs.getD j 0 ≤ 12 := h.2.1 j hj
theorem key_cases (xs : List Int) (i : Int) : (CirOk xs ∧ 0 ≤ i ∧ i ≤ 11) ∨ (cirB xs && decide (0 ≤ i ∧ i ≤ 11)) = false := by
  by_cases h1 : CirOk xs
  · by_cases h2 : 0 ≤ i ∧ i ≤ 11
    · exact .inl ⟨h1, h2⟩
    · exact .inr (by rw [decide_eq_false h2, Bool.and_false])
  · exact .inr (by rw [show cirB xs = false from decide_eq_false h1, Bool.false_and])
theorem ftAt_ex (xs : List Int) (i : Int) : ∃ p q r s, FtAt xs i p q r s := by
  rcases key_cases xs i with h | h
  · have k := cir_part h.1 (j := i.toNat) (by omega)
    exact ⟨_, _, _, _, .inl ⟨h, ⟨by omega, by omega, k.1, k.2⟩, rfl, rfl, rfl, rfl⟩⟩
  · exact ⟨_, _, _, _, .inr ⟨h, rfl, rfl, rfl, rfl⟩⟩
/-- The row of a valid circle. -/
theorem cir_row {w : World} {b : Nat} {e : TypeId} {v : Value} {xs : List Int} (h : w.ownsRow b e 1 v xs.length (intCs xs)) (hc : CirOk xs) : ∃ g cap, v = .slice (some ⟨g, 0, none⟩) 12 cap ∧ g < w.heap.size ∧ 12 ≤ cap ∧ cap ≤ maxLen ∧ ∀ j, j < 12 → w.cell? ⟨g, j, none⟩ = some (.int .i64 (xs.getD j 0)) := by
  obtain ⟨l, hl⟩ : ∃ l, l = xs.length := ⟨_, rfl⟩
  have hl' := hc.1
  rw [← hl] at h hl'
  subst hl'
  have hh := h
  obtain ⟨g, cap, rfl, _, hg⟩ := own_pos h (by omega)
  obtain ⟨_, h1 | ⟨g', cap', cur, hv, _, _, q1, q2, _⟩⟩ := hh
  · exact absurd h1.2 (by omega)
  · simp only [Value.slice.injEq] at hv
    obtain ⟨_, _, rfl⟩ := hv
    exact ⟨g, cap, rfl, hg, q1, q2, fun j hj => own_icell h j hj⟩
end Go.Proofs.Ytneblpplkidkfaa
