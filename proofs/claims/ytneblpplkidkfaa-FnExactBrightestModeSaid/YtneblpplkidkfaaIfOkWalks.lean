/- Contracts of impl.simplestIfOk and spec.l03Checked. -/
import Derived.Test.YtneblpplkidkfaaSimpleWalks
namespace Go.Proofs.Ytneblpplkidkfaa
open Go.RowKit Go.Joins
set_option linter.unusedVariables false
theorem okI_bd {a b c d : Int} (hx : okI a b c d = true) : 1 ≤ d ∧ d ≤ 12 ∧ -400 ≤ a ∧ a ≤ 400 ∧ -400 ≤ b ∧ b ≤ 400 ∧ -400 ≤ c ∧ c ≤ 400 := by unfold okI at hx; simpa using hx
theorem mul_bd (x y M N z : Int) (h : x * y = z) (hx : -M ≤ x) (hx' : x ≤ M) (hy : -N ≤ y) (hy' : y ≤ N) (hM : 0 ≤ M) (hN : 0 ≤ N) : -(M * N) ≤ z ∧ z ≤ M * N := by
  have h1 : z.natAbs = x.natAbs * y.natAbs := by rw [← h, Int.natAbs_mul]
  have h2 : x.natAbs * y.natAbs ≤ M.natAbs * N.natAbs := Nat.mul_le_mul (by omega) (by omega)
  have h3 : ((M.natAbs * N.natAbs : Nat) : Int) = M * N := by rw [Int.natCast_mul]; rw [Int.natAbs_of_nonneg hM, Int.natAbs_of_nonneg hN]
  omega
end Go.Proofs.Ytneblpplkidkfaa
/- Mathematics of simplest forms: quadruples that are multiples of each other have the same simplest form. -/
namespace Go.Proofs.Ytneblpplkidkfaa
open Go.RowKit Go.Joins
set_option linter.unusedVariables false
theorem gcdI_mul (a b k : Int) (h : 0 ≤ k) : gcdI (a * k) (b * k) = gcdI a b * k := by
  unfold gcdI
  rw [Int.gcd_mul_right]
  rw [Int.natCast_mul, Int.natAbs_of_nonneg h]
theorem gcd4_mul (a b c d k : Int) (h : 0 ≤ k) : gcd4 (a * k) (b * k) (c * k) (d * k) = gcd4 a b c d * k := by
  unfold gcd4
  rw [gcdI_mul d a k h, gcdI_mul b c k h, gcdI_mul _ _ k h]
theorem gcdI_dvd (a b : Int) : gcdI a b ∣ a ∧ gcdI a b ∣ b := ⟨Int.gcd_dvd_left .., Int.gcd_dvd_right ..⟩
theorem gcd4_dvd (a b c d : Int) : gcd4 a b c d ∣ a ∧ gcd4 a b c d ∣ b ∧ gcd4 a b c d ∣ c ∧ gcd4 a b c d ∣ d := by
  unfold gcd4
  have h := gcdI_dvd (gcdI d a) (gcdI b c)
  exact ⟨Int.dvd_trans h.1 (gcdI_dvd d a).2, Int.dvd_trans h.2 (gcdI_dvd b c).1, Int.dvd_trans h.2 (gcdI_dvd b c).2, Int.dvd_trans h.1 (gcdI_dvd d a).1⟩
theorem quot_eq {x g q : Int} (hg : 1 ≤ g) (h : x = g * q) : x.tdiv g = q := by
  rw [h]; exact Int.mul_tdiv_cancel_left q (by omega)
/-- Two quadruples that are multiples of each other have the same simplest form. -/
theorem simple_same {a b c d a' b' c' d' : Int} (hd : 1 ≤ d) (hd' : 1 ≤ d') (h1 : a * d' = a' * d) (h2 : b * d' = b' * d) (h3 : c * d' = c' * d) :
    a.tdiv (gcd4 a b c d) = a'.tdiv (gcd4 a' b' c' d') ∧ b.tdiv (gcd4 a b c d) = b'.tdiv (gcd4 a' b' c' d') ∧ c.tdiv (gcd4 a b c d) = c'.tdiv (gcd4 a' b' c' d') ∧ d.tdiv (gcd4 a b c d) = d'.tdiv (gcd4 a' b' c' d') := by
  have hg := gcd4_pos a b c d hd
  have hg' := gcd4_pos a' b' c' d' hd'
  have key : gcd4 a b c d * d' = gcd4 a' b' c' d' * d := by
    rw [← gcd4_mul a b c d d' (by omega), ← gcd4_mul a' b' c' d' d (by omega), h1, h2, h3, Int.mul_comm d d']
  obtain ⟨⟨A, hA⟩, ⟨B, hB⟩, ⟨C, hC⟩, ⟨D, hD⟩⟩ := gcd4_dvd a b c d
  obtain ⟨⟨A', hA'⟩, ⟨B', hB'⟩, ⟨C', hC'⟩, ⟨D', hD'⟩⟩ := gcd4_dvd a' b' c' d'
  rw [quot_eq hg hA, quot_eq hg hB, quot_eq hg hC, quot_eq hg hD, quot_eq hg' hA', quot_eq hg' hB', quot_eq hg' hC', quot_eq hg' hD']
  generalize gcd4 a b c d = g at *
  generalize gcd4 a' b' c' d' = g' at *
  have hgg : g * g' ≠ 0 := Int.mul_ne_zero (by omega) (by omega)
  have eD : D' = D := by
    apply Int.eq_of_mul_eq_mul_left hgg
    rw [Int.mul_assoc, ← hD', key, hD]; ac_rfl
  have dne : D ≠ 0 := by intro h; rw [h] at hD; omega
  have lem : ∀ x x' X X' : Int, x * d' = x' * d → x = g * X → x' = g' * X' → X = X' := by
    intro x x' X X' h hx hx'
    rw [hx, hx', hD, hD', eD] at h
    apply Int.eq_of_mul_eq_mul_left (Int.mul_ne_zero hgg dne)
    calc g * g' * D * X = g * X * (g' * D) := by ac_rfl
      _ = g' * X' * (g * D) := h
      _ = g * g' * D * X' := by ac_rfl
  exact ⟨lem _ _ _ _ h1 hA hA', lem _ _ _ _ h2 hB hB', lem _ _ _ _ h3 hC hC', eD.symm⟩
theorem simple_pos {a b c d : Int} (hd : 1 ≤ d) : 1 ≤ d.tdiv (gcd4 a b c d) := by
  obtain ⟨D, hD⟩ := (gcd4_dvd a b c d).2.2.2
  have hg := gcd4_pos a b c d hd
  have e := quot_eq hg hD
  rw [e]
  rcases (show D ≤ 0 ∨ 1 ≤ D from by omega) with h | h
  · have := Int.mul_nonpos_of_nonneg_of_nonpos (show 0 ≤ gcd4 a b c d by omega) h
    omega
  · exact h
/-- The simplest form of a valid interval is valid. -/
theorem simple_ok {a b c d : Int} (h : okI a b c d = true) : okI (a.tdiv (gcd4 a b c d)) (b.tdiv (gcd4 a b c d)) (c.tdiv (gcd4 a b c d)) (d.tdiv (gcd4 a b c d)) = true := by
  unfold okI at h
  simp only [decide_eq_true_eq] at h
  have hg := gcd4_pos a b c d h.1
  have h1 := simple_pos (a := a) (b := b) (c := c) h.1
  have h2 := quot_bd a _ 400 hg (by omega) (by omega)
  have h3 := quot_bd b _ 400 hg (by omega) (by omega)
  have h4 := quot_bd c _ 400 hg (by omega) (by omega)
  have h5 := quot_bd d _ 12 hg (by omega) (by omega)
  unfold okI
  simp only [decide_eq_true_eq]
  omega
/-- The simplest form of a quadruple is a multiple of it. -/
theorem simple_mul {a b c d : Int} (hd : 1 ≤ d) : a.tdiv (gcd4 a b c d) * d = a * d.tdiv (gcd4 a b c d) ∧ b.tdiv (gcd4 a b c d) * d = b * d.tdiv (gcd4 a b c d) ∧ c.tdiv (gcd4 a b c d) * d = c * d.tdiv (gcd4 a b c d) := by
  have hg := gcd4_pos a b c d hd
  obtain ⟨⟨A, hA⟩, ⟨B, hB⟩, ⟨C, hC⟩, ⟨D, hD⟩⟩ := gcd4_dvd a b c d
  rw [quot_eq hg hA, quot_eq hg hB, quot_eq hg hC, quot_eq hg hD]
  generalize gcd4 a b c d = g at *
  rw [hA, hB, hC, hD]
  exact ⟨by ac_rfl, by ac_rfl, by ac_rfl⟩
end Go.Proofs.Ytneblpplkidkfaa
/- Contracts of impl.SimplestOf and spec.SimplestOf. -/
namespace Go.Proofs.Ytneblpplkidkfaa
open Go.RowKit Go.Joins
set_option linter.unusedVariables false
end Go.Proofs.Ytneblpplkidkfaa
