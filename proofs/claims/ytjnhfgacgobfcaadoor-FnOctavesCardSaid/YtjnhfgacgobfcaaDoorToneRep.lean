/- What laws.FnRepeated calls, at one valid small interval: three times, the sum with itself, twice, no times, and the prime. -/
import Derived.Test.YtjnhfgacgobfcaaDoorSimpMath
import Derived.Test.YtjnhfgacgobfcaaDoorAddTone
import Derived.Test.YtjnhfgacgobfcaaDoorTimesTone
namespace Go.Proofs.YtjnhfgacgobfcaaDoor
open Go.RowKit Go.Joins
set_option linter.unusedVariables false
/-- The simplest form of a quadruple. -/
def SimOf (a b c d p q r s : Int) : Prop := p = a.tdiv (gcd4 a b c d) ∧ q = b.tdiv (gcd4 a b c d) ∧ r = c.tdiv (gcd4 a b c d) ∧ s = d.tdiv (gcd4 a b c d)
theorem simOf_same {a b c d a' b' c' d' p q r s : Int} (hd : 1 ≤ d) (hd' : 1 ≤ d') (h1 : a * d' = a' * d) (h2 : b * d' = b' * d) (h3 : c * d' = c' * d) (h : SimOf a b c d p q r s) : SimOf a' b' c' d' p q r s := by
  obtain ⟨e1, e2, e3, e4⟩ := simple_same hd hd' h1 h2 h3
  obtain ⟨k1, k2, k3, k4⟩ := h
  exact ⟨k1.trans e1, k2.trans e2, k3.trans e3, k4.trans e4⟩
theorem times_of (a b c d n p q r s : Int) (hx : okI a b c d = true) (hn : -400 ≤ n) (hn' : n ≤ 400) (h : SimOf (a * n) (b * n) (c * n) d p q r s) (hy : okI p q r s = true) (w : World) :
    Calls Tryd.prog 9 #[ivV a b c d, .int .i64 n] w fun e w' => e = .returned (.tuple #[ivV p q r s, .bool true]) ∧ Below w.heap.size w w' := by
  obtain ⟨rfl, rfl, rfl, rfl⟩ := h
  exact times_impl_yes _ _ _ _ _ _ _ _ _ w hx hn hn' rfl rfl rfl rfl hy
theorem add_of (a b c d e f g h p q r s : Int) (hx : okI a b c d = true) (hy : okI e f g h = true) (hs : SimOf (a * h + e * d) (b * h + f * d) (c * h + g * d) (d * h) p q r s) (hz : okI p q r s = true) (w : World) :
    Calls Tryd.prog 8 #[ivV a b c d, ivV e f g h] w fun e w' => e = .returned (.tuple #[ivV p q r s, .bool true]) ∧ Below w.heap.size w w' := by
  obtain ⟨rfl, rfl, rfl, rfl⟩ := hs
  exact add_impl_yes _ _ _ _ _ _ _ _ _ _ _ _ _ _ _ _ w hx hy rfl rfl rfl rfl rfl rfl rfl rfl hz
theorem okI_mk {a b c d : Int} (h : 1 ≤ d ∧ d ≤ 12 ∧ -400 ≤ a ∧ a ≤ 400 ∧ -400 ≤ b ∧ b ≤ 400 ∧ -400 ≤ c ∧ c ≤ 400) : okI a b c d = true := by unfold okI; exact decide_eq_true h
theorem sum_twice (a d p s : Int) (hd : 1 ≤ d) (hp : p * d = a * 2 * s) : (p * d + a * s) * d = a * 3 * (s * d) := by
  have : p * d + a * s = a * 3 * s := by rw [hp, Int.mul_assoc a 2 s, Int.mul_assoc a 3 s, ← Int.mul_add]; congr 1; omega
  rw [this]; ac_rfl
theorem sum_self (a d : Int) : (a * d + a * d) * d = a * 2 * (d * d) := by
  have : a * d + a * d = a * 2 * d := by rw [Int.mul_assoc, ← Int.mul_add]; congr 1; omega
  rw [this]; ac_rfl
theorem rep_facts (a b c d : Int) (h : 1 ≤ d ∧ d ≤ 12 ∧ -100 ≤ a ∧ a ≤ 100 ∧ -100 ≤ b ∧ b ≤ 100 ∧ -100 ≤ c ∧ c ≤ 100) : ∃ p q r s t u v x : Int,
    (∀ w, Calls Tryd.prog 9 #[ivV a b c d, .int .i64 3] w fun e w' => e = .returned (.tuple #[ivV p q r s, .bool true]) ∧ Below w.heap.size w w') ∧
    (∀ w, Calls Tryd.prog 8 #[ivV a b c d, ivV a b c d] w fun e w' => e = .returned (.tuple #[ivV t u v x, .bool true]) ∧ Below w.heap.size w w') ∧
    (∀ w, Calls Tryd.prog 8 #[ivV t u v x, ivV a b c d] w fun e w' => e = .returned (.tuple #[ivV p q r s, .bool true]) ∧ Below w.heap.size w w') ∧
    (∀ w, Calls Tryd.prog 9 #[ivV a b c d, .int .i64 0] w fun e w' => e = .returned (.tuple #[ivV 0 0 0 1, .bool true]) ∧ Below w.heap.size w w') := by
  obtain ⟨h1, h2, h3, h4, h5, h6, h7, h8⟩ := h
  have ok0 : okI a b c d = true := okI_mk (by omega)
  have ok3 : okI (a * 3) (b * 3) (c * 3) d = true := okI_mk (by omega)
  have ok2 : okI (a * 2) (b * 2) (c * 2) d = true := okI_mk (by omega)
  obtain ⟨p, hp⟩ : ∃ p, p = (a * 3).tdiv (gcd4 (a * 3) (b * 3) (c * 3) d) := ⟨_, rfl⟩
  obtain ⟨q, hq⟩ : ∃ p, p = (b * 3).tdiv (gcd4 (a * 3) (b * 3) (c * 3) d) := ⟨_, rfl⟩
  obtain ⟨r, hr⟩ : ∃ p, p = (c * 3).tdiv (gcd4 (a * 3) (b * 3) (c * 3) d) := ⟨_, rfl⟩
  obtain ⟨s, hs⟩ : ∃ p, p = d.tdiv (gcd4 (a * 3) (b * 3) (c * 3) d) := ⟨_, rfl⟩
  have S3 : SimOf (a * 3) (b * 3) (c * 3) d p q r s := ⟨hp, hq, hr, hs⟩
  have K3 : okI p q r s = true := by rw [hp, hq, hr, hs]; exact simple_ok ok3
  obtain ⟨t, ht⟩ : ∃ p, p = (a * 2).tdiv (gcd4 (a * 2) (b * 2) (c * 2) d) := ⟨_, rfl⟩
  obtain ⟨u, hu⟩ : ∃ p, p = (b * 2).tdiv (gcd4 (a * 2) (b * 2) (c * 2) d) := ⟨_, rfl⟩
  obtain ⟨v, hv⟩ : ∃ p, p = (c * 2).tdiv (gcd4 (a * 2) (b * 2) (c * 2) d) := ⟨_, rfl⟩
  obtain ⟨x, hx⟩ : ∃ p, p = d.tdiv (gcd4 (a * 2) (b * 2) (c * 2) d) := ⟨_, rfl⟩
  have S2 : SimOf (a * 2) (b * 2) (c * 2) d t u v x := ⟨ht, hu, hv, hx⟩
  have K2 : okI t u v x = true := by rw [ht, hu, hv, hx]; exact simple_ok ok2
  have M2 := simple_mul (a := a * 2) (b := b * 2) (c := c * 2) h1
  rw [← ht, ← hu, ← hv, ← hx] at M2
  have X1 : 1 ≤ x := by rw [hx]; exact simple_pos h1
  have DD : 1 ≤ d * d := by have := Int.mul_pos (show 0 < d by omega) (show 0 < d by omega); omega
  have XD : 1 ≤ x * d := by have := Int.mul_pos (show 0 < x by omega) (show 0 < d by omega); omega
  refine ⟨p, q, r, s, t, u, v, x, fun w => times_of a b c d 3 p q r s ok0 (by omega) (by omega) S3 K3 w, fun w => add_of a b c d a b c d t u v x ok0 ok0 ?_ K2 w, fun w => add_of t u v x a b c d p q r s K2 ok0 ?_ K3 w, fun w => times_of a b c d 0 0 0 0 1 ok0 (by omega) (by omega) ?_ (by decide) w⟩
  · exact simOf_same h1 DD (sum_self a d).symm (sum_self b d).symm (sum_self c d).symm S2
  · exact simOf_same h1 XD (sum_twice a d t x h1 M2.1).symm (sum_twice b d u x h1 M2.2.1).symm (sum_twice c d v x h1 M2.2.2).symm S3
  · have e : SimOf 0 0 0 1 0 0 0 1 := by unfold SimOf; decide +kernel
    rw [Int.mul_zero, Int.mul_zero, Int.mul_zero]
    exact simOf_same (by omega) h1 (by omega) (by omega) (by omega) e
end Go.Proofs.YtjnhfgacgobfcaaDoor
