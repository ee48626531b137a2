/- Mathematics of the sign of an interval: products of powers of 2, 3 and 5 are compared; the order of intervals; intervals of the same size. -/
import Derived.Test.YtjnhfgacgobfcaaDoorCmpVal
namespace Go.Proofs.YtjnhfgacgobfcaaDoor
open Go.RowKit
set_option linter.unusedVariables false
/-- 2^a * 3^b * 5^c. -/
def pw (a b c : Nat) : Nat := 2 ^ a * 3 ^ b * 5 ^ c
theorem pw_pos (a b c : Nat) : 0 < pw a b c := Nat.mul_pos (Nat.mul_pos (Nat.pow_pos (by omega)) (Nat.pow_pos (by omega))) (Nat.pow_pos (by omega))
theorem pw_add (a b c a' b' c' : Nat) : pw (a + a') (b + b') (c + c') = pw a b c * pw a' b' c' := by
  unfold pw
  rw [Nat.pow_add, Nat.pow_add, Nat.pow_add]; ac_rfl
theorem pw_mul (k a b c : Nat) : pw (k * a) (k * b) (k * c) = pw a b c ^ k := by
  unfold pw
  rw [Nat.mul_pow, Nat.mul_pow, ← Nat.pow_mul, ← Nat.pow_mul, ← Nat.pow_mul, Nat.mul_comm a, Nat.mul_comm b, Nat.mul_comm c]
def sgnN (a b : Nat) : Int := if a < b then -1 else if b < a then 1 else 0
theorem sgnN_mul (a b m : Nat) (h : 0 < m) : sgnN (a * m) (b * m) = sgnN a b := by
  unfold sgnN
  have k : ∀ x y : Nat, x * m < y * m ↔ x < y := fun x y => Nat.mul_lt_mul_right h
  simp only [k]
theorem sgnN_pow (a b k : Nat) (h : 0 < k) : sgnN (a ^ k) (b ^ k) = sgnN a b := by
  unfold sgnN
  have q : ∀ x y : Nat, x ^ k < y ^ k ↔ x < y := fun x y => Nat.pow_lt_pow_iff_left (by omega)
  simp only [q]
theorem sgnN_swap (a b : Nat) : sgnN b a = -sgnN a b := by unfold sgnN; (repeat' split) <;> omega
theorem sgnN_int (a b : Nat) : sgnN a b = sgnOf (a : Int) (b : Int) := by unfold sgnN sgnOf; (repeat' split) <;> omega
/-- The sign of the logarithm of 2^t * 3^h * 5^f. -/
def sgnP (t h f : Int) : Int := sgnN (pw t.toNat h.toNat f.toNat) (pw (-t).toNat (-h).toNat (-f).toNat)
/-- The sign, from any two products with these differences of exponents. -/
theorem sgnP_of (a b c a' b' c' : Nat) (t h f : Int) (ht : (a : Int) - a' = t) (hh : (b : Int) - b' = h) (hf : (c : Int) - c' = f) : sgnN (pw a b c) (pw a' b' c') = sgnP t h f := by
  have e1 : a = t.toNat + min a a' ∧ a' = (-t).toNat + min a a' := by omega
  have e2 : b = h.toNat + min b b' ∧ b' = (-h).toNat + min b b' := by omega
  have e3 : c = f.toNat + min c c' ∧ c' = (-f).toNat + min c c' := by omega
  have k1 : pw a b c = pw t.toNat h.toNat f.toNat * pw (min a a') (min b b') (min c c') := by rw [← pw_add, ← e1.1, ← e2.1, ← e3.1]
  have k2 : pw a' b' c' = pw (-t).toNat (-h).toNat (-f).toNat * pw (min a a') (min b b') (min c c') := by rw [← pw_add, ← e1.2, ← e2.2, ← e3.2]
  rw [k1, k2, sgnN_mul _ _ _ (pw_pos _ _ _)]
  rfl
theorem sgnP_neg (t h f : Int) : sgnP (-t) (-h) (-f) = -sgnP t h f := by
  unfold sgnP
  rw [Int.neg_neg, Int.neg_neg, Int.neg_neg, sgnN_swap]
theorem sgnP_mul (k : Int) (hk : 1 ≤ k) (t h f : Int) : sgnP (t * k) (h * k) (f * k) = sgnP t h f := by
  obtain ⟨n, rfl⟩ := Int.eq_ofNat_of_zero_le (show 0 ≤ k by omega)
  have e : ∀ x : Int, (((n * x.toNat : Nat)) : Int) - ((n * (-x).toNat : Nat) : Int) = x * (n : Int) := fun x => by
    rw [Int.natCast_mul, Int.natCast_mul, ← Int.mul_sub, Int.mul_comm]
    congr 1
    omega
  rw [← sgnP_of _ _ _ _ _ _ _ _ _ (e t) (e h) (e f), pw_mul, pw_mul, sgnN_pow _ _ _ (by omega)]
  rfl
theorem sgnP_nonneg_iff (t h f : Int) : 0 ≤ sgnP t h f ↔ pw (-t).toNat (-h).toNat (-f).toNat ≤ pw t.toNat h.toNat f.toNat := by
  unfold sgnP sgnN
  (repeat' split) <;> omega
/-- The sum of two intervals that are not less than the prime is not less than it. -/
theorem sgnP_add (t h f t' h' f' : Int) (h1 : 0 ≤ sgnP t h f) (h2 : 0 ≤ sgnP t' h' f') : 0 ≤ sgnP (t + t') (h + h') (f + f') := by
  rw [sgnP_nonneg_iff] at h1 h2
  rw [← sgnP_of (t.toNat + t'.toNat) (h.toNat + h'.toNat) (f.toNat + f'.toNat) ((-t).toNat + (-t').toNat) ((-h).toNat + (-h').toNat) ((-f).toNat + (-f').toNat) _ _ _ (by omega) (by omega) (by omega), pw_add, pw_add]
  have := Nat.mul_le_mul h1 h2
  unfold sgnN
  (repeat' split) <;> omega
theorem sgnP_bd (t h f : Int) : -1 ≤ sgnP t h f ∧ sgnP t h f ≤ 1 := by unfold sgnP sgnN; (repeat' split) <;> omega
theorem cop (p a b : Nat) (hp : Nat.Coprime p a) (hq : Nat.Coprime p b) (m n : Nat) : Nat.Coprime p (a ^ m * b ^ n) :=
  Nat.Coprime.mul_right (Nat.Coprime.pow_right m hp) (Nat.Coprime.pow_right n hq)
theorem no_dvd {p x : Nat} (hp : 1 < p) (h : Nat.Coprime p x) : ¬ p ∣ x := fun hd => by
  have h1 : p ∣ Nat.gcd p x := Nat.dvd_gcd (Nat.dvd_refl p) hd
  rw [h] at h1
  have := Nat.le_of_dvd (by omega) h1
  omega
theorem pw_two (a b c : Nat) : pw (a + 1) b c = 2 * pw a b c := by unfold pw; rw [Nat.pow_succ]; ac_rfl
theorem pw_three (a b c : Nat) : pw a (b + 1) c = 3 * pw a b c := by unfold pw; rw [Nat.pow_succ]; ac_rfl
theorem pw_five (a b c : Nat) : pw a b (c + 1) = 5 * pw a b c := by unfold pw; rw [Nat.pow_succ]; ac_rfl
theorem pw_no2 (b c : Nat) : ¬ 2 ∣ pw 0 b c := by
  unfold pw; rw [Nat.pow_zero, Nat.one_mul]; exact no_dvd (by omega) (cop 2 3 5 (by decide) (by decide) b c)
theorem pw_no3 (a c : Nat) : ¬ 3 ∣ pw a 0 c := by
  unfold pw; rw [Nat.pow_zero, Nat.mul_one]; exact no_dvd (by omega) (cop 3 2 5 (by decide) (by decide) a c)
theorem pw_no5 (a b : Nat) : ¬ 5 ∣ pw a b 0 := by
  unfold pw; rw [Nat.pow_zero, Nat.mul_one]; exact no_dvd (by omega) (cop 5 2 3 (by decide) (by decide) a b)
theorem two_zero (a a' b b' c c' : Nat) (h0 : a = 0 ∨ a' = 0) (h : pw a b c = pw a' b' c') : a = 0 ∧ a' = 0 := by
  rcases a with _ | a
  · rcases a' with _ | a'
    · exact ⟨rfl, rfl⟩
    · exact absurd (h ▸ (pw_two a' b' c' ▸ Nat.dvd_mul_right 2 _)) (pw_no2 b c)
  · have : a' = 0 := by omega
    subst this
    exact absurd (h ▸ (pw_two a b c ▸ Nat.dvd_mul_right 2 _)) (pw_no2 b' c')
theorem three_zero (a a' b b' c c' : Nat) (h0 : b = 0 ∨ b' = 0) (h : pw a b c = pw a' b' c') : b = 0 ∧ b' = 0 := by
  rcases b with _ | b
  · rcases b' with _ | b'
    · exact ⟨rfl, rfl⟩
    · exact absurd (h ▸ (pw_three a' b' c' ▸ Nat.dvd_mul_right 3 _)) (pw_no3 a c)
  · have : b' = 0 := by omega
    subst this
    exact absurd (h ▸ (pw_three a b c ▸ Nat.dvd_mul_right 3 _)) (pw_no3 a' c')
theorem five_zero (a a' b b' c c' : Nat) (h0 : c = 0 ∨ c' = 0) (h : pw a b c = pw a' b' c') : c = 0 ∧ c' = 0 := by
  rcases c with _ | c
  · rcases c' with _ | c'
    · exact ⟨rfl, rfl⟩
    · exact absurd (h ▸ (pw_five a' b' c' ▸ Nat.dvd_mul_right 5 _)) (pw_no5 a b)
  · have : c' = 0 := by omega
    subst this
    exact absurd (h ▸ (pw_five a b c ▸ Nat.dvd_mul_right 5 _)) (pw_no5 a' b')
/-- Only the prime is neither greater nor less than the prime. -/
theorem sgnP_zero (t h f : Int) : sgnP t h f = 0 ↔ t = 0 ∧ h = 0 ∧ f = 0 := by
  constructor
  · intro hs
    have he : pw t.toNat h.toNat f.toNat = pw (-t).toNat (-h).toNat (-f).toNat := by
      unfold sgnP sgnN at hs
      split at hs
      · omega
      · split at hs <;> omega
    have k1 := two_zero _ _ _ _ _ _ (by omega) he
    have k2 := three_zero _ _ _ _ _ _ (by omega) he
    have k3 := five_zero _ _ _ _ _ _ (by omega) he
    omega
  · rintro ⟨rfl, rfl, rfl⟩
    unfold sgnP sgnN
    simp
end Go.Proofs.YtjnhfgacgobfcaaDoor
