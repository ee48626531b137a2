/- Mathematics of products by any factor: the groups of a number, times a number, are the groups of the product; the comparison of groups is that of the numbers; how many groups a product of powers has. -/
import Derived.Test.YtjnhfgacgobfcaaDoorSgnMath
namespace Go.Proofs.YtjnhfgacgobfcaaDoor
open Go.RowKit
set_option linter.unusedVariables false
/-- The product's groups, those of the last carry with them. -/
def mulG (n : Int) : List Int → Int → List Int
  | [], c => ofB c.toNat
  | x :: xs, c => (x * n + c) % 10000 :: mulG n xs ((x * n + c) / 10000)
theorem mulG_len (n : Int) : ∀ (xs : List Int) (c : Int), xs.length ≤ (mulG n xs c).length
  | [], c => by simp
  | x :: xs, c => by have := mulG_len n xs ((x * n + c) / 10000); unfold mulG; simp only [List.length_cons]; omega
theorem mulG_small (n : Int) (h1 : 0 ≤ n) (h2 : n ≤ 1000) : ∀ (xs : List Int) (c : Int), 0 ≤ c → c ≤ 1000 → BdB xs → mulG n xs c = mulB n xs c
  | [], c, c0, c1, _ => by
    unfold mulG mulB
    by_cases h : 0 < c
    · rw [if_pos h, ofB_small _ (by omega) (by omega)]
      congr 1
      omega
    · rw [if_neg h, show c.toNat = 0 from by omega, ofB_zero]
  | x :: xs, c, c0, c1, hx => by
    have x0 := bdB_head hx
    have xn0 : 0 ≤ x * n := Int.mul_nonneg x0.1 h1
    have xn1 : x * n ≤ 9999 * 1000 := Int.mul_le_mul x0.2 h2 h1 (by omega)
    unfold mulG mulB
    rw [mulG_small n h1 h2 xs _ (by omega) (by omega) (bdB_tail hx)]
theorem timesB_mulG {xs : List Int} {n : Int} (h1 : 1 ≤ n) (h2 : n ≤ 1000) (hx : BdB xs) : timesB xs n = mulG n xs 0 := by
  unfold timesB
  rw [if_neg (by omega), mulG_small n (by omega) h2 xs 0 (by omega) (by omega) hx]
theorem mulG_ofB (N : Nat) (hN : 1 ≤ N) : ∀ (V c : Nat), mulG (N : Int) (ofB V) (c : Int) = ofB (V * N + c) := by
  intro V
  induction V using Nat.strongRecOn with
  | _ V ih =>
    intro c
    by_cases h0 : V = 0
    · subst h0
      rw [ofB_zero, Nat.zero_mul, Nat.zero_add]
      unfold mulG
      rw [Int.toNat_natCast]
    · obtain ⟨q, hq⟩ : ∃ q, q = V / 10000 := ⟨_, rfl⟩
      obtain ⟨r, hr⟩ : ∃ r, r = V % 10000 := ⟨_, rfl⟩
      have hV : V = 10000 * q + r := by omega
      have e : V * N + c = 10000 * (q * N) + (r * N + c) := by rw [hV, Nat.add_mul, Nat.mul_assoc, Nat.add_assoc]
      have hp : 1 * 1 ≤ V * N := Nat.mul_le_mul (by omega) hN
      have h1 : V * N + c ≠ 0 := by omega
      rw [ofB_pos V h0, ofB_pos _ h1, ← hq, ← hr]
      unfold mulG
      have e1 : ((r : Int) * (N : Int) + (c : Int)) = ((r * N + c : Nat) : Int) := by rw [Int.natCast_add, Int.natCast_mul]
      rw [e1]
      have e2 : ((r * N + c : Nat) : Int) / 10000 = (((r * N + c) / 10000 : Nat) : Int) := by omega
      have e3 : ((r * N + c : Nat) : Int) % 10000 = (((r * N + c) % 10000 : Nat) : Int) := by omega
      rw [e2, e3, ih q (by omega)]
      generalize q * N = a at e ⊢
      generalize r * N + c = b at e ⊢
      rw [e, show (10000 * a + b) % 10000 = b % 10000 from by omega, show (10000 * a + b) / 10000 = a + b / 10000 from by omega]
theorem mulG_times (N V : Nat) (hN : 1 ≤ N) : mulG (N : Int) (ofB V) 0 = ofB (V * N) := mulG_ofB N hN V 0
theorem ofB_val : ∀ n, valB (ofB n) = (n : Int) := by
  intro n
  induction n using Nat.strongRecOn with
  | _ n ih =>
    by_cases h0 : n = 0
    · subst h0; rw [ofB_zero]; rfl
    · rw [ofB_pos n h0]
      unfold valB
      rw [ih (n / 10000) (by omega)]
      omega
/-- The comparison of the groups of two numbers. -/
theorem cmp_ofB (a b : Nat) : cmpB (ofB a) (ofB b) = sgnN a b := by
  rw [cmpB_val (ofB_bd a) (ofB_lz a) (ofB_bd b) (ofB_lz b), ofB_val, ofB_val, sgnN_int]
theorem ofB_one : ofB 1 = [1] := ofB_small 1 (by omega) (by omega)
theorem pw_le (t h f : Nat) : pw t h f < 10000 ^ (t + h + f + 1) := by
  have h1 : 2 ^ t ≤ 10000 ^ t := Nat.pow_le_pow_left (by omega) t
  have h2 : 3 ^ h ≤ 10000 ^ h := Nat.pow_le_pow_left (by omega) h
  have h3 : 5 ^ f ≤ 10000 ^ f := Nat.pow_le_pow_left (by omega) f
  have h4 : pw t h f ≤ 10000 ^ (t + h + f) := by
    unfold pw
    rw [Nat.pow_add, Nat.pow_add]
    exact Nat.mul_le_mul (Nat.mul_le_mul h1 h2) h3
  have h5 : 0 < 10000 ^ (t + h + f) := Nat.pow_pos (by omega)
  rw [Nat.pow_succ]
  omega
theorem pw_groups (t h f : Nat) : (ofB (pw t h f)).length ≤ t + h + f + 1 := ofB_len _ _ (pw_le t h f)
theorem pw_one : pw 0 0 0 = 1 := by decide
theorem pw2 (t : Nat) : 1 * 2 ^ t = pw t 0 0 := by unfold pw; simp
theorem pw3 (t h : Nat) : pw t 0 0 * 3 ^ h = pw t h 0 := by unfold pw; simp
theorem pw5 (t h f : Nat) : pw t h 0 * 5 ^ f = pw t h f := by unfold pw; simp
end Go.Proofs.YtjnhfgacgobfcaaDoor
