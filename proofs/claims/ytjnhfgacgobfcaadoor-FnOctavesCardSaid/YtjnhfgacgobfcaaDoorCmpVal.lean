/- Mathematics: the comparison of two lists of groups is that of their values. -/
import Derived.Test.YtjnhfgacgobfcaaDoorBigsMath
namespace Go.Proofs.YtjnhfgacgobfcaaDoor
open Go.RowKit
set_option linter.unusedVariables false
/-- The value of the lowest k groups. -/
def valTo (xs : List Int) : Nat → Int
  | 0 => 0
  | k + 1 => valTo xs k + xs.getD k 0 * 10000 ^ k
theorem p10_pos (k : Nat) : (0 : Int) < 10000 ^ k := Int.pow_pos (by omega)
theorem valTo_cons (x : Int) (xs : List Int) : ∀ k, valTo (x :: xs) (k + 1) = x + 10000 * valTo xs k
  | 0 => by simp [valTo]
  | k + 1 => by
    have ih := valTo_cons x xs k
    unfold valTo at ih ⊢
    rw [show valTo (x :: xs) (k + 1) = x + 10000 * valTo xs k from valTo_cons x xs k]
    rw [show (x :: xs).getD (k + 1) 0 = xs.getD k 0 from by simp, Int.pow_succ, Int.mul_add]
    have e : xs.getD k 0 * (10000 ^ k * 10000) = 10000 * (xs.getD k 0 * 10000 ^ k) := by ac_rfl
    rw [e]
    omega
theorem valTo_full : ∀ xs : List Int, valTo xs xs.length = valB xs
  | [] => rfl
  | x :: xs => by rw [List.length_cons, valTo_cons, valTo_full xs]; rfl
theorem valTo_bd {xs : List Int} (h : BdB xs) : ∀ k, k ≤ xs.length → 0 ≤ valTo xs k ∧ valTo xs k < 10000 ^ k
  | 0, _ => by simp [valTo]
  | k + 1, hk => by
    have ih := valTo_bd h k (by omega)
    have hx := h k (by omega)
    have hp := p10_pos k
    have h1 : 0 ≤ xs.getD k 0 * 10000 ^ k := Int.mul_nonneg hx.1 (by omega)
    have h2 : xs.getD k 0 * 10000 ^ k ≤ 9999 * 10000 ^ k := Int.mul_le_mul_of_nonneg_right hx.2 (by omega)
    unfold valTo
    rw [Int.pow_succ]
    omega
theorem valB_bd {xs : List Int} (h : BdB xs) : 0 ≤ valB xs ∧ valB xs < 10000 ^ xs.length := by
  rw [← valTo_full]; exact valTo_bd h _ (Nat.le_refl _)
theorem valB_low {xs : List Int} (h : BdB xs) (hl : LzB xs) (h0 : 0 < xs.length) : 10000 ^ (xs.length - 1) ≤ valB xs := by
  obtain ⟨m, hm⟩ : ∃ m, xs.length = m + 1 := ⟨xs.length - 1, by omega⟩
  have h1 := hl h0
  have h2 := h (xs.length - 1) (by omega)
  rw [← valTo_full, hm]
  rw [hm, Nat.add_sub_cancel] at h1 h2
  rw [Nat.add_sub_cancel]
  have h3 := valTo_bd h m (by omega)
  have h4 : 1 * 10000 ^ m ≤ xs.getD m 0 * 10000 ^ m := Int.mul_le_mul_of_nonneg_right (by omega) (by have := p10_pos m; omega)
  unfold valTo
  omega
def sgnOf (a b : Int) : Int := if a < b then -1 else if b < a then 1 else 0
theorem cmpTo_val {xs ys : List Int} (hx : BdB xs) (hy : BdB ys) : ∀ k, k ≤ xs.length → k ≤ ys.length → cmpTo xs ys k = sgnOf (valTo xs k) (valTo ys k)
  | 0, _, _ => by simp [cmpTo, sgnOf, valTo]
  | k + 1, h1, h2 => by
    have ih := cmpTo_val hx hy k (by omega) (by omega)
    have b1 := valTo_bd hx k (by omega)
    have b2 := valTo_bd hy k (by omega)
    have hp := p10_pos k
    unfold cmpTo
    have key : ∀ a b : Int, a < b → a * 10000 ^ k + 10000 ^ k ≤ b * 10000 ^ k := fun a b hab => by
      have := Int.mul_le_mul_of_nonneg_right (show a + 1 ≤ b by omega) (show (0 : Int) ≤ 10000 ^ k by omega)
      rw [Int.add_mul, Int.one_mul] at this
      exact this
    unfold sgnOf at ih ⊢
    show _ = if valTo xs k + xs.getD k 0 * 10000 ^ k < valTo ys k + ys.getD k 0 * 10000 ^ k then (-1 : Int) else if valTo ys k + ys.getD k 0 * 10000 ^ k < valTo xs k + xs.getD k 0 * 10000 ^ k then 1 else 0
    rcases Int.lt_trichotomy (xs.getD k 0) (ys.getD k 0) with h | h | h
    · have := key _ _ h
      rw [if_pos h, if_pos (by omega)]
    · rw [if_neg (by omega), if_neg (by omega), ih, h]
      rcases Int.lt_trichotomy (valTo xs k) (valTo ys k) with g | g | g
      · rw [if_pos g, if_pos (by omega)]
      · rw [if_neg (by omega), if_neg (by omega), if_neg (by omega), if_neg (by omega)]
      · rw [if_neg (by omega), if_pos g, if_neg (by omega), if_pos (by omega)]
    · have := key _ _ h
      rw [if_neg (by omega), if_pos h, if_neg (by omega), if_pos (by omega)]
theorem p10_mono {a b : Nat} (h : a ≤ b) : (10000 : Int) ^ a ≤ 10000 ^ b := by
  have e : ∀ n : Nat, (10000 : Int) ^ n = ((10000 ^ n : Nat) : Int) := fun n => by rw [Int.natCast_pow]; rfl
  rw [e, e]
  exact Int.ofNat_le.2 (Nat.pow_le_pow_right (by omega) h)
theorem cmpB_val {xs ys : List Int} (hx : BdB xs) (lx : LzB xs) (hy : BdB ys) (ly : LzB ys) : cmpB xs ys = sgnOf (valB xs) (valB ys) := by
  have b1 := valB_bd hx
  have b2 := valB_bd hy
  unfold cmpB
  rcases Nat.lt_trichotomy xs.length ys.length with h | h | h
  · have h1 := valB_low hy ly (by omega)
    have h2 := p10_mono (show xs.length ≤ ys.length - 1 by omega)
    rw [if_pos h]
    unfold sgnOf
    rw [if_pos (by omega)]
  · rw [if_neg (by omega), if_neg (by omega), cmpTo_val hx hy _ (Nat.le_refl _) (by omega), valTo_full, h, valTo_full]
  · have h1 := valB_low hx lx (by omega)
    have h2 := p10_mono (show ys.length ≤ xs.length - 1 by omega)
    rw [if_neg (by omega), if_pos h]
    unfold sgnOf
    rw [if_neg (by omega), if_pos (by omega)]
end Go.Proofs.YtjnhfgacgobfcaaDoor
