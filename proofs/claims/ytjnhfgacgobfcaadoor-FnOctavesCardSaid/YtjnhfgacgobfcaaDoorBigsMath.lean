/- Mathematics of large numbers as lists of groups: their value, that the groups are determined by it, products, comparisons. -/
import Derived.Test.YtjnhfgacgobfcaaDoorBigMath
namespace Go.Proofs.YtjnhfgacgobfcaaDoor
open Go.RowKit
set_option linter.unusedVariables false
def valB : List Int → Int
  | [] => 0
  | x :: xs => x + 10000 * valB xs
def BdB (xs : List Int) : Prop := ∀ i, i < xs.length → 0 ≤ xs.getD i 0 ∧ xs.getD i 0 ≤ 9999
def LzB (xs : List Int) : Prop := 0 < xs.length → xs.getD (xs.length - 1) 0 ≠ 0
theorem bdB_tail {x : Int} {xs : List Int} (h : BdB (x :: xs)) : BdB xs := fun i hi => by simpa using h (i + 1) (by simpa using hi)
theorem bdB_head {x : Int} {xs : List Int} (h : BdB (x :: xs)) : 0 ≤ x ∧ x ≤ 9999 := by simpa using h 0 (by simp)
theorem lzB_tail {x : Int} {xs : List Int} (h : LzB (x :: xs)) : LzB xs := fun h0 => by
  have := h (by simp)
  obtain ⟨m, hm⟩ : ∃ m, xs.length = m + 1 := ⟨xs.length - 1, by omega⟩
  simpa [hm] using this
theorem lzB_one {x : Int} (h : LzB [x]) : x ≠ 0 := by simpa using h (by simp)
theorem valB_nonneg : ∀ xs, BdB xs → 0 ≤ valB xs
  | [], _ => by unfold valB; omega
  | x :: xs, h => by have h1 := bdB_head h; have h2 := valB_nonneg xs (bdB_tail h); unfold valB; omega
theorem valB_zero : ∀ xs, BdB xs → LzB xs → valB xs = 0 → xs = []
  | [], _, _, _ => rfl
  | x :: xs, h, hl, hv => by
    have h1 := bdB_head h
    have h2 := valB_nonneg xs (bdB_tail h)
    unfold valB at hv
    have h3 := valB_zero xs (bdB_tail h) (lzB_tail hl) (by omega)
    subst h3
    exact absurd (by omega) (lzB_one hl)
theorem valB_inj : ∀ xs ys, BdB xs → LzB xs → BdB ys → LzB ys → valB xs = valB ys → xs = ys
  | [], ys, _, _, hy, ly, h => (valB_zero ys hy ly (by rw [← h]; rfl)).symm
  | x :: xs, [], hx, lx, _, _, h => valB_zero (x :: xs) hx lx (by rw [h]; rfl)
  | x :: xs, y :: ys, hx, lx, hy, ly, h => by
    have h1 := bdB_head hx
    have h2 := bdB_head hy
    unfold valB at h
    have h3 : x = y := by omega
    have h4 := valB_inj xs ys (bdB_tail hx) (lzB_tail lx) (bdB_tail hy) (lzB_tail ly) (by omega)
    rw [h3, h4]
theorem mulB_val (n : Int) (hn : 0 ≤ n) : ∀ (xs : List Int) (c : Int), 0 ≤ c → BdB xs → valB (mulB n xs c) = n * valB xs + c
  | [], c, hc, _ => by
    unfold mulB
    split
    · simp [valB]
    · simp [valB]; omega
  | x :: xs, c, hc, hx => by
    have h1 := bdB_head hx
    have h2 : 0 ≤ x * n := Int.mul_nonneg h1.1 hn
    have ih := mulB_val n hn xs ((x * n + c) / 10000) (by omega) (bdB_tail hx)
    unfold mulB
    unfold valB
    rw [ih, Int.mul_add n, show n * (10000 * valB xs) = 10000 * (n * valB xs) from by ac_rfl, Int.mul_comm n x]
    omega
theorem timesB_val {xs : List Int} {n : Int} (hn : 1 ≤ n) (hx : BdB xs) : valB (timesB xs n) = n * valB xs := by
  unfold timesB
  rw [if_neg (by omega), mulB_val n (by omega) xs 0 (by omega) hx]
  omega
theorem okB_val {xs ys : List Int} (hx : OkB xs) (hy : OkB ys) (h : valB xs = valB ys) : xs = ys := valB_inj xs ys hx.2.1 hx.2.2 hy.2.1 hy.2.2 h
theorem times_short {xs : List Int} {n : Int} (hx : OkB xs) (hl : xs.length ≤ 20) (h1 : 1 ≤ n) (h2 : n ≤ 1000) : TimesR xs n = (timesB xs n, true) ∧ OkB (timesB xs n) ∧ (timesB xs n).length ≤ xs.length + 1 := by
  have h3 := timesB_len xs n
  have h4 : (timesB xs n).length ≤ 120 := by omega
  exact ⟨by unfold TimesR; rw [if_pos ⟨hx, by omega, h2⟩, if_pos h4], timesB_ok h1 h2 hx h4, h3⟩
theorem times_twice {xs : List Int} (hx : OkB xs) (hl : xs.length ≤ 10) : timesB (timesB xs 7) 11 = timesB xs 77 := by
  obtain ⟨_, h1, l1⟩ := times_short (n := 7) hx (by omega) (by omega) (by omega)
  obtain ⟨_, h2, l2⟩ := times_short (n := 11) h1 (by omega) (by omega) (by omega)
  obtain ⟨_, h3, l3⟩ := times_short (n := 77) hx (by omega) (by omega) (by omega)
  refine okB_val h2 h3 ?_
  rw [timesB_val (by omega) h1.2.1, timesB_val (by omega) hx.2.1, timesB_val (by omega) hx.2.1]
  omega
theorem cmpTo_swap (xs ys : List Int) : ∀ k, cmpTo ys xs k = -cmpTo xs ys k
  | 0 => rfl
  | k + 1 => by
    unfold cmpTo
    have := cmpTo_swap xs ys k
    (repeat' split) <;> omega
theorem cmpB_swap (xs ys : List Int) : cmpB ys xs = -cmpB xs ys := by
  unfold cmpB
  rcases Nat.lt_trichotomy xs.length ys.length with h | h | h
  · rw [if_neg (by omega), if_pos h, if_pos h]; rfl
  · rw [if_neg (by omega), if_neg (by omega), if_neg (by omega), if_neg (by omega), h]; exact cmpTo_swap xs ys _
  · rw [if_pos h, if_neg (by omega), if_pos h]
theorem cmpTo_bd (xs ys : List Int) : ∀ k, -1 ≤ cmpTo xs ys k ∧ cmpTo xs ys k ≤ 1
  | 0 => by unfold cmpTo; omega
  | k + 1 => by
    have := cmpTo_bd xs ys k
    unfold cmpTo
    (repeat' split) <;> omega
theorem cmpB_bd (xs ys : List Int) : -1 ≤ cmpB xs ys ∧ cmpB xs ys ≤ 1 := by
  have := cmpTo_bd xs ys xs.length
  unfold cmpB
  (repeat' split) <;> omega
theorem cmpTo_zero (xs ys : List Int) : ∀ k, cmpTo xs ys k = 0 → ∀ i, i < k → xs.getD i 0 = ys.getD i 0
  | 0, _, i, hi => by omega
  | k + 1, h, i, hi => by
    unfold cmpTo at h
    split at h
    · omega
    · split at h
      · omega
      · rcases (show i < k ∨ i = k from by omega) with h1 | h1
        · exact cmpTo_zero xs ys k h i h1
        · subst h1; omega
theorem cmpTo_same (xs : List Int) : ∀ k, cmpTo xs xs k = 0
  | 0 => rfl
  | k + 1 => by unfold cmpTo; rw [if_neg (by omega), if_neg (by omega)]; exact cmpTo_same xs k
theorem cmpB_zero (xs ys : List Int) : cmpB xs ys = 0 ↔ xs = ys := by
  constructor
  · intro h
    unfold cmpB at h
    split at h
    · omega
    · split at h
      · omega
      · exact ext_getD (by omega) fun i hi => cmpTo_zero xs ys _ h i hi
  · rintro rfl
    unfold cmpB
    rw [if_neg (by omega), if_neg (by omega)]
    exact cmpTo_same xs _
theorem ofB_small (n : Nat) (h : n < 10000) (h0 : n ≠ 0) : ofB n = [(n : Int)] := by
  rw [ofB_pos n h0, show n / 10000 = 0 from by omega, ofB_zero, Nat.mod_eq_of_lt h]
theorem ofB_cmp (n m : Nat) (hn : n < 10000) (hm : m < 10000) : cmpB (ofB n) (ofB m) = if n < m then -1 else if m < n then 1 else 0 := by
  by_cases h0 : n = 0
  · subst h0
    by_cases h1 : m = 0
    · subst h1; rw [ofB_zero]; decide
    · rw [ofB_zero, ofB_small m hm h1, if_pos (by omega)]; unfold cmpB; rw [if_pos (by simp)]
  · by_cases h1 : m = 0
    · subst h1; rw [ofB_zero, ofB_small n hn h0, if_neg (by omega), if_pos (by omega)]; unfold cmpB; rw [if_neg (by simp), if_pos (by simp)]
    · rw [ofB_small n hn h0, ofB_small m hm h1]
      unfold cmpB
      rw [if_neg (by simp), if_neg (by simp)]
      show cmpTo _ _ 1 = _
      unfold cmpTo
      simp only [List.getD_cons_zero]
      unfold cmpTo
      (repeat' split) <;> omega
theorem ofB_bd : ∀ n, BdB (ofB n) := by
  intro n
  induction n using Nat.strongRecOn with
  | _ n ih =>
    by_cases h0 : n = 0
    · subst h0; rw [ofB_zero]; intro i hi; simp at hi
    · rw [ofB_pos n h0]
      intro i hi
      cases i with
      | zero => simp; omega
      | succ i => simpa using ih (n / 10000) (by omega) i (by simpa using hi)
theorem ofB_lz : ∀ n, LzB (ofB n) := by
  intro n
  induction n using Nat.strongRecOn with
  | _ n ih =>
    by_cases h0 : n = 0
    · subst h0; rw [ofB_zero]; intro h; simp at h
    · rw [ofB_pos n h0]
      intro _
      have h1 := ih (n / 10000) (by omega)
      by_cases h2 : n / 10000 = 0
      · rw [h2, ofB_zero]; simp; omega
      · have h3 : ofB (n / 10000) ≠ [] := by rw [ofB_pos _ h2]; simp
        have h4 : 0 < (ofB (n / 10000)).length := List.length_pos_iff.2 h3
        have h5 := h1 h4
        obtain ⟨m, hm⟩ : ∃ m, (ofB (n / 10000)).length = m + 1 := ⟨_, (Nat.succ_pred_eq_of_pos h4).symm⟩
        simpa [hm] using h5
theorem ofB_ok (n : Nat) (h : n < 10000 ^ 2) : OkB (ofB n) ∧ (ofB n).length ≤ 2 := by
  have h1 := ofB_len 2 n h
  exact ⟨⟨by omega, ofB_bd n, ofB_lz n⟩, h1⟩
end Go.Proofs.YtjnhfgacgobfcaaDoor
