/- Large numbers as lists of groups, without any Go text. -/
import Derived.Test.YtppbcjpabmllnaaNumBase
namespace Go.Proofs.Ytppbcjpabmllnaa
open Go.RowKit
set_option linter.unusedVariables false
/-- A large number: at most 120 groups, each in the range 0 to 9999, the last one not 0. -/
def OkB (xs : List Int) : Prop := xs.length ≤ 120 ∧ (∀ i, i < xs.length → 0 ≤ xs.getD i 0 ∧ xs.getD i 0 ≤ 9999) ∧ (0 < xs.length → xs.getD (xs.length - 1) 0 ≠ 0)
instance (xs : List Int) : Decidable (OkB xs) := by unfold OkB; infer_instance
/-- The groups of a number. -/
def ofB (n : Nat) : List Int := if h : n = 0 then [] else ((n % 10000 : Nat) : Int) :: ofB (n / 10000)
termination_by n
decreasing_by omega
theorem ofB_zero : ofB 0 = [] := by rw [ofB]; simp
theorem ofB_pos (n : Nat) (h : n ≠ 0) : ofB n = ((n % 10000 : Nat) : Int) :: ofB (n / 10000) := by rw [ofB]; simp [h]
theorem ofB_len : ∀ (k n : Nat), n < 10000 ^ k → (ofB n).length ≤ k
  | 0, n, h => by have : n = 0 := by simpa using h
                  subst this; rw [ofB_zero]; simp
  | k + 1, n, h => by
    by_cases h0 : n = 0
    · subst h0; rw [ofB_zero]; simp
    · rw [ofB_pos n h0]
      have h1 : n / 10000 < 10000 ^ k := by rw [Nat.div_lt_iff_lt_mul (by omega)]; rw [Nat.pow_succ] at h; exact h
      have := ofB_len k (n / 10000) h1
      simp only [List.length_cons]
      omega
/-- The product's groups below the last carry, and the carry. -/
def mulB (n : Int) : List Int → Int → List Int
  | [], c => if 0 < c then [c] else []
  | x :: xs, c => (x * n + c) % 10000 :: mulB n xs ((x * n + c) / 10000)
theorem mulB_len (n : Int) : ∀ (xs : List Int) (c : Int), xs.length ≤ (mulB n xs c).length ∧ (mulB n xs c).length ≤ xs.length + 1
  | [], c => by unfold mulB; split <;> simp
  | x :: xs, c => by have := mulB_len n xs ((x * n + c) / 10000); unfold mulB; simp only [List.length_cons]; omega
/-- The product. -/
def timesB (xs : List Int) (n : Int) : List Int := if n = 0 then [] else mulB n xs 0
def TimesR (xs : List Int) (n : Int) : List Int × Bool :=
  if OkB xs ∧ 0 ≤ n ∧ n ≤ 1000 then (if (timesB xs n).length ≤ 120 then (timesB xs n, true) else ([], false)) else ([], false)
theorem timesB_len (xs : List Int) (n : Int) : (timesB xs n).length ≤ xs.length + 1 := by
  unfold timesB
  split
  · simp
  · exact (mulB_len n xs 0).2
/-- The groups and the last one of a product. -/
theorem mulB_ok (n : Int) (h1 : 1 ≤ n) (h2 : n ≤ 1000) : ∀ (xs : List Int) (c : Int), 0 ≤ c → c ≤ 1000 → (∀ i, i < xs.length → 0 ≤ xs.getD i 0 ∧ xs.getD i 0 ≤ 9999) → (0 < xs.length → xs.getD (xs.length - 1) 0 ≠ 0) →
    (∀ i, i < (mulB n xs c).length → 0 ≤ (mulB n xs c).getD i 0 ∧ (mulB n xs c).getD i 0 ≤ 9999) ∧ (0 < (mulB n xs c).length → (mulB n xs c).getD ((mulB n xs c).length - 1) 0 ≠ 0)
  | [], c, c0, c1, _, _ => by
    unfold mulB
    split
    · refine ⟨fun i hi => ?_, fun _ => ?_⟩
      · have : i = 0 := by simpa using hi
        subst this; simp; omega
      · simp; omega
    · exact ⟨fun i hi => by simp at hi, fun h => by simp at h⟩
  | x :: xs, c, c0, c1, hx, hl => by
    have x0 : 0 ≤ x ∧ x ≤ 9999 := by simpa using hx 0 (by simp)
    have xn0 : 0 ≤ x * n := Int.mul_nonneg x0.1 (by omega)
    have xn1 : x * n ≤ 9999 * 1000 := Int.mul_le_mul x0.2 h2 (by omega) (by omega)
    have ih := mulB_ok n h1 h2 xs ((x * n + c) / 10000) (by omega) (by omega) (fun i hi => by simpa using hx (i + 1) (by simpa using hi))
      (fun h => by
        have := hl (by simp)
        obtain ⟨m, hm⟩ : ∃ m, xs.length = m + 1 := ⟨xs.length - 1, by omega⟩
        simpa [hm] using this)
    unfold mulB
    refine ⟨fun i hi => ?_, fun _ => ?_⟩
    · cases i with
      | zero => simp; omega
      | succ i => simpa using ih.1 i (by simpa using hi)
    · rcases Nat.eq_zero_or_pos (mulB n xs ((x * n + c) / 10000)).length with h | h
      · have hnil := List.eq_nil_of_length_eq_zero h
        have hxs : xs = [] := List.eq_nil_of_length_eq_zero (by have := (mulB_len n xs ((x * n + c) / 10000)).1; omega)
        rw [hnil]
        subst hxs
        have hx1 : x ≠ 0 := by simpa using hl (by simp)
        have hc : ¬ 0 < (x * n + c) / 10000 := by
          intro hp
          unfold mulB at hnil
          rw [if_pos hp] at hnil
          simp at hnil
        have hxn : x * 1 ≤ x * n := Int.mul_le_mul_of_nonneg_left h1 x0.1
        simp
        omega
      · obtain ⟨m, hm⟩ : ∃ m, (mulB n xs ((x * n + c) / 10000)).length = m + 1 := ⟨_, (Nat.succ_pred_eq_of_pos h).symm⟩
        have := ih.2 h
        simpa [hm] using this
theorem timesB_ok {xs : List Int} {n : Int} (h1 : 1 ≤ n) (h2 : n ≤ 1000) (hx : OkB xs) (hl : (timesB xs n).length ≤ 120) : OkB (timesB xs n) := by
  have e : timesB xs n = mulB n xs 0 := by unfold timesB; rw [if_neg (by omega)]
  rw [e] at hl ⊢
  have := mulB_ok n h1 h2 xs 0 (by omega) (by omega) hx.2.1 hx.2.2
  exact ⟨hl, this.1, this.2⟩
theorem OkB_one : OkB [1] := by decide
/-- The power's groups, as long as there are at most 120. -/
def powB (b : Int) : Nat → Option (List Int)
  | 0 => some [1]
  | k + 1 => match powB b k with
    | none => none
    | some xs => if (timesB xs b).length ≤ 120 then some (timesB xs b) else none
theorem powB_ok {b : Int} (h1 : 1 ≤ b) (h2 : b ≤ 1000) : ∀ (k : Nat) (xs : List Int), powB b k = some xs → OkB xs
  | 0, xs, h => by unfold powB at h; cases h; exact OkB_one
  | k + 1, xs, h => by
    unfold powB at h
    split at h
    · cases h
    · next ys hy =>
      split at h
      · next hl => cases h; exact timesB_ok h1 h2 (powB_ok h1 h2 k ys hy) hl
      · cases h
theorem powB_none {b : Int} {k : Nat} (h : powB b k = none) : ∀ m, k ≤ m → powB b m = none
  | 0, hm => by have : k = 0 := by omega
                subst this; exact h
  | m + 1, hm => by
    rcases (show k = m + 1 ∨ k ≤ m from by omega) with rfl | h'
    · exact h
    · unfold powB; rw [powB_none h m h']
def PowR (b e : Int) : List Int × Bool :=
  if 1 ≤ b ∧ b ≤ 1000 ∧ 0 ≤ e ∧ e ≤ 2000 then (match powB b e.toNat with | none => ([], false) | some xs => (xs, true)) else ([], false)
/-- The comparison of two lists of groups of the same length, from the k-th down. -/
def cmpTo (xs ys : List Int) : Nat → Int
  | 0 => 0
  | k + 1 => if xs.getD k 0 < ys.getD k 0 then -1 else if ys.getD k 0 < xs.getD k 0 then 1 else cmpTo xs ys k
def cmpB (xs ys : List Int) : Int := if xs.length < ys.length then -1 else if ys.length < xs.length then 1 else cmpTo xs ys xs.length
def CmpR (xs ys : List Int) : Int := if OkB xs ∧ OkB ys then cmpB xs ys else 0
end Go.Proofs.Ytppbcjpabmllnaa
/- Mathematics of large numbers as lists of groups: their value, that the groups are determined by it, products, comparisons. -/
namespace Go.Proofs.Ytppbcjpabmllnaa
open Go.RowKit
set_option linter.unusedVariables false
def valB : List Int → Int
  | [] => 0
  | x :: xs => x + 10000 * valB xs
def BdB (xs : List Int) : Prop := ∀ i, i < xs.length → 0 ≤ xs.getD i 0 ∧ xs.getD i 0 ≤ 9999
def LzB (xs : List Int) : Prop := 0 < xs.length → xs.getD (xs.length - 1) 0 ≠ 0
theorem bdB_tail {x : Int} {xs : List Int} (h : BdB (x :: xs)) : BdB xs := fun i hi => by simpa using h (i + 1) (by simpa using hi)
theorem bdB_head {x : Int} {xs : List Int} (h : BdB (x :: xs)) : 0 ≤ x ∧ x ≤ 9999 := by simpa using h 0 (by simp)
theorem lzB_tail {x : Int} {xs : List Int} (h : LzB (x :: xs)) : LzB xs := fun h0 => by
  have := h (by simp)
  obtain ⟨m, hm⟩ : ∃ m, xs.length = m + 1 := ⟨xs.length - 1, by omega⟩
  simpa [hm] using this
theorem lzB_one {x : Int} (h : LzB [x]) : x ≠ 0 := by simpa using h (by simp)
theorem valB_nonneg : ∀ xs, BdB xs → 0 ≤ valB xs
  | [], _ => by unfold valB; omega
  | x :: xs, h => by have h1 := bdB_head h; have h2 := valB_nonneg xs (bdB_tail h); unfold valB; omega
theorem valB_zero : ∀ xs, BdB xs → LzB xs → valB xs = 0 → xs = []
  | [], _, _, _ => rfl
  | x :: xs, h, hl, hv => by
    have h1 := bdB_head h
    have h2 := valB_nonneg xs (bdB_tail h)
    unfold valB at hv
    have h3 := valB_zero xs (bdB_tail h) (lzB_tail hl) (by omega)
    subst h3
    exact absurd (by omega) (lzB_one hl)
theorem valB_inj : ∀ xs ys, BdB xs → LzB xs → BdB ys → LzB ys → valB xs = valB ys → xs = ys
  | [], ys, _, _, hy, ly, h => (valB_zero ys hy ly (by rw [← h]; rfl)).symm
  | x :: xs, [], hx, lx, _, _, h => valB_zero (x :: xs) hx lx (by rw [h]; rfl)
  | x :: xs, y :: ys, hx, lx, hy, ly, h => by
    have h1 := bdB_head hx
    have h2 := bdB_head hy
    unfold valB at h
    have h3 : x = y := by omega
    have h4 := valB_inj xs ys (bdB_tail hx) (lzB_tail lx) (bdB_tail hy) (lzB_tail ly) (by omega)
    rw [h3, h4]
theorem mulB_val (n : Int) (hn : 0 ≤ n) : ∀ (xs : List Int) (c : Int), 0 ≤ c → BdB xs → valB (mulB n xs c) = n * valB xs + c
  | [], c, hc, _ => by
    unfold mulB
    split
    · simp [valB]
    · simp [valB]; omega
  | x :: xs, c, hc, hx => by
    have h1 := bdB_head hx
    have h2 : 0 ≤ x * n := Int.mul_nonneg h1.1 hn
    have ih := mulB_val n hn xs ((x * n + c) / 10000) (by omega) (bdB_tail hx)
    unfold mulB
    unfold valB
    rw [ih, Int.mul_add n, show n * (10000 * valB xs) = 10000 * (n * valB xs) from by ac_rfl, Int.mul_comm n x]
    omega
theorem timesB_val {xs : List Int} {n : Int} (hn : 1 ≤ n) (hx : BdB xs) : valB (timesB xs n) = n * valB xs := by
  unfold timesB
  rw [if_neg (by omega), mulB_val n (by omega) xs 0 (by omega) hx]
  omega
theorem okB_val {xs ys : List Int} (hx : OkB xs) (hy : OkB ys) (h : valB xs = valB ys) : xs = ys := valB_inj xs ys hx.2.1 hx.2.2 hy.2.1 hy.2.2 h
theorem times_short {xs : List Int} {n : Int} (hx : OkB xs) (hl : xs.length ≤ 20) (h1 : 1 ≤ n) (h2 : n ≤ 1000) : TimesR xs n = (timesB xs n, true) ∧ OkB (timesB xs n) ∧ (timesB xs n).length ≤ xs.length + 1 := by
  have h3 := timesB_len xs n
  have h4 : (timesB xs n).length ≤ 120 := by omega
  exact ⟨by unfold TimesR; rw [if_pos ⟨hx, by omega, h2⟩, if_pos h4], timesB_ok h1 h2 hx h4, h3⟩
theorem times_twice {xs : List Int} (hx : OkB xs) (hl : xs.length ≤ 10) : timesB (timesB xs 7) 11 = timesB xs 77 := by
  obtain ⟨_, h1, l1⟩ := times_short (n := 7) hx (by omega) (by omega) (by omega)
  obtain ⟨_, h2, l2⟩ := times_short (n := 11) h1 (by omega) (by omega) (by omega)
  obtain ⟨_, h3, l3⟩ := times_short (n := 77) hx (by omega) (by omega) (by omega)
  refine okB_val h2 h3 ?_
  rw [timesB_val (by omega) h1.2.1, timesB_val (by omega) hx.2.1, timesB_val (by omega) hx.2.1]
  omega
theorem cmpTo_swap (xs ys : List Int) : ∀ k, cmpTo ys xs k = -cmpTo xs ys k
  | 0 => rfl
  | k + 1 => by
    unfold cmpTo
    have := cmpTo_swap xs ys k
    (repeat' split) <;> omega
theorem cmpB_swap (xs ys : List Int) : cmpB ys xs = -cmpB xs ys := by
  unfold cmpB
  rcases Nat.lt_trichotomy xs.length ys.length with h | h | h
  · rw [if_neg (by omega), if_pos h, if_pos h]; rfl
  · rw [if_neg (by omega), if_neg (by omega), if_neg (by omega), if_neg (by omega), h]; exact cmpTo_swap xs ys _
  · rw [if_pos h, if_neg (by omega), if_pos h]
theorem cmpTo_bd (xs ys : List Int) : ∀ k, -1 ≤ cmpTo xs ys k ∧ cmpTo xs ys k ≤ 1
  | 0 => by unfold cmpTo; omega
  | k + 1 => by
    have := cmpTo_bd xs ys k
    unfold cmpTo
    (repeat' split) <;> omega
theorem cmpB_bd (xs ys : List Int) : -1 ≤ cmpB xs ys ∧ cmpB xs ys ≤ 1 := by
  have := cmpTo_bd xs ys xs.length
  unfold cmpB
  (repeat' split) <;> omega
theorem cmpTo_zero (xs ys : List Int) : ∀ k, cmpTo xs ys k = 0 → ∀ i, i < k → xs.getD i 0 = ys.getD i 0
  | 0, _, i, hi => by omega
  | k + 1, h, i, hi => by
    unfold cmpTo at h
    split at h
    · omega
    · split at h
      · omega
      · rcases (show i < k ∨ i = k from by omega) with h1 | h1
        · exact cmpTo_zero xs ys k h i h1
        · subst h1; omega
theorem cmpTo_same (xs : List Int) : ∀ k, cmpTo xs xs k = 0
  | 0 => rfl
  | k + 1 => by unfold cmpTo; rw [if_neg (by omega), if_neg (by omega)]; exact cmpTo_same xs k
theorem cmpB_zero (xs ys : List Int) : cmpB xs ys = 0 ↔ xs = ys := by
  constructor
  · intro h
    unfold cmpB at h
    split at h
    · omega
    · split at h
      · omega
      · exact ext_getD (by omega) fun i hi => cmpTo_zero xs ys _ h i hi
  · rintro rfl
    unfold cmpB
    rw [if_neg (by omega), if_neg (by omega)]
    exact cmpTo_same xs _
theorem ofB_small (n : Nat) (h : n < 10000) (h0 : n ≠ 0) : ofB n = [(n : Int)] := by
  rw [ofB_pos n h0, show n / 10000 = 0 from by omega, ofB_zero, Nat.mod_eq_of_lt h]
theorem ofB_cmp (n m : Nat) (hn : n < 10000) (hm : m < 10000) : cmpB (ofB n) (ofB m) = if n < m then -1 else if m < n then 1 else 0 := by
  by_cases h0 : n = 0
  · subst h0
    by_cases h1 : m = 0
    · subst h1; rw [ofB_zero]; decide
    · rw [ofB_zero, ofB_small m hm h1, if_pos (by omega)]; unfold cmpB; rw [if_pos (by simp)]
  · by_cases h1 : m = 0
    · subst h1; rw [ofB_zero, ofB_small n hn h0, if_neg (by omega), if_pos (by omega)]; unfold cmpB; rw [if_neg (by simp), if_pos (by simp)]
    · rw [ofB_small n hn h0, ofB_small m hm h1]
      unfold cmpB
      rw [if_neg (by simp), if_neg (by simp)]
      show cmpTo _ _ 1 = _
      unfold cmpTo
      simp only [List.getD_cons_zero]
      unfold cmpTo
      (repeat' split) <;> omega
theorem ofB_bd : ∀ n, BdB (ofB n) := by
  intro n
  induction n using Nat.strongRecOn with
  | _ n ih =>
    by_cases h0 : n = 0
    · subst h0; rw [ofB_zero]; intro i hi; simp at hi
    · rw [ofB_pos n h0]
      intro i hi
      cases i with
      | zero => simp; omega
      | succ i => simpa using ih (n / 10000) (by omega) i (by simpa using hi)
theorem ofB_lz : ∀ n, LzB (ofB n) := by
  intro n
  induction n using Nat.strongRecOn with
  | _ n ih =>
    by_cases h0 : n = 0
    · subst h0; rw [ofB_zero]; intro h; simp at h
    · rw [ofB_pos n h0]
      intro _
      have h1 := ih (n / 10000) (by omega)
      by_cases h2 : n / 10000 = 0
      · rw [h2, ofB_zero]; simp; omega
      · have h3 : ofB (n / 10000) ≠ [] := by rw [ofB_pos _ h2]; simp
        have h4 : 0 < (ofB (n / 10000)).length := List.length_pos_iff.2 h3
        have h5 := h1 h4
        obtain ⟨m, hm⟩ : ∃ m, (ofB (n / 10000)).length = m + 1 := ⟨_, (Nat.succ_pred_eq_of_pos h4).symm⟩
        simpa [hm] using h5
theorem ofB_ok (n : Nat) (h : n < 10000 ^ 2) : OkB (ofB n) ∧ (ofB n).length ≤ 2 := by
  have h1 := ofB_len 2 n h
  exact ⟨⟨by omega, ofB_bd n, ofB_lz n⟩, h1⟩
end Go.Proofs.Ytppbcjpabmllnaa
/- Mathematics: the comparison of two lists of groups is that of their values. -/
namespace Go.Proofs.Ytppbcjpabmllnaa
open Go.RowKit
set_option linter.unusedVariables false
/-- The value of the lowest k groups. -/
def valTo (xs : List Int) : Nat → Int
  | 0 => 0
  | k + 1 => valTo xs k + xs.getD k 0 * 10000 ^ k
theorem p10_pos (k : Nat) : (0 : Int) < 10000 ^ k := Int.pow_pos (by omega)
theorem valTo_cons (x : Int) (xs : List Int) : ∀ k, valTo (x :: xs) (k + 1) = x + 10000 * valTo xs k
  | 0 => by simp [valTo]
  | k + 1 => by
    have ih := valTo_cons x xs k
    unfold valTo at ih ⊢
    rw [show valTo (x :: xs) (k + 1) = x + 10000 * valTo xs k from valTo_cons x xs k]
    rw [show (x :: xs).getD (k + 1) 0 = xs.getD k 0 from by simp, Int.pow_succ, Int.mul_add]
    have e : xs.getD k 0 * (10000 ^ k * 10000) = 10000 * (xs.getD k 0 * 10000 ^ k) := by ac_rfl
    rw [e]
    omega
theorem valTo_full : ∀ xs : List Int, valTo xs xs.length = valB xs
  | [] => rfl
  | x :: xs => by rw [List.length_cons, valTo_cons, valTo_full xs]; rfl
theorem valTo_bd {xs : List Int} (h : BdB xs) : ∀ k, k ≤ xs.length → 0 ≤ valTo xs k ∧ valTo xs k < 10000 ^ k
  | 0, _ => by simp [valTo]
  | k + 1, hk => by
    have ih := valTo_bd h k (by omega)
    have hx := h k (by omega)
    have hp := p10_pos k
    have h1 : 0 ≤ xs.getD k 0 * 10000 ^ k := Int.mul_nonneg hx.1 (by omega)
    have h2 : xs.getD k 0 * 10000 ^ k ≤ 9999 * 10000 ^ k := Int.mul_le_mul_of_nonneg_right hx.2 (by omega)
    unfold valTo
    rw [Int.pow_succ]
    omega
theorem valB_bd {xs : List Int} (h : BdB xs) : 0 ≤ valB xs ∧ valB xs < 10000 ^ xs.length := by
  rw [← valTo_full]; exact valTo_bd h _ (Nat.le_refl _)
theorem valB_low {xs : List Int} (h : BdB xs) (hl : LzB xs) (h0 : 0 < xs.length) : 10000 ^ (xs.length - 1) ≤ valB xs := by
  obtain ⟨m, hm⟩ : ∃ m, xs.length = m + 1 := ⟨xs.length - 1, by omega⟩
  have h1 := hl h0
  have h2 := h (xs.length - 1) (by omega)
  rw [← valTo_full, hm]
  rw [hm, Nat.add_sub_cancel] at h1 h2
  rw [Nat.add_sub_cancel]
  have h3 := valTo_bd h m (by omega)
  have h4 : 1 * 10000 ^ m ≤ xs.getD m 0 * 10000 ^ m := Int.mul_le_mul_of_nonneg_right (by omega) (by have := p10_pos m; omega)
  unfold valTo
  omega
def sgnOf (a b : Int) : Int := if a < b then -1 else if b < a then 1 else 0
theorem cmpTo_val {xs ys : List Int} (hx : BdB xs) (hy : BdB ys) : ∀ k, k ≤ xs.length → k ≤ ys.length → cmpTo xs ys k = sgnOf (valTo xs k) (valTo ys k)
  | 0, _, _ => by simp [cmpTo, sgnOf, valTo]
  | k + 1, h1, h2 => by
    have ih := cmpTo_val hx hy k (by omega) (by omega)
    have b1 := valTo_bd hx k (by omega)
    have b2 := valTo_bd hy k (by omega)
    have hp := p10_pos k
    unfold cmpTo
    have key : ∀ a b : Int, a < b → a * 10000 ^ k + 10000 ^ k ≤ b * 10000 ^ k := fun a b hab => by
      have := Int.mul_le_mul_of_nonneg_right (show a + 1 ≤ b by omega) (show (0 : Int) ≤ 10000 ^ k by omega)
      rw [Int.add_mul, Int.one_mul] at this
      exact this
    unfold sgnOf at ih ⊢
    show _ = if valTo xs k + xs.getD k 0 * 10000 ^ k < valTo ys k + ys.getD k 0 * 10000 ^ k then (-1 : Int) else if valTo ys k + ys.getD k 0 * 10000 ^ k < valTo xs k + xs.getD k 0 * 10000 ^ k then 1 else 0
    rcases Int.lt_trichotomy (xs.getD k 0) (ys.getD k 0) with h | h | h
    · have := key _ _ h
      rw [if_pos h, if_pos (by omega)]
    · rw [if_neg (by omega), if_neg (by omega), ih, h]
      rcases Int.lt_trichotomy (valTo xs k) (valTo ys k) with g | g | g
      · rw [if_pos g, if_pos (by omega)]
      · rw [if_neg (by omega), if_neg (by omega), if_neg (by omega), if_neg (by omega)]
      · rw [if_neg (by omega), if_pos g, if_neg (by omega), if_pos (by omega)]
    · have := key _ _ h
      rw [if_neg (by omega), if_pos h, if_neg (by omega), if_pos (by omega)]
theorem p10_mono {a b : Nat} (h : a ≤ b) : (10000 : Int) ^ a ≤ 10000 ^ b := by
  have e : ∀ n : Nat, (10000 : Int) ^ n = ((10000 ^ n : Nat) : Int) := fun n => by rw [Int.natCast_pow]; rfl
  rw [e, e]
  exact Int.ofNat_le.2 (Nat.pow_le_pow_right (by omega) h)
theorem cmpB_val {xs ys : List Int} (hx : BdB xs) (lx : LzB xs) (hy : BdB ys) (ly : LzB ys) : cmpB xs ys = sgnOf (valB xs) (valB ys) := by
  have b1 := valB_bd hx
  have b2 := valB_bd hy
  unfold cmpB
  rcases Nat.lt_trichotomy xs.length ys.length with h | h | h
  · have h1 := valB_low hy ly (by omega)
    have h2 := p10_mono (show xs.length ≤ ys.length - 1 by omega)
    rw [if_pos h]
    unfold sgnOf
    rw [if_pos (by omega)]
  · rw [if_neg (by omega), if_neg (by omega), cmpTo_val hx hy _ (Nat.le_refl _) (by omega), valTo_full, h, valTo_full]
  · have h1 := valB_low hx lx (by omega)
    have h2 := p10_mono (show ys.length ≤ xs.length - 1 by omega)
    rw [if_neg (by omega), if_pos h]
    unfold sgnOf
    rw [if_neg (by omega), if_pos (by omega)]
end Go.Proofs.Ytppbcjpabmllnaa
/- Mathematics of the sign of an interval: products of powers of 2, 3 and 5 are compared; the order of intervals; intervals of the same size. -/
namespace Go.Proofs.Ytppbcjpabmllnaa
open Go.RowKit
set_option linter.unusedVariables false
/-- 2^a * 3^b * 5^c. -/
def pw (a b c : Nat) : Nat := 2 ^ a * 3 ^ b * 5 ^ c
theorem pw_pos (a b c : Nat) : 0 < pw a b c := Nat.mul_pos (Nat.mul_pos (Nat.pow_pos (by omega)) (Nat.pow_pos (by omega))) (Nat.pow_pos (by omega))
theorem pw_add (a b c a' b' c' : Nat) : pw (a + a') (b + b') (c + c') = pw a b c * pw a' b' c' := by
  unfold pw
  rw [Nat.pow_add, Nat.pow_add, Nat.pow_add]; ac_rfl
theorem pw_mul (k a b c : Nat) : pw (k * a) (k * b) (k * c) = pw a b c ^ k := by
  unfold pw
  rw [Nat.mul_pow, Nat.mul_pow, ← Nat.pow_mul, ← Nat.pow_mul, ← Nat.pow_mul, Nat.mul_comm a, Nat.mul_comm b, Nat.mul_comm c]
def sgnN (a b : Nat) : Int := if a < b then -1 else if b < a then 1 else 0
theorem sgnN_mul (a b m : Nat) (h : 0 < m) : sgnN (a * m) (b * m) = sgnN a b := by
  unfold sgnN
  have k : ∀ x y : Nat, x * m < y * m ↔ x < y := fun x y => Nat.mul_lt_mul_right h
  simp only [k]
theorem sgnN_pow (a b k : Nat) (h : 0 < k) : sgnN (a ^ k) (b ^ k) = sgnN a b := by
  unfold sgnN
  have q : ∀ x y : Nat, x ^ k < y ^ k ↔ x < y := fun x y => Nat.pow_lt_pow_iff_left (by omega)
  simp only [q]
theorem sgnN_swap (a b : Nat) : sgnN b a = -sgnN a b := by unfold sgnN; (repeat' split) <;> omega
theorem sgnN_int (a b : Nat) : sgnN a b = sgnOf (a : Int) (b : Int) := by unfold sgnN sgnOf; (repeat' split) <;> omega
/-- The sign of the logarithm of 2^t * 3^h * 5^f. -/
def sgnP (t h f : Int) : Int := sgnN (pw t.toNat h.toNat f.toNat) (pw (-t).toNat (-h).toNat (-f).toNat)
/-- The sign, from any two products with these differences of exponents. -/
theorem sgnP_of (a b c a' b' c' : Nat) (t h f : Int) (ht : (a : Int) - a' = t) (hh : (b : Int) - b' = h) (hf : (c : Int) - c' = f) : sgnN (pw a b c) (pw a' b' c') = sgnP t h f := by
  have e1 : a = t.toNat + min a a' ∧ a' = (-t).toNat + min a a' := by omega
  have e2 : b = h.toNat + min b b' ∧ b' = (-h).toNat + min b b' := by omega
  have e3 : c = f.toNat + min c c' ∧ c' = (-f).toNat + min c c' := by omega
  have k1 : pw a b c = pw t.toNat h.toNat f.toNat * pw (min a a') (min b b') (min c c') := by rw [← pw_add, ← e1.1, ← e2.1, ← e3.1]
  have k2 : pw a' b' c' = pw (-t).toNat (-h).toNat (-f).toNat * pw (min a a') (min b b') (min c c') := by rw [← pw_add, ← e1.2, ← e2.2, ← e3.2]
  rw [k1, k2, sgnN_mul _ _ _ (pw_pos _ _ _)]
  rfl
theorem sgnP_neg (t h f : Int) : sgnP (-t) (-h) (-f) = -sgnP t h f := by
  unfold sgnP
  rw [Int.neg_neg, Int.neg_neg, Int.neg_neg, sgnN_swap]
theorem sgnP_mul (k : Int) (hk : 1 ≤ k) (t h f : Int) : sgnP (t * k) (h * k) (f * k) = sgnP t h f := by
  obtain ⟨n, rfl⟩ := Int.eq_ofNat_of_zero_le (show 0 ≤ k by omega)
  have e : ∀ x : Int, (((n * x.toNat : Nat)) : Int) - ((n * (-x).toNat : Nat) : Int) = x * (n : Int) := fun x => by
    rw [Int.natCast_mul, Int.natCast_mul, ← Int.mul_sub, Int.mul_comm]
    congr 1
    omega
  rw [← sgnP_of _ _ _ _ _ _ _ _ _ (e t) (e h) (e f), pw_mul, pw_mul, sgnN_pow _ _ _ (by omega)]
  rfl
theorem sgnP_nonneg_iff (t h f : Int) : 0 ≤ sgnP t h f ↔ pw (-t).toNat (-h).toNat (-f).toNat ≤ pw t.toNat h.toNat f.toNat := by
  unfold sgnP sgnN
  (repeat' split) <;> omega
/-- The sum of two intervals that are not less than the prime is not less than it. -/
theorem sgnP_add (t h f t' h' f' : Int) (h1 : 0 ≤ sgnP t h f) (h2 : 0 ≤ sgnP t' h' f') : 0 ≤ sgnP (t + t') (h + h') (f + f') := by
  rw [sgnP_nonneg_iff] at h1 h2
  rw [← sgnP_of (t.toNat + t'.toNat) (h.toNat + h'.toNat) (f.toNat + f'.toNat) ((-t).toNat + (-t').toNat) ((-h).toNat + (-h').toNat) ((-f).toNat + (-f').toNat) _ _ _ (by omega) (by omega) (by omega), pw_add, pw_add]
  have := Nat.mul_le_mul h1 h2
  unfold sgnN
  (repeat' split) <;> omega
theorem sgnP_bd (t h f : Int) : -1 ≤ sgnP t h f ∧ sgnP t h f ≤ 1 := by unfold sgnP sgnN; (repeat' split) <;> omega
theorem cop (p a b : Nat) (hp : Nat.Coprime p a) (hq : Nat.Coprime p b) (m n : Nat) : Nat.Coprime p (a ^ m * b ^ n) :=
  Nat.Coprime.mul_right (Nat.Coprime.pow_right m hp) (Nat.Coprime.pow_right n hq)
theorem no_dvd {p x : Nat} (hp : 1 < p) (h : Nat.Coprime p x) : ¬ p ∣ x := fun hd => by
  have h1 : p ∣ Nat.gcd p x := Nat.dvd_gcd (Nat.dvd_refl p) hd
  rw [h] at h1
  have := Nat.le_of_dvd (by omega) h1
  omega
theorem pw_two (a b c : Nat) : pw (a + 1) b c = 2 * pw a b c := by unfold pw; rw [Nat.pow_succ]; ac_rfl
theorem pw_three (a b c : Nat) : pw a (b + 1) c = 3 * pw a b c := by unfold pw; rw [Nat.pow_succ]; ac_rfl
theorem pw_five (a b c : Nat) : pw a b (c + 1) = 5 * pw a b c := by unfold pw; rw [Nat.pow_succ]; ac_rfl
theorem pw_no2 (b c : Nat) : ¬ 2 ∣ pw 0 b c := by
  unfold pw; rw [Nat.pow_zero, Nat.one_mul]; exact no_dvd (by omega) (cop 2 3 5 (by decide) (by decide) b c)
theorem pw_no3 (a c : Nat) : ¬ 3 ∣ pw a 0 c := by
  unfold pw; rw [Nat.pow_zero, Nat.mul_one]; exact no_dvd (by omega) (cop 3 2 5 (by decide) (by decide) a c)
theorem pw_no5 (a b : Nat) : ¬ 5 ∣ pw a b 0 := by
  unfold pw; rw [Nat.pow_zero, Nat.mul_one]; exact no_dvd (by omega) (cop 5 2 3 (by decide) (by decide) a b)
theorem two_zero (a a' b b' c c' : Nat) (h0 : a = 0 ∨ a' = 0) (h : pw a b c = pw a' b' c') : a = 0 ∧ a' = 0 := by
  rcases a with _ | a
  · rcases a' with _ | a'
    · exact ⟨rfl, rfl⟩
    · exact absurd (h ▸ (pw_two a' b' c' ▸ Nat.dvd_mul_right 2 _)) (pw_no2 b c)
  · have : a' = 0 := by omega
    subst this
    exact absurd (h ▸ (pw_two a b c ▸ Nat.dvd_mul_right 2 _)) (pw_no2 b' c')
theorem three_zero (a a' b b' c c' : Nat) (h0 : b = 0 ∨ b' = 0) (h : pw a b c = pw a' b' c') : b = 0 ∧ b' = 0 := by
  rcases b with _ | b
  · rcases b' with _ | b'
    · exact ⟨rfl, rfl⟩
    · exact absurd (h ▸ (pw_three a' b' c' ▸ Nat.dvd_mul_right 3 _)) (pw_no3 a c)
  · have : b' = 0 := by omega
    subst this
    exact absurd (h ▸ (pw_three a b c ▸ Nat.dvd_mul_right 3 _)) (pw_no3 a' c')
theorem five_zero (a a' b b' c c' : Nat) (h0 : c = 0 ∨ c' = 0) (h : pw a b c = pw a' b' c') : c = 0 ∧ c' = 0 := by
  rcases c with _ | c
  · rcases c' with _ | c'
    · exact ⟨rfl, rfl⟩
    · exact absurd (h ▸ (pw_five a' b' c' ▸ Nat.dvd_mul_right 5 _)) (pw_no5 a b)
  · have : c' = 0 := by omega
    subst this
    exact absurd (h ▸ (pw_five a b c ▸ Nat.dvd_mul_right 5 _)) (pw_no5 a' b')
/-- Only the prime is neither greater nor less than the prime. -/
theorem sgnP_zero (t h f : Int) : sgnP t h f = 0 ↔ t = 0 ∧ h = 0 ∧ f = 0 := by
  constructor
  · intro hs
    have he : pw t.toNat h.toNat f.toNat = pw (-t).toNat (-h).toNat (-f).toNat := by
      unfold sgnP sgnN at hs
      split at hs
      · omega
      · split at hs <;> omega
    have k1 := two_zero _ _ _ _ _ _ (by omega) he
    have k2 := three_zero _ _ _ _ _ _ (by omega) he
    have k3 := five_zero _ _ _ _ _ _ (by omega) he
    omega
  · rintro ⟨rfl, rfl, rfl⟩
    unfold sgnP sgnN
    simp
end Go.Proofs.Ytppbcjpabmllnaa
/- Mathematics of products by any factor: the groups of a number, times a number, are the groups of the product; the comparison of groups is that of the numbers; how many groups a product of powers has. -/
namespace Go.Proofs.Ytppbcjpabmllnaa
open Go.RowKit
set_option linter.unusedVariables false
/-- The product's groups, those of the last carry with them. -/
def mulG (n : Int) : List Int → Int → List Int
  | [], c => ofB c.toNat
  | x :: xs, c => (x * n + c) % 10000 :: mulG n xs ((x * n + c) / 10000)
theorem mulG_len (n : Int) : ∀ (xs : List Int) (c : Int), xs.length ≤ (mulG n xs c).length
  | [], c => by simp
  | x :: xs, c => by have := mulG_len n xs ((x * n + c) / 10000); unfold mulG; simp only [List.length_cons]; omega
theorem mulG_small (n : Int) (h1 : 0 ≤ n) (h2 : n ≤ 1000) : ∀ (xs : List Int) (c : Int), 0 ≤ c → c ≤ 1000 → BdB xs → mulG n xs c = mulB n xs c
  | [], c, c0, c1, _ => by
    unfold mulG mulB
    by_cases h : 0 < c
    · rw [if_pos h, ofB_small _ (by omega) (by omega)]
      congr 1
      omega
    · rw [if_neg h, show c.toNat = 0 from by omega, ofB_zero]
  | x :: xs, c, c0, c1, hx => by
    have x0 := bdB_head hx
    have xn0 : 0 ≤ x * n := Int.mul_nonneg x0.1 h1
    have xn1 : x * n ≤ 9999 * 1000 := Int.mul_le_mul x0.2 h2 h1 (by omega)
    unfold mulG mulB
    rw [mulG_small n h1 h2 xs _ (by omega) (by omega) (bdB_tail hx)]
theorem timesB_mulG {xs : List Int} {n : Int} (h1 : 1 ≤ n) (h2 : n ≤ 1000) (hx : BdB xs) : timesB xs n = mulG n xs 0 := by
  unfold timesB
  rw [if_neg (by omega), mulG_small n (by omega) h2 xs 0 (by omega) (by omega) hx]
theorem mulG_ofB (N : Nat) (hN : 1 ≤ N) : ∀ (V c : Nat), mulG (N : Int) (ofB V) (c : Int) = ofB (V * N + c) := by
  intro V
  induction V using Nat.strongRecOn with
  | _ V ih =>
    intro c
    by_cases h0 : V = 0
    · subst h0
      rw [ofB_zero, Nat.zero_mul, Nat.zero_add]
      unfold mulG
      rw [Int.toNat_natCast]
    · obtain ⟨q, hq⟩ : ∃ q, q = V / 10000 := ⟨_, rfl⟩
      obtain ⟨r, hr⟩ : ∃ r, r = V % 10000 := ⟨_, rfl⟩
      have hV : V = 10000 * q + r := by omega
      have e : V * N + c = 10000 * (q * N) + (r * N + c) := by rw [hV, Nat.add_mul, Nat.mul_assoc, Nat.add_assoc]
      have hp : 1 * 1 ≤ V * N := Nat.mul_le_mul (by omega) hN
      have h1 : V * N + c ≠ 0 := by omega
      rw [ofB_pos V h0, ofB_pos _ h1, ← hq, ← hr]
      unfold mulG
      have e1 : ((r : Int) * (N : Int) + (c : Int)) = ((r * N + c : Nat) : Int) := by rw [Int.natCast_add, Int.natCast_mul]
      rw [e1]
      have e2 : ((r * N + c : Nat) : Int) / 10000 = (((r * N + c) / 10000 : Nat) : Int) := by omega
      have e3 : ((r * N + c : Nat) : Int) % 10000 = (((r * N + c) % 10000 : Nat) : Int) := by omega
      rw [e2, e3, ih q (by omega)]
      generalize q * N = a at e ⊢
      generalize r * N + c = b at e ⊢
      rw [e, show (10000 * a + b) % 10000 = b % 10000 from by omega, show (10000 * a + b) / 10000 = a + b / 10000 from by omega]
theorem mulG_times (N V : Nat) (hN : 1 ≤ N) : mulG (N : Int) (ofB V) 0 = ofB (V * N) := mulG_ofB N hN V 0
theorem ofB_val : ∀ n, valB (ofB n) = (n : Int) := by
  intro n
  induction n using Nat.strongRecOn with
  | _ n ih =>
    by_cases h0 : n = 0
    · subst h0; rw [ofB_zero]; rfl
    · rw [ofB_pos n h0]
      unfold valB
      rw [ih (n / 10000) (by omega)]
      omega
/-- The comparison of the groups of two numbers. -/
theorem cmp_ofB (a b : Nat) : cmpB (ofB a) (ofB b) = sgnN a b := by
  rw [cmpB_val (ofB_bd a) (ofB_lz a) (ofB_bd b) (ofB_lz b), ofB_val, ofB_val, sgnN_int]
theorem ofB_one : ofB 1 = [1] := ofB_small 1 (by omega) (by omega)
theorem pw_le (t h f : Nat) : pw t h f < 10000 ^ (t + h + f + 1) := by
  have h1 : 2 ^ t ≤ 10000 ^ t := Nat.pow_le_pow_left (by omega) t
  have h2 : 3 ^ h ≤ 10000 ^ h := Nat.pow_le_pow_left (by omega) h
  have h3 : 5 ^ f ≤ 10000 ^ f := Nat.pow_le_pow_left (by omega) f
  have h4 : pw t h f ≤ 10000 ^ (t + h + f) := by
    unfold pw
    rw [Nat.pow_add, Nat.pow_add]
    exact Nat.mul_le_mul (Nat.mul_le_mul h1 h2) h3
  have h5 : 0 < 10000 ^ (t + h + f) := Nat.pow_pos (by omega)
  rw [Nat.pow_succ]
  omega
theorem pw_groups (t h f : Nat) : (ofB (pw t h f)).length ≤ t + h + f + 1 := ofB_len _ _ (pw_le t h f)
theorem pw_one : pw 0 0 0 = 1 := by decide
theorem pw2 (t : Nat) : 1 * 2 ^ t = pw t 0 0 := by unfold pw; simp
theorem pw3 (t h : Nat) : pw t 0 0 * 3 ^ h = pw t h 0 := by unfold pw; simp
theorem pw5 (t h f : Nat) : pw t h 0 * 5 ^ f = pw t h f := by unfold pw; simp
end Go.Proofs.Ytppbcjpabmllnaa
