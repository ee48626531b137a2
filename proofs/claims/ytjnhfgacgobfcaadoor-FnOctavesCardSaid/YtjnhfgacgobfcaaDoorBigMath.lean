/- Large numbers as lists of groups, without any Go text. -/
import Derived.Test.YtjnhfgacgobfcaaDoorIntOwn
namespace Go.Proofs.YtjnhfgacgobfcaaDoor
open Go.RowKit
set_option linter.unusedVariables false
/-- A large number: at most 120 groups, each in the range 0 to 9999, the last one not 0. -/
def OkB (xs : List Int) : Prop := xs.length ≤ 120 ∧ (∀ i, i < xs.length → 0 ≤ xs.getD i 0 ∧ xs.getD i 0 ≤ 9999) ∧ (0 < xs.length → xs.getD (xs.length - 1) 0 ≠ 0)
instance (xs : List Int) : Decidable (OkB xs) := by unfold OkB; infer_instance
/-- The groups of a number. -/
def ofB (n : Nat) : List Int := if h : n = 0 then [] else ((n % 10000 : Nat) : Int) :: ofB (n / 10000)
termination_by n
decreasing_by omega
theorem ofB_zero : ofB 0 = [] := by rw [ofB]; simp
theorem ofB_pos (n : Nat) (h : n ≠ 0) : ofB n = ((n % 10000 : Nat) : Int) :: ofB (n / 10000) := by rw [ofB]; simp [h]
theorem ofB_len : ∀ (k n : Nat), n < 10000 ^ k → (ofB n).length ≤ k
  | 0, n, h => by have : n = 0 := by simpa using h
                  subst this; rw [ofB_zero]; simp
  | k + 1, n, h => by
    by_cases h0 : n = 0
    · subst h0; rw [ofB_zero]; simp
    · rw [ofB_pos n h0]
      have h1 : n / 10000 < 10000 ^ k := by rw [Nat.div_lt_iff_lt_mul (by omega)]; rw [Nat.pow_succ] at h; exact h
      have := ofB_len k (n / 10000) h1
      simp only [List.length_cons]
      omega
/-- The product's groups below the last carry, and the carry. -/
def mulB (n : Int) : List Int → Int → List Int
  | [], c => if 0 < c then [c] else []
  | x :: xs, c => (x * n + c) % 10000 :: mulB n xs ((x * n + c) / 10000)
theorem mulB_len (n : Int) : ∀ (xs : List Int) (c : Int), xs.length ≤ (mulB n xs c).length ∧ (mulB n xs c).length ≤ xs.length + 1
  | [], c => by unfold mulB; split <;> simp
  | x :: xs, c => by have := mulB_len n xs ((x * n + c) / 10000); unfold mulB; simp only [List.length_cons]; omega
/-- The product. -/
def timesB (xs : List Int) (n : Int) : List Int := if n = 0 then [] else mulB n xs 0
def TimesR (xs : List Int) (n : Int) : List Int × Bool :=
  if OkB xs ∧ 0 ≤ n ∧ n ≤ 1000 then (if (timesB xs n).length ≤ 120 then (timesB xs n, true) else ([], false)) else ([], false)
theorem timesB_len (xs : List Int) (n : Int) : (timesB xs n).length ≤ xs.length + 1 := by
  unfold timesB
  split
  · simp
  · exact (mulB_len n xs 0).2
/-- The groups and the last one of a product. -/
theorem mulB_ok (n : Int) (h1 : 1 ≤ n) (h2 : n ≤ 1000) : ∀ (xs : List Int) (c : Int), 0 ≤ c → c ≤ 1000 → (∀ i, i < xs.length → 0 ≤ xs.getD i 0 ∧ xs.getD i 0 ≤ 9999) → (0 < xs.length → xs.getD (xs.length - 1) 0 ≠ 0) →
    (∀ i, i < (mulB n xs c).length → 0 ≤ (mulB n xs c).getD i 0 ∧ (mulB n xs c).getD i 0 ≤ 9999) ∧ (0 < (mulB n xs c).length → (mulB n xs c).getD ((mulB n xs c).length - 1) 0 ≠ 0)
  | [], c, c0, c1, _, _ => by
    unfold mulB
    split
    · refine ⟨fun i hi => ?_, fun _ => ?_⟩
      · have : i = 0 := by simpa using hi
        subst this; simp; omega
      · simp; omega
    · exact ⟨fun i hi => by simp at hi, fun h => by simp at h⟩
  | x :: xs, c, c0, c1, hx, hl => by
    have x0 : 0 ≤ x ∧ x ≤ 9999 := by simpa using hx 0 (by simp)
    have xn0 : 0 ≤ x * n := Int.mul_nonneg x0.1 (by omega)
    have xn1 : x * n ≤ 9999 * 1000 := Int.mul_le_mul x0.2 h2 (by omega) (by omega)
    have ih := mulB_ok n h1 h2 xs ((x * n + c) / 10000) (by omega) (by omega) (fun i hi => by simpa using hx (i + 1) (by simpa using hi))
      (fun h => by
        have := hl (by simp)
        obtain ⟨m, hm⟩ : ∃ m, xs.length = m + 1 := ⟨xs.length - 1, by omega⟩
        simpa [hm] using this)
    unfold mulB
    refine ⟨fun i hi => ?_, fun _ => ?_⟩
    · cases i with
      | zero => simp; omega
      | succ i => simpa using ih.1 i (by simpa using hi)
    · rcases Nat.eq_zero_or_pos (mulB n xs ((x * n + c) / 10000)).length with h | h
      · have hnil := List.eq_nil_of_length_eq_zero h
        have hxs : xs = [] := List.eq_nil_of_length_eq_zero (by have := (mulB_len n xs ((x * n + c) / 10000)).1; omega)
        rw [hnil]
        subst hxs
        have hx1 : x ≠ 0 := by simpa using hl (by simp)
        have hc : ¬ 0 < (x * n + c) / 10000 := by
          intro hp
          unfold mulB at hnil
          rw [if_pos hp] at hnil
          simp at hnil
        have hxn : x * 1 ≤ x * n := Int.mul_le_mul_of_nonneg_left h1 x0.1
        simp
        omega
      · obtain ⟨m, hm⟩ : ∃ m, (mulB n xs ((x * n + c) / 10000)).length = m + 1 := ⟨_, (Nat.succ_pred_eq_of_pos h).symm⟩
        have := ih.2 h
        simpa [hm] using this
theorem timesB_ok {xs : List Int} {n : Int} (h1 : 1 ≤ n) (h2 : n ≤ 1000) (hx : OkB xs) (hl : (timesB xs n).length ≤ 120) : OkB (timesB xs n) := by
  have e : timesB xs n = mulB n xs 0 := by unfold timesB; rw [if_neg (by omega)]
  rw [e] at hl ⊢
  have := mulB_ok n h1 h2 xs 0 (by omega) (by omega) hx.2.1 hx.2.2
  exact ⟨hl, this.1, this.2⟩
theorem OkB_one : OkB [1] := by decide
/-- The power's groups, as long as there are at most 120. -/
def powB (b : Int) : Nat → Option (List Int)
  | 0 => some [1]
  | k + 1 => match powB b k with
    | none => none
    | some xs => if (timesB xs b).length ≤ 120 then some (timesB xs b) else none
theorem powB_ok {b : Int} (h1 : 1 ≤ b) (h2 : b ≤ 1000) : ∀ (k : Nat) (xs : List Int), powB b k = some xs → OkB xs
  | 0, xs, h => by unfold powB at h; cases h; exact OkB_one
  | k + 1, xs, h => by
    unfold powB at h
    split at h
    · cases h
    · next ys hy =>
      split at h
      · next hl => cases h; exact timesB_ok h1 h2 (powB_ok h1 h2 k ys hy) hl
      · cases h
theorem powB_none {b : Int} {k : Nat} (h : powB b k = none) : ∀ m, k ≤ m → powB b m = none
  | 0, hm => by have : k = 0 := by omega
                subst this; exact h
  | m + 1, hm => by
    rcases (show k = m + 1 ∨ k ≤ m from by omega) with rfl | h'
    · exact h
    · unfold powB; rw [powB_none h m h']
def PowR (b e : Int) : List Int × Bool :=
  if 1 ≤ b ∧ b ≤ 1000 ∧ 0 ≤ e ∧ e ≤ 2000 then (match powB b e.toNat with | none => ([], false) | some xs => (xs, true)) else ([], false)
/-- The comparison of two lists of groups of the same length, from the k-th down. -/
def cmpTo (xs ys : List Int) : Nat → Int
  | 0 => 0
  | k + 1 => if xs.getD k 0 < ys.getD k 0 then -1 else if ys.getD k 0 < xs.getD k 0 then 1 else cmpTo xs ys k
def cmpB (xs ys : List Int) : Int := if xs.length < ys.length then -1 else if ys.length < xs.length then 1 else cmpTo xs ys xs.length
def CmpR (xs ys : List Int) : Int := if OkB xs ∧ OkB ys then cmpB xs ys else 0
end Go.Proofs.YtjnhfgacgobfcaaDoor
