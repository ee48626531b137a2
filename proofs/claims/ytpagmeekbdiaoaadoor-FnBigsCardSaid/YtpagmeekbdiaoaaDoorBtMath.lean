/- The decimal text of a large number, as a list of bytes; no Go in it. -/
import Derived.Test.YtpagmeekbdiaoaaDoorBigMath
import Derived.Test.YtpagmeekbdiaoaaDoorParMath
import Derived.Lib.ItoaLen
import Derived.Lib.ItoaNum
namespace Go.Proofs.YtpagmeekbdiaoaaDoor
open Go.RowKit
set_option linter.unusedVariables false
/-- The four figures of a group. -/
def figs (x : Int) : List UInt8 := (Lib.itoa (10000 + x)).drop 1
/-- The groups below the j-th, the highest one first. -/
def btLow (xs : List Int) : Nat → List UInt8
  | 0 => []
  | j + 1 => figs (xs.getD j 0) ++ btLow xs j
def btV (xs : List Int) : List UInt8 := if xs.length = 0 then [48] else Lib.itoa (xs.getD (xs.length - 1) 0) ++ btLow xs (xs.length - 1)
def BtR (xs : List Int) : List UInt8 := if OkB xs then btV xs else []
/-- What is written so far, and what is left. -/
def BtTo (xs : List Int) (j : Nat) (acc : List UInt8) : Prop := acc ++ btLow xs j = btV xs ∧ acc.length ≤ 100 * (xs.length - j) ∧ j < xs.length
theorem btTo_start {xs : List Int} (h : 0 < xs.length) (hb : ∀ i, i < xs.length → 0 ≤ xs.getD i 0 ∧ xs.getD i 0 ≤ 9999) : BtTo xs (xs.length - 1) (Lib.itoa (xs.getD (xs.length - 1) 0)) := by
  refine ⟨by unfold btV; rw [if_neg (by omega)], ?_, by omega⟩
  have h1 := hb (xs.length - 1) (by omega)
  have := Lib.itoa_length_le (xs.getD (xs.length - 1) 0) (by omega) (by omega)
  omega
theorem btTo_step {xs : List Int} {j : Nat} {acc : List UInt8} (h : BtTo xs (j + 1) acc) (hb : ∀ i, i < xs.length → 0 ≤ xs.getD i 0 ∧ xs.getD i 0 ≤ 9999) : BtTo xs j (acc ++ figs (xs.getD j 0)) := by
  obtain ⟨h1, h2, h3⟩ := h
  have h4 := hb j (by omega)
  have h5 := Lib.itoa_length_le (10000 + xs.getD j 0) (by omega) (by omega)
  refine ⟨by rw [List.append_assoc]; exact h1, ?_, by omega⟩
  rw [List.length_append]
  have : (figs (xs.getD j 0)).length ≤ 100 := by unfold figs; rw [List.length_drop]; omega
  have e : 100 * (xs.length - j) = 100 * (xs.length - (j + 1)) + 100 := by omega
  omega
theorem btTo_end {xs : List Int} {acc : List UInt8} (h : BtTo xs 0 acc) : acc = btV xs := by
  have := h.1
  simpa [btLow] using this
theorem btTo_len {xs : List Int} {j : Nat} {acc : List UInt8} (h : BtTo xs j acc) (hx : xs.length ≤ 120) : acc.length ≤ 12000 := by
  have := h.2.1
  omega
theorem btV_zero {xs : List Int} (h : xs.length = 0) : btV xs = [48] := by unfold btV; rw [if_pos h]
theorem itoa_pos (n : Int) : 1 ≤ (Lib.itoa n).length := by
  have : ¬ Lib.itoa n = [] := by unfold Lib.itoa; split <;> simp [dec_ne]
  cases h : Lib.itoa n with
  | nil => exact absurd h this
  | cons a l => simp
end Go.Proofs.YtpagmeekbdiaoaaDoor
