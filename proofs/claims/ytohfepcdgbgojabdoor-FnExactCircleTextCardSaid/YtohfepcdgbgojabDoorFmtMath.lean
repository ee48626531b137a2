/- Plain facts on decimal text, without any Go text. -/
import Derived.Lib.ItoaNum
import Derived.Lib.ItoaLen
import Derived.Laws.Concat
import Derived.Test.YtohfepcdgbgojabDoorHexMath
namespace Go.Proofs.YtohfepcdgbgojabDoor
open Go.RowKit
/-- The digits of u put ahead of acc, the last digit first (nothing for 0). -/
def fmtAcc (u : Nat) (acc : List UInt8) : List UInt8 :=
  if h : u = 0 then acc else fmtAcc (u / 10) (UInt8.ofNat (48 + u % 10) :: acc)
termination_by u
decreasing_by omega
theorem fmtAcc_zero (acc : List UInt8) : fmtAcc 0 acc = acc := by rw [fmtAcc, dif_pos rfl]
theorem fmtAcc_step (u : Nat) (acc : List UInt8) (h : u ≠ 0) : fmtAcc u acc = fmtAcc (u / 10) (UInt8.ofNat (48 + u % 10) :: acc) := by rw [fmtAcc, dif_neg h]
theorem fmtAcc_dec : ∀ (u : Nat) (acc : List UInt8), u ≠ 0 → fmtAcc u acc = Lib.decDigits u ++ acc := by
  intro u
  induction u using Nat.strongRecOn with
  | _ u ih =>
    intro acc h
    rw [fmtAcc_step u acc h, Lib.decDigits]
    by_cases h10 : u < 10
    · rw [dif_pos h10, show u / 10 = 0 from by omega, fmtAcc_zero, show u % 10 = u from by omega]; rfl
    · rw [dif_neg h10, ih (u / 10) (by omega) _ (by omega)]; simp
theorem fmtAcc_len : ∀ (u : Nat) (acc : List UInt8), acc.length ≤ (fmtAcc u acc).length := by
  intro u
  induction u using Nat.strongRecOn with
  | _ u ih =>
    intro acc
    by_cases h : u = 0
    · subst h; rw [fmtAcc_zero]; exact Nat.le_refl _
    · rw [fmtAcc_step u acc h]
      exact Nat.le_trans (by simp) (ih (u / 10) (by omega) _)
/-- What is left to write, u, and what is written, acc, make up the text of m. -/
def FmtTo (m u : Nat) (acc : List UInt8) : Prop := fmtAcc u acc = Lib.decDigits m
theorem fmtTo_start (m : Nat) (h : m ≠ 0) : FmtTo m m [] := by unfold FmtTo; rw [fmtAcc_dec m [] h]; simp
theorem fmtTo_step {m u : Nat} {acc : List UInt8} (h : FmtTo m u acc) (hu : u ≠ 0) : FmtTo m (u / 10) (UInt8.ofNat (48 + u % 10) :: acc) := by unfold FmtTo at h ⊢; rw [← fmtAcc_step u acc hu]; exact h
theorem fmtTo_end {m : Nat} {acc : List UInt8} (h : FmtTo m 0 acc) : acc = Lib.decDigits m := by unfold FmtTo at h; rwa [fmtAcc_zero] at h
theorem fmtTo_len {m u : Nat} {acc : List UInt8} (h : FmtTo m u acc) (hm : m ≤ 9223372036854775808) : acc.length ≤ 21 := by
  have h1 := fmtAcc_len u acc
  unfold FmtTo at h
  rw [h] at h1
  rcases Nat.lt_or_ge m 9223372036854775808 with h2 | h2
  · have := Lib.itoa_length_le (m : Int) (by omega) (by omega)
    rw [Lib.itoa_nonneg] at this
    omega
  · obtain rfl : m = 9223372036854775808 := by omega
    have := Lib.itoa_length_le (-9223372036854775808) (by omega) (by omega)
    rw [show (-9223372036854775808 : Int) = -((9223372036854775808 : Nat) : Int) from by rfl, Lib.itoa_neg _ (by omega), List.length_cons] at this
    omega
theorem ret_str {a b : List UInt8} (h : a = b) : Ending.returned (.string ⟨a.toArray⟩) = .returned (.string ⟨b.toArray⟩) := by rw [h]
theorem str_cons (u : Nat) (acc : List UInt8) : Value.string (⟨#[48 + UInt8.ofNat (u % 10)]⟩ ++ ⟨acc.toArray⟩) = Value.string ⟨(UInt8.ofNat (48 + u % 10) :: acc).toArray⟩ := by
  have h := ByteArray.mk_append_mk [48 + UInt8.ofNat (u % 10)] acc
  have e : (48 : UInt8) + UInt8.ofNat (u % 10) = UInt8.ofNat (48 + u % 10) := by rw [UInt8.ofNat_add]; rfl
  rw [e] at h ⊢
  exact congrArg Value.string h
theorem neg_mod (u : Nat) : (-(u : Int)).tmod 10 = -((u : Int) % 10) := by rw [Int.neg_tmod, Int.tmod_eq_emod_of_nonneg (by omega)]
theorem neg_div (u : Nat) : (-(u : Int)).tdiv 10 = -((u : Int) / 10) := by rw [Int.neg_tdiv, Int.tdiv_eq_ediv_of_nonneg (by omega)]
end Go.Proofs.YtohfepcdgbgojabDoor
