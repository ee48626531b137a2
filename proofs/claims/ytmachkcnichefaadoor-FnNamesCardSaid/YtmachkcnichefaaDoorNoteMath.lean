/- The names of the notes: the text of a number, and the number of a text. -/
import Derived.Test.YtmachkcnichefaaDoorNameWalks
import Derived.Lib.Repeat
namespace Go.Proofs.YtmachkcnichefaaDoor
open Go.RowKit
set_option linter.unusedVariables false
/-- The letters. -/
def letTab : List (List UInt8) := [[67], [68], [69], [70], [71], [65], [66]]
/-- The letter of a place. -/
def letB (k : Nat) : List UInt8 := letTab.getD k []
/-- NoteName. -/
def nameL (n : Int) : List UInt8 := if HasN n then letB (letN n).toNat ++ Lib.repeatL [35] (accN n).toNat ++ Lib.repeatL [98] (-accN n).toNat else []
theorem nameL_yes {n : Int} (h : HasN n) : nameL n = letB (letN n).toNat ++ Lib.repeatL [35] (accN n).toNat ++ Lib.repeatL [98] (-accN n).toNat := if_pos h
theorem nameL_no {n : Int} (h : ¬ HasN n) : nameL n = [] := if_neg h
theorem accN_bd {n : Int} (h : HasN n) : -2 ≤ accN n ∧ accN n ≤ 2 := by rw [accN_yes h]; have := h.1; have := h.2; omega
theorem hasN_nat {n : Int} (h : HasN n) : ∃ k : Nat, k < 35 ∧ n = (k : Int) - 15 := ⟨(n + 15).toNat, by have := h.1; have := h.2; omega, by have := h.1; omega⟩
theorem name_all : ∀ a, a < 35 → ∀ b, b < 35 → nameL ((a : Nat) - 15 : Int) = nameL ((b : Nat) - 15 : Int) → a = b := by decide +kernel
theorem name_inj {n m : Int} (h : HasN n) (h' : HasN m) (e : nameL n = nameL m) : n = m := by
  obtain ⟨a, ha, rfl⟩ := hasN_nat h
  obtain ⟨b, hb, rfl⟩ := hasN_nat h'
  rw [name_all a ha b hb e]
theorem name_len (n : Int) : (nameL n).length ≤ 3 := by
  by_cases h : HasN n
  · obtain ⟨a, ha, rfl⟩ := hasN_nat h
    clear h
    revert a
    decide +kernel
  · rw [nameL_no h]; simp
/-- What NoteNumber answers, told without a look inside. -/
def NumAt (s : List UInt8) (n : Int) (y : Bool) : Prop := (y = true ∧ HasN n ∧ nameL n = s) ∨ (y = false ∧ n = 0 ∧ ∀ m, HasN m → nameL m ≠ s)
theorem numAt_ex (s : List UInt8) : ∃ n y, NumAt s n y := by
  by_cases h : ∃ m, HasN m ∧ nameL m = s
  · obtain ⟨m, h1, h2⟩ := h
    exact ⟨m, true, Or.inl ⟨rfl, h1, h2⟩⟩
  · exact ⟨0, false, Or.inr ⟨rfl, rfl, fun m h1 h2 => h ⟨m, h1, h2⟩⟩⟩
theorem numAt_hit {s : List UInt8} {n i : Int} {y : Bool} (h : NumAt s n y) (hi : HasN i) (e : nameL i = s) : n = i ∧ y = true := by
  rcases h with ⟨h1, h2, h3⟩ | ⟨_, _, h3⟩
  · exact ⟨name_inj h2 hi (h3.trans e.symm), h1⟩
  · exact absurd e (h3 i hi)
theorem numAt_end {s : List UInt8} {n : Int} {y : Bool} (h : NumAt s n y) (hn : ∀ m, HasN m → nameL m ≠ s) : n = 0 ∧ y = false := by
  rcases h with ⟨h1, h2, h3⟩ | ⟨h1, h2, _⟩
  · exact absurd h3 (hn n h2)
  · exact ⟨h2, h1⟩
theorem numAt_own {n : Int} (h : HasN n) : NumAt (nameL n) n true := Or.inl ⟨rfl, h, rfl⟩
end Go.Proofs.YtmachkcnichefaaDoor
