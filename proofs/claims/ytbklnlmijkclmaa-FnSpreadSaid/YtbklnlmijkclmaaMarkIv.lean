/- Contracts of laws.markIntervalS and laws.heldIntervalS: only the slice's own block is written. -/
import Derived.Test.YtbklnlmijkclmaaSortBase
import Derived.Deep.DeepCutAuto
namespace Go.Proofs.Ytbklnlmijkclmaa
open Go.RowKit Go.Joins
set_option linter.unusedVariables false
theorem grownV_set {w w' : World} {b : Nat} (h : w.grownBy w' (some b)) (j : Nat) (v : Value) : w.grownBy (w'.setCell ⟨b, j, none⟩ v) (some b) :=
  ⟨h.os, h.tape, h.output, by have := h.size; simpa using this, fun k hk hne => by rw [Below.heap_setCell _ _ _ _ (fun e => hne (by rw [e]))]; exact h.block k hk hne⟩
/-- The numbers that mark element j. -/
def markI (k0 : Int) (j : Nat) : Iv := ⟨k0 + 4 * j, k0 + 4 * j + 1, k0 + 4 * j + 2, k0 + 4 * j + 3⟩
theorem own_put4 {w : World} {B g cap n : Nat} {e : TypeId} {f : Nat → Iv} (h : w.ownsRow B e 4 (.slice (some ⟨g, 0, none⟩) n cap) n (ivCs (rowL n f))) {i : Nat} (hi : i < n) (x : Iv) :
    (put4 w g (i * 4) x).ownsRow B e 4 (.slice (some ⟨g, 0, none⟩) n cap) n (ivCs (rowL n (fun t => if t = i then x else f t))) := by
  have s1 := h.stored (i * 4) (.int .i64 x.two)
  have s2 := s1.1.stored (i * 4 + 1) (.int .i64 x.three)
  have s3 := s2.1.stored (i * 4 + 2) (.int .i64 x.five)
  have s4 := s3.1.stored (i * 4 + 3) (.int .i64 x.root)
  have k := s4.1
  rw [ivCs_set _ _ _ (by rw [rowL_len]; exact hi), rowL_set f x hi] at k
  exact k
theorem set_step {W : World} {g o o' : Nat} {v y : Value} (hc : W.cell? ⟨g, o', none⟩ = some y) (ho : o ≠ o') (hf : ∀ o, W.frozen? ⟨g, o, none⟩ = false) :
    ∃ X, X = W.setCell ⟨g, o, none⟩ v ∧ X.cell? ⟨g, o', none⟩ = some y ∧ ∀ o, X.frozen? ⟨g, o, none⟩ = false :=
  ⟨_, rfl, by rw [World.cell?_setCell_other _ _ _ _ (fun e => ho (by injection e))]; exact hc, fun o => by rw [World.frozen?_setCell]; exact hf o⟩
theorem set_keep {W : World} {g o o' : Nat} {v y : Value} (hc : W.cell? ⟨g, o', none⟩ = some y) (ho : o ≠ o') : (W.setCell ⟨g, o, none⟩ v).cell? ⟨g, o', none⟩ = some y := by
  rw [World.cell?_setCell_other _ _ _ _ (fun e => ho (by injection e))]; exact hc
/-- j elements are marked. -/
def markTo (k0 : Int) (j : Nat) (f : Nat → Iv) : Nat → Iv := fun t => if t < j then markI k0 t else f t
theorem markTo_step (k0 : Int) (j : Nat) (f : Nat → Iv) : (fun t => if t = j then markI k0 j else markTo k0 j f t) = markTo k0 (j + 1) f := by
  funext t; unfold markTo
  by_cases e : t = j
  · rw [if_pos e, if_pos (by omega), e]
  · rw [if_neg e]
    by_cases e2 : t < j
    · rw [if_pos e2, if_pos (by omega)]
    · rw [if_neg e2, if_neg (by omega)]
end Go.Proofs.Ytbklnlmijkclmaa
