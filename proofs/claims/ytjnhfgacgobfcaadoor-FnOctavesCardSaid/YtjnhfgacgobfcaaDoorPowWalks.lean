/- Contracts of impl.PowerBig and spec.PowerBig. -/
import Derived.Test.YtjnhfgacgobfcaaDoorSTimesWalks
namespace Go.Proofs.YtjnhfgacgobfcaaDoor
open Go.RowKit
set_option linter.unusedVariables false
theorem powR_no {b e : Int} (h : ¬ (1 ≤ b ∧ b ≤ 1000 ∧ 0 ≤ e ∧ e ≤ 2000)) : PowR b e = ([], false) := by unfold PowR; rw [if_neg h]
theorem powR_long {b : Int} {e k : Nat} (hk : k ≤ e) (h : powB b k = none) : PowR b e = ([], false) := by
  unfold PowR
  rw [Int.toNat_natCast, powB_none h e hk]
  split <;> rfl
theorem powR_yes {b : Int} {e : Nat} {xs : List Int} (h1 : 1 ≤ b) (h2 : b ≤ 1000) (h3 : e ≤ 2000) (h : powB b e = some xs) : PowR b e = (xs, true) := by
  unfold PowR
  rw [Int.toNat_natCast, h, if_pos (by omega)]
theorem powB_next {b : Int} {k : Nat} {xs : List Int} (h : powB b k = some xs) (hl : (timesB xs b).length ≤ 120) : powB b (k + 1) = some (timesB xs b) := by
  unfold powB; rw [h]; simp only; rw [if_pos hl]
theorem powB_over {b : Int} {k : Nat} {xs : List Int} (h : powB b k = some xs) (hl : ¬ (timesB xs b).length ≤ 120) : powB b (k + 1) = none := by
  unfold powB; rw [h]; simp only; rw [if_neg hl]
theorem one_lit (w : World) (T : TypeId) : (w.alloc (.cells #[.int .i64 1] T)).ownsRow w.heap.size T 1 (.slice (some ⟨w.heap.size, 0, none⟩) 1 1) ([1] : List Int).length (intCs [1]) :=
  World.ownsRow_lit w #[.int .i64 1] 1 (Nat.le_refl _) (by unfold maxLen; omega) rfl
theorem zero_lit2 (w : World) (o : Obj) (T : TypeId) : ((w.alloc o).alloc (.cells #[] T)).ownsRow w.heap.size T 1 (.slice (some ⟨w.heap.size + 1, 0, none⟩) 0 0) ([] : List Int).length (intCs []) := by
  have e : (w.alloc o).heap.size = w.heap.size + 1 := by simp
  have h := own_zero_lit (w.alloc o) T
  rw [e] at h
  exact own_lower h (by omega)
theorem powR_len (b e : Int) : (PowR b e).1.length ≤ 120 := by
  unfold PowR
  split
  · next h =>
    split
    · simp
    · next xs hx => exact (powB_ok h.1 h.2.1 _ xs hx).1
  · simp
end Go.Proofs.YtjnhfgacgobfcaaDoor
