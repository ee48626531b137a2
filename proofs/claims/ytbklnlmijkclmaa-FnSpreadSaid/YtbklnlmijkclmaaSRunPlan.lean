/- Contracts of spec.RunPlan and spec.ClosingBeats. -/
import Derived.Deep.RegionHeld3
import Derived.Test.YtbklnlmijkclmaaSPlan
namespace Go.Proofs.Ytbklnlmijkclmaa
open Go.RowKit Go.Joins
set_option linter.unusedVariables false
/-- A row of ints and whether there is one. -/
def RowB (xs : List Int) (z : Bool) (w : World) (e : Ending) (w' : World) : Prop := ∃ v, e = .returned (.tuple #[v, .bool z]) ∧ w'.ownsRow w.heap.size 3 1 v xs.length (intCs xs) ∧ Below w.heap.size w w'
theorem good_step {xs : List Iv} {k : Nat} (h : PlOk xs) (hk : k < xs.length) : ∃ kd bt, ivAt xs k = ⟨(k : Int), (k : Int) + 1, kd, bt⟩ ∧ (kd = 1 ∨ kd = 2) ∧ 0 ≤ bt ∧ bt ≤ 5000 := by
  have q := h.2 k hk
  revert q
  generalize ivAt xs k = X
  rintro ⟨⟨h1, h2⟩, ⟨h3, h4⟩, h5⟩
  obtain ⟨f, t, kd, bt⟩ := X
  dsimp only at h1 h2 h3 h4 h5
  subst h1 h2
  exact ⟨kd, bt, rfl, by omega, h5⟩
theorem rowB_no {xs : List Int} {z : Bool} {w W : World} (hr : xs = [] ∧ z = false) (hW : Below w.heap.size w W) : RowB xs z w (.returned (.tuple #[.slice (some ⟨W.heap.size, 0, none⟩) 0 0, .bool false])) (W.alloc (.cells #[] 3)) := by
  obtain ⟨rfl, rfl⟩ := hr
  exact ⟨_, rfl, World.ownsRow_lit W #[] 0 hW.size (by unfold maxLen; omega) rfl, hW.alloc hW.size _⟩
theorem rowB_yes {xs L : List Int} {z : Bool} {w W : World} {v : Value} (hr : xs = L ∧ z = true) (hl : L.length = 12) (h : W.ownsRow w.heap.size 3 1 v 12 (intCs L)) (hW : Below w.heap.size w W) : RowB xs z w (.returned (.tuple #[v, .bool true])) W := by
  obtain ⟨rfl, rfl⟩ := hr
  exact ⟨_, rfl, by rw [hl]; exact h, hW⟩
theorem pit_start {s : Int} {w w1 : World} {g : Nat} {xs : List Iv} (hg : w.heap.size ≤ g) (h : w1.ownsRow w.heap.size 3 1 (.slice (some ⟨g, 0, none⟩) 12 12) 12 (madeCells (Value.int .i64 0).cells (12 * 1)).toList) (hb : Below w.heap.size w w1) :
    (w1.cell? ⟨g, 0, none⟩ = some (.int .i64 0) ∧ w1.frozen? ⟨g, 0, none⟩ = false) ∧ (w1.setCell ⟨g, 0, none⟩ (.int .i64 s)).ownsRow w.heap.size 3 1 (.slice (some ⟨g, 0, none⟩) 12 12) 12 (intCs (pitL s xs 0)) ∧ Below w.heap.size w (w1.setCell ⟨g, 0, none⟩ (.int .i64 s)) := by
  have e : (madeCells (Value.int .i64 0).cells (12 * 1)).toList = intCs (List.replicate 12 0) := by simp [Value.cells, toList_madeCells_one, intCs]
  rw [e] at h
  have h2 := (h.stored 0 (.int .i64 s)).1
  have e2 : (intCs (List.replicate 12 (0 : Int))).set 0 (.int .i64 s) = intCs (pitL s xs 0) := by simp [intCs, pitL, pitK, List.range, List.range.loop, List.replicate]
  rw [e2] at h2
  exact ⟨⟨own_icell h 0 (by omega), h.frozenAt 0⟩, h2, hb.setCell (p := ⟨g, 0, none⟩) (by simp only; omega) _⟩
theorem intCs_set (xs : List Int) (i : Nat) (x : Int) : (intCs xs).set i (.int .i64 x) = intCs (xs.set i x) := by simp [intCs, List.map_set]
theorem run_bad0 {s : Int} {xs : List Iv} {k : Nat} (hk : k < xs.length) (h : pitK s xs (k + 1) = 0) : ¬ RunOk s xs := fun q => q.2 k hk h
end Go.Proofs.Ytbklnlmijkclmaa
