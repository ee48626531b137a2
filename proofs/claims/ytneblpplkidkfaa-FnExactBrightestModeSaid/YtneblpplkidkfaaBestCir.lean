/- A valid circle in a box; the four parts above a key by spec.l13Sum, told without a look inside. -/
import Derived.Test.YtneblpplkidkfaaThirdParts
namespace Go.Proofs.Ytneblpplkidkfaa
open Go.RowKit Go.Joins
set_option linter.unusedVariables false
/-- The sum of the four parts above a key. -/
def keyC (xs : List Int) (x : Int) : Int := cycTo xs x.toNat 4
/-- A valid circle lies at block m, its parts at block q. -/
def CirBox (xs : List Int) (m q c : Nat) (w : World) : Prop := (m < w.heap.size ∧ q < w.heap.size) ∧ w.cell? ⟨m, 0, none⟩ = some (.slice (some ⟨q, 0, none⟩) 12 c) ∧ ∀ j, j < 12 → w.cell? ⟨q, j, none⟩ = some (.int .i64 (xs.getD j 0))
theorem cirBox_below {xs : List Int} {m q c B : Nat} {w w' : World} (h : CirBox xs m q c w) (hB : m < B ∧ q < B) (hb : Below B w w') (hs : B ≤ w.heap.size) : CirBox xs m q c w' :=
  ⟨⟨Nat.lt_of_lt_of_le hB.1 (Nat.le_trans hs hb.size), Nat.lt_of_lt_of_le hB.2 (Nat.le_trans hs hb.size)⟩, (hb.cell (p := ⟨m, 0, none⟩) hB.1).trans h.2.1, fun j hj => (hb.cell (p := ⟨q, j, none⟩) hB.2).trans (h.2.2 j hj)⟩
theorem cirBox_keep {xs : List Int} {m q c : Nat} {w w' : World} (h : CirBox xs m q c w) (hb : Below w.heap.size w w') : CirBox xs m q c w' := cirBox_below h h.1 hb (Nat.le_refl _)
theorem cirBox_cell {xs : List Int} {m q c : Nat} {w : World} (h : CirBox xs m q c w) : w.cell? ⟨m, 0, none⟩ = some (.slice (some ⟨q, 0, none⟩) 12 c) := h.2.1
/-- The key of a place, as both sides reckon it. -/
theorem keyC_nat (xs : List Int) (a : Nat) : keyC xs (a : Int) = cycTo xs a 4 := by unfold keyC; rw [Int.toNat_natCast]
end Go.Proofs.Ytneblpplkidkfaa
