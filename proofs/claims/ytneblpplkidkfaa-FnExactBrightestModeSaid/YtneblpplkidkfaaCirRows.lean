/- Rows of circles in memory of their own: a row of slices, each a row of ints in a block of its own; contracts of spec.l02Copy, laws.eqCircleS, laws.markCircleS and laws.heldCircleS. -/
import Derived.Test.YtneblpplkidkfaaEqCirLaw
import Derived.Test.YtneblpplkidkfaaCirOkLaw
import Derived.Maps.AppendAt
import Derived.Deep.RegionHeld3
import Derived.RangeFuncOwn
namespace Go.Proofs.Ytneblpplkidkfaa
open Go.RowKit Go.Joins
set_option linter.unusedVariables false
/-- The element at a place. -/
def uAt (us : List Value) (i : Nat) : Value := us.getD i (.slice none 0 0)
def lAt (L : List (List Int)) (i : Nat) : List Int := L.getD i []
theorem uAt_left {us vs : List Value} {i : Nat} (h : i < us.length) : uAt (us ++ vs) i = uAt us i := by
  unfold uAt; rw [List.getD_eq_getElem?_getD, List.getElem?_append_left h, ← List.getD_eq_getElem?_getD]
theorem uAt_right {us vs : List Value} {i : Nat} (h : us.length ≤ i) : uAt (us ++ vs) i = uAt vs (i - us.length) := by
  unfold uAt; rw [List.getD_eq_getElem?_getD, List.getElem?_append_right h, ← List.getD_eq_getElem?_getD]
theorem lAt_left {L M : List (List Int)} {i : Nat} (h : i < L.length) : lAt (L ++ M) i = lAt L i := by
  unfold lAt; rw [List.getD_eq_getElem?_getD, List.getElem?_append_left h, ← List.getD_eq_getElem?_getD]
theorem lAt_right {L M : List (List Int)} {i : Nat} (h : L.length ≤ i) : lAt (L ++ M) i = lAt M (i - L.length) := by
  unfold lAt; rw [List.getD_eq_getElem?_getD, List.getElem?_append_right h, ← List.getD_eq_getElem?_getD]
theorem intCs_oneC (xs : List Int) : ∀ u ∈ intCs xs, u.oneCell' = true := fun u hu => by
  unfold intCs at hu
  obtain ⟨x, _, rfl⟩ := List.mem_map.1 hu
  rfl
theorem add_noneC (g off i : Nat) : (⟨g, off, none⟩ : Addr).add i = ⟨g, off + i, none⟩ := by unfold Addr.add; split <;> simp_all
theorem row_cellsC {w : World} {B g cap : Nat} {e : TypeId} {xs : List Int} {n : Nat} (h : w.ownsRow B e 1 (.slice (some ⟨g, 0, none⟩) n cap) n (intCs xs)) : ∀ j u, (intCs xs)[j]? = some u → w.cell? ⟨g, j, none⟩ = some u := fun j u hu => by
  have hl := h.1
  have hj : j < n := by
    rcases Nat.lt_or_ge j n with q | q
    · exact q
    · rw [List.getElem?_eq_none (by omega)] at hu
      cases hu
  rw [h.cellAt j (by omega), hu]
/-- Two circles of two rows. -/
def TwoC (g m k : Nat) (u v : Value) (w : World) : Prop := (g < w.heap.size ∧ m < w.heap.size) ∧ w.cell? ⟨g, k, none⟩ = some u ∧ w.cell? ⟨m, k, none⟩ = some v
theorem twoC_keep {g m k : Nat} {u v : Value} {w w' : World} (hb : Below w.heap.size w w') (h : TwoC g m k u v w) : TwoC g m k u v w' :=
  ⟨⟨Nat.lt_of_lt_of_le h.1.1 hb.size, Nat.lt_of_lt_of_le h.1.2 hb.size⟩, (hb.cell h.1.1).trans h.2.1, (hb.cell h.1.2).trans h.2.2⟩
theorem twoC_cells {g m k : Nat} {u v : Value} {w : World} (h : TwoC g m k u v w) : w.cell? ⟨g, k, none⟩ = some u ∧ w.cell? ⟨m, k, none⟩ = some v := h.2
end Go.Proofs.Ytneblpplkidkfaa
/- Rows of circles: one circle more; what owns a row abides the turn of what is no row. -/
namespace Go.Proofs.Ytneblpplkidkfaa
open Go.RowKit Go.Joins
set_option linter.unusedVariables false
/-- What owns a row is a block of cells. -/
theorem row_cells {w : World} {base : Nat} {e : TypeId} {size : Nat} {v : Value} {n : Nat} {xs : List Value} (h : w.ownsRow base e size v n xs) : ∀ g, v.ownBlock = some g → ∃ o : Obj, w.heap[g]? = some o ∧ o.isCells = true := fun g e' => by
  rcases h.2 with ⟨h1, _⟩ | ⟨g', cap, cur, h1, _, hgb, _⟩
  · rw [h1] at e'; simp [Value.ownBlock] at e'
  · rw [h1] at e'
    obtain rfl : g' = g := by simpa [Value.ownBlock] using e'
    exact ⟨_, hgb, rfl⟩
theorem take_snoc {L : List (List Int)} {k : Nat} (hk : k < L.length) : L.take (k + 1) = L.take k ++ [lAt L k] := by
  have e : lAt L k = L[k] := by unfold lAt; rw [List.getD_eq_getElem?_getD, List.getElem?_eq_getElem hk]; rfl
  rw [e, List.take_add_one, List.getElem?_eq_getElem hk]
  rfl
end Go.Proofs.Ytneblpplkidkfaa
