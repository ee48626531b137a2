/- A row of intervals in a block of the call's own, sorted in place: what is kept, an exchange, a comparison. -/
import Derived.Test.YtbklnlmijkclmaaSortMath
import Derived.Test.YtbklnlmijkclmaaCompareTone
import Derived.Test.YtbklnlmijkclmaaIvRows
namespace Go.Proofs.Ytbklnlmijkclmaa
open Go.RowKit Go.Joins
set_option linter.unusedVariables false
/-- The elements at the places 0 to n - 1. -/
def rowL (n : Nat) (f : Nat → Iv) : List Iv := (List.range n).map f
theorem rowL_len (n : Nat) (f : Nat → Iv) : (rowL n f).length = n := by simp [rowL]
theorem rowL_at {n i : Nat} (f : Nat → Iv) (h : i < n) : ivAt (rowL n f) i = f i := by simp [ivAt, rowL, h]
theorem rowL_set {n j : Nat} (f : Nat → Iv) (x : Iv) (h : j < n) : (rowL n f).set j x = rowL n (fun t => if t = j then x else f t) := by
  refine List.ext_getElem (by simp [rowL]) fun i h1 h2 => ?_
  simp only [rowL, List.getElem_set, List.getElem_map, List.getElem_range]
  by_cases hij : j = i
  · subst hij; simp
  · rw [if_neg hij, if_neg (fun h => hij h.symm)]
theorem rowL_congr {n : Nat} {f f' : Nat → Iv} (h : ∀ t, t < n → f t = f' t) : rowL n f = rowL n f' := by
  refine List.ext_getElem (by simp [rowL]) fun i h1 h2 => ?_
  simp only [rowL, List.getElem_map, List.getElem_range]
  exact h i (by simpa [rowL] using h1)
/-- The four cells of the element at a place. -/
def Cell4 (g o : Nat) (x : Iv) (w : World) : Prop := w.cell? ⟨g, o, none⟩ = some (.int .i64 x.two) ∧ w.cell? ⟨g, o + 1, none⟩ = some (.int .i64 x.three) ∧ w.cell? ⟨g, o + 2, none⟩ = some (.int .i64 x.five) ∧ w.cell? ⟨g, o + 3, none⟩ = some (.int .i64 x.root)
/-- Four stores. -/
def put4 (w : World) (g o : Nat) (x : Iv) : World := (((w.setCell ⟨g, o, none⟩ (.int .i64 x.two)).setCell ⟨g, o + 1, none⟩ (.int .i64 x.three)).setCell ⟨g, o + 2, none⟩ (.int .i64 x.five)).setCell ⟨g, o + 3, none⟩ (.int .i64 x.root)
end Go.Proofs.Ytbklnlmijkclmaa
/- Keys in the order of the comparison; a comparison of two elements of a row. -/
namespace Go.Proofs.Ytbklnlmijkclmaa
open Go.RowKit Go.Joins
set_option linter.unusedVariables false
/-- Of the elements of the row, one is less than another just if its key is. -/
def Keyd (key : Iv → Int) (n : Nat) (f : Nat → Iv) : Prop := ∀ s t, s < n → t < n → (cmpV (f s) (f t) < 0 ↔ key (f s) < key (f t))
theorem Keyd.mv {key : Iv → Int} {n a b : Nat} {f f' : Nat → Iv} (h : Keyd key n f) (hv : MV a b f f') (hb : b ≤ n) : Keyd key n f' := fun s t hs ht => by
  have v := hv.mono (Nat.zero_le a) hb
  obtain ⟨u, _, u2, u3⟩ := v.into (Nat.zero_le s) hs
  obtain ⟨x, _, x2, x3⟩ := v.into (Nat.zero_le t) ht
  rw [u3, x3]
  exact h u x u2 x2
/-- Two elements of a row. -/
def Row2 (g o p : Nat) (X Y : Iv) (w : World) : Prop := g < w.heap.size ∧ Cell4 g o X w ∧ Cell4 g p Y w
theorem row2_keep {W w : World} {g o p : Nat} {X Y : Iv} (hb : Below W.heap.size W w) (h : Row2 g o p X Y W) : Row2 g o p X Y w := by
  obtain ⟨hg, ⟨x0, x1, x2, x3⟩, ⟨y0, y1, y2, y3⟩⟩ := h
  exact ⟨Nat.lt_of_lt_of_le hg hb.size, ⟨(hb.cell hg).trans x0, (hb.cell hg).trans x1, (hb.cell hg).trans x2, (hb.cell hg).trans x3⟩, ⟨(hb.cell hg).trans y0, (hb.cell hg).trans y1, (hb.cell hg).trans y2, (hb.cell hg).trans y3⟩⟩
theorem row2_drew {w : World} {g o p : Nat} {X Y : Iv} (h : Row2 g o p X Y w) : Row2 g o p X Y w.drew := h
theorem row2_cells {w : World} {g o p : Nat} {X Y : Iv} (h : Row2 g o p X Y w) : w.cell? ⟨g, o, none⟩ = some (.int .i64 X.two) ∧ w.cell? ⟨g, o + 1, none⟩ = some (.int .i64 X.three) ∧ w.cell? ⟨g, o + 2, none⟩ = some (.int .i64 X.five) ∧ w.cell? ⟨g, o + 3, none⟩ = some (.int .i64 X.root) ∧ w.cell? ⟨g, p, none⟩ = some (.int .i64 Y.two) ∧ w.cell? ⟨g, p + 1, none⟩ = some (.int .i64 Y.three) ∧ w.cell? ⟨g, p + 2, none⟩ = some (.int .i64 Y.five) ∧ w.cell? ⟨g, p + 3, none⟩ = some (.int .i64 Y.root) :=
  ⟨h.2.1.1, h.2.1.2.1, h.2.1.2.2.1, h.2.1.2.2.2, h.2.2.1, h.2.2.2.1, h.2.2.2.2.1, h.2.2.2.2.2⟩
end Go.Proofs.Ytbklnlmijkclmaa
