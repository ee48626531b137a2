/- Contract of spec.GreatestOf over a row of intervals that the call owns. -/
import Derived.Test.YtbckbmcnakedcaaDoorGreatest
import Derived.Test.YtbckbmcnakedcaaDoorSCompareTone
import Derived.Test.YtbckbmcnakedcaaDoorTakeD
import Derived.Test.YtbckbmcnakedcaaDoorIvRows
namespace Go.Proofs.YtbckbmcnakedcaaDoor
open Go.RowKit Go.Joins
set_option linter.unusedVariables false
theorem gList_inv {xs : List Iv} {k : Nat} (hk : k < xs.length) (h : okV (ivAt xs k) = false) : gList xs = -1 := by
  cases hg : gTo xs k with
  | none => exact gList_bad hg (by omega)
  | some g => exact gList_bad (gTo_bad hg (fun hh => by rw [h] at hh; exact absurd hh.1 (by simp))) hk
theorem gTo_first {xs : List Iv} (h : okV (ivAt xs 0) = true) : gTo xs 1 = some 0 := gTo_stay (k := 0) (g := 0) rfl ⟨h, h⟩ (by rw [(cmpV_zero h h).2 rfl]; omega)
def SCmpPick (a b c d e f g h x : Int) : Prop := ∀ w, Calls Tryd.prog 37 #[ivV a b c d, ivV e f g h] w fun en w' => en = .returned (.int .i64 x) ∧ Below w.heap.size w w'
theorem scmp_pick {a b c d e f g h x : Int} (hh : SCmpPick a b c d e f g h x) (w : World) : Calls Tryd.prog 37 #[ivV a b c d, ivV e f g h] w fun en w' => en = .returned (.int .i64 x) ∧ Below w.heap.size w w' := hh w
/-- Two elements of a row. -/
def El2 (g o p : Nat) (X Y : Iv) (w : World) : Prop := g < w.heap.size ∧ (w.cell? ⟨g, o, none⟩ = some (.int .i64 X.two) ∧ w.cell? ⟨g, o + 1, none⟩ = some (.int .i64 X.three) ∧ w.cell? ⟨g, o + 2, none⟩ = some (.int .i64 X.five) ∧ w.cell? ⟨g, o + 3, none⟩ = some (.int .i64 X.root)) ∧ (w.cell? ⟨g, p, none⟩ = some (.int .i64 Y.two) ∧ w.cell? ⟨g, p + 1, none⟩ = some (.int .i64 Y.three) ∧ w.cell? ⟨g, p + 2, none⟩ = some (.int .i64 Y.five) ∧ w.cell? ⟨g, p + 3, none⟩ = some (.int .i64 Y.root))
theorem el2_keep {W w : World} {g o p : Nat} {X Y : Iv} (hb : Below W.heap.size W w) (h : El2 g o p X Y W) : El2 g o p X Y w :=
  ⟨Nat.lt_of_lt_of_le h.1 hb.size, ⟨(hb.cell h.1).trans h.2.1.1, (hb.cell h.1).trans h.2.1.2.1, (hb.cell h.1).trans h.2.1.2.2.1, (hb.cell h.1).trans h.2.1.2.2.2⟩, ⟨(hb.cell h.1).trans h.2.2.1, (hb.cell h.1).trans h.2.2.2.1, (hb.cell h.1).trans h.2.2.2.2.1, (hb.cell h.1).trans h.2.2.2.2.2⟩⟩
theorem el2_drew {w : World} {g o p : Nat} {X Y : Iv} (h : El2 g o p X Y w) : El2 g o p X Y w.drew := h
theorem el2_cells {w : World} {g o p : Nat} {X Y : Iv} (h : El2 g o p X Y w) : w.cell? ⟨g, o, none⟩ = some (.int .i64 X.two) ∧ w.cell? ⟨g, o + 1, none⟩ = some (.int .i64 X.three) ∧ w.cell? ⟨g, o + 2, none⟩ = some (.int .i64 X.five) ∧ w.cell? ⟨g, o + 3, none⟩ = some (.int .i64 X.root) ∧ w.cell? ⟨g, p, none⟩ = some (.int .i64 Y.two) ∧ w.cell? ⟨g, p + 1, none⟩ = some (.int .i64 Y.three) ∧ w.cell? ⟨g, p + 2, none⟩ = some (.int .i64 Y.five) ∧ w.cell? ⟨g, p + 3, none⟩ = some (.int .i64 Y.root) := ⟨h.2.1.1, h.2.1.2.1, h.2.1.2.2.1, h.2.1.2.2.2, h.2.2⟩
end Go.Proofs.YtbckbmcnakedcaaDoor
