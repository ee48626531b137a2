/- What the laws of plans ask of KeysTuned and laws.has; one number of a row. -/
import Derived.Test.YtbklnlmijkclmaaPlanImpl
import Derived.Test.YtbklnlmijkclmaaHasInts
namespace Go.Proofs.Ytbklnlmijkclmaa
open Go.RowKit Go.Joins
set_option linter.unusedVariables false
/-- laws.has answers z at the row v. -/
def KHas (V : World) (v : Value) (i : Int) (z : Bool) : Prop := Calls Try.prog 17 #[v, .int .i64 i] V fun e w' => e = .returned (.bool z) ∧ Below V.heap.size V w'
theorem khas_run {W V : World} {v : Value} {i : Int} {z : Bool} (hW : Below W.heap.size W V) (hq : KHas V v i z) : Calls Try.prog 17 #[v, .int .i64 i] V fun e w' => e = .returned (.bool z) ∧ Below W.heap.size W w' := calls_fromF hW hq
/-- What KeysTuned answers, as the law asks it. -/
def KeysAt (f : FuncId) (v : Value) (ks : List Int) (W : World) : Prop := ∀ X, Below W.heap.size W X → Calls Try.prog f #[v] X fun e w' => ∃ u, e = .returned u ∧ w'.ownsRow X.heap.size 3 1 u ks.length (intCs ks) ∧ Below X.heap.size X w'
theorem keysAt_run {f : FuncId} {v : Value} {ks : List Int} {W X : World} {i : Int} {z : Bool} (h : KeysAt f v ks W) (hl : ks.length ≤ 2000000) (hz : decide (i ∈ ks) = z) (hb : Below W.heap.size W X) :
    Calls Try.prog f #[v] X fun e w' => ∃ u, e = .returned u ∧ KHas w' u i z ∧ Below W.heap.size W w' := by
  refine (h X hb).mono ?_
  rintro e w' ⟨u, rfl, o, b⟩
  refine ⟨u, rfl, ?_, hb.trans (b.mono hb.size)⟩
  have k := has_any w' _ _ u ks i hl o
  rw [hz] at k
  exact k
/-- One number of a row. -/
def OneL (g i : Nat) (x : Int) (w : World) : Prop := g < w.heap.size ∧ w.cell? ⟨g, i, none⟩ = some (.int .i64 x)
theorem oneL_keep {g i : Nat} {x : Int} {w w' : World} (hb : Below w.heap.size w w') (h : OneL g i x w) : OneL g i x w' := ⟨Nat.lt_of_lt_of_le h.1 hb.size, (hb.cell h.1).trans h.2⟩
theorem oneL_cell {g i : Nat} {x : Int} {w : World} (h : OneL g i x w) : w.cell? ⟨g, i, none⟩ = some (.int .i64 x) := h.2
end Go.Proofs.Ytbklnlmijkclmaa
