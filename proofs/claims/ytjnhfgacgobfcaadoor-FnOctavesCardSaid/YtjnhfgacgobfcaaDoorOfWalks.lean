/- Contracts of spec.BigOf and impl.BigOf, and the walk of laws.FnExactBigOf. -/
import Derived.Test.YtjnhfgacgobfcaaDoorEqInts
import Derived.Test.YtjnhfgacgobfcaaDoorBigMath
import Derived.Laws.AppendOwn
namespace Go.Proofs.YtjnhfgacgobfcaaDoor
open Go.RowKit
set_option linter.unusedVariables false
theorem own_zero_lit (w : World) (T : TypeId) : (w.alloc (.cells #[] T)).ownsRow w.heap.size T 1 (.slice (some ⟨w.heap.size, 0, none⟩) 0 0) ([] : List Int).length (intCs []) :=
  World.ownsRow_lit w #[] 0 (Nat.le_refl _) (by unfold maxLen; omega) rfl
theorem isnoc {w1 : World} {B : Nat} {e : TypeId} {v : Value} {l : List Int} {n : Nat} {y : Int} (hn : n = l.length) (h : w1.ownsRow B e 1 v (n + 1) (intCs l ++ #[Value.int .i64 y].toList)) : w1.ownsRow B e 1 v (l ++ [y]).length (intCs (l ++ [y])) := by
  subst hn
  rw [intCs_app, List.length_append]
  exact h
end Go.Proofs.YtjnhfgacgobfcaaDoor
