/- Contracts of laws.toIntS, laws.markIntS and laws.heldIntS. -/
import Derived.Test.YtgoaofkbegfinaaProg
import Derived.Test.YtgoaofkbegfinaaIntRows
import Derived.WalkKit
import Derived.Lib.Hide
import Derived.Laws.OwnMore
import Derived.Deep.QuietTactic
import Derived.BigQuiet
import Derived.Deep.AppendLies
namespace Go.Proofs.Ytgoaofkbegfinaa
open Go.RowKit
set_option linter.unusedVariables false
end Go.Proofs.Ytgoaofkbegfinaa
/- Contract of laws.markIntS: only the slice's own block is written. -/
namespace Go.Proofs.Ytgoaofkbegfinaa
open Go.RowKit
set_option linter.unusedVariables false
theorem grownI_set {w w' : World} {b : Nat} (h : w.grownBy w' (some b)) (j : Nat) (v : Value) : w.grownBy (w'.setCell ⟨b, j, none⟩ v) (some b) :=
  ⟨h.os, h.tape, h.output, by have := h.size; simpa using this, fun k hk hne => by rw [Below.heap_setCell _ _ _ _ (fun e => hne (by rw [e]))]; exact h.block k hk hne⟩
end Go.Proofs.Ytgoaofkbegfinaa
