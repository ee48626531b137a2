/- What is asked of the program's SameMode and IsMirror (no row of theirs). -/
import Derived.Test.YtppbcjpabmllnaaModeFacts2
import Derived.Test.YtppbcjpabmllnaaCirOk
namespace Go.Proofs.Ytppbcjpabmllnaa
open Go.RowKit Go.Joins
set_option linter.unusedVariables false
def SmImpl : Prop := ∀ (xs ys : List Int) (y : Int), y = smF xs ys → ∀ (w : World) (b b' : Nat) (e e' : TypeId) (v v' : Value), xs.length ≤ 2000000 → ys.length ≤ 2000000 → w.ownsRow b e 1 v xs.length (intCs xs) → w.ownsRow b' e' 1 v' ys.length (intCs ys) →
    Calls Try.prog 14 #[cirV v, cirV v'] w fun en w' => en = .returned (.int .i64 y) ∧ Below w.heap.size w w'
end Go.Proofs.Ytppbcjpabmllnaa
