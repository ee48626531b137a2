/- What chapter 22 asks of the program, a definition each. Written by modelaws.py. -/
import Derived.Test.YtneblpplkidkfaaModeMath
import Derived.Test.YtneblpplkidkfaaEqCirLaw
namespace Go.Proofs.Ytneblpplkidkfaa
open Go.RowKit Go.Joins
set_option linter.unusedVariables false
/-- The program's CountModes answers as the model's. -/
def CntModeImpl : Prop := ∀ (xs : List Int) (y : Int), CntAt22 xs y → ∀ (w : World) (b : Nat) (e : TypeId) (v : Value), xs.length ≤ 2000000 → w.ownsRow b e 1 v xs.length (intCs xs) →
    Calls Try.prog 12 #[cirV v] w fun en w' => en = .returned (.int .i64 y) ∧ Below w.heap.size w w'
/-- The program's BrightestMode answers as the model's. -/
def BrightImpl : Prop := ∀ (xs : List Int) (y : Int), BrAt xs y → ∀ (w : World) (b : Nat) (e : TypeId) (v : Value), xs.length ≤ 2000000 → w.ownsRow b e 1 v xs.length (intCs xs) →
    Calls Try.prog 13 #[cirV v] w fun en w' => en = .returned (.int .i64 y) ∧ Below w.heap.size w w'
/-- The program's ModeOf answers as the model's. -/
def ModeImpl : Prop := ∀ (xs : List Int) (i : Int) (ys : List Int), ModAt xs i ys → ∀ (w : World) (b : Nat) (e : TypeId) (v : Value), xs.length ≤ 2000000 → w.ownsRow b e 1 v xs.length (intCs xs) →
    Calls Try.prog 11 #[cirV v, .int .i64 i] w (CirPost ys w)
/-- The program's ReverseScale answers as the model's. -/
def RevImpl : Prop := ∀ (xs : List Int) (ys : List Int), RevAt xs ys → ∀ (w : World) (b : Nat) (e : TypeId) (v : Value), xs.length ≤ 2000000 → w.ownsRow b e 1 v xs.length (intCs xs) →
    Calls Try.prog 18 #[cirV v] w (CirPost ys w)
end Go.Proofs.Ytneblpplkidkfaa
