/- What chapter 21 asks of the program, a definition each. Written by scalelaws.py. -/
import Derived.Test.YtppbcjpabmllnaaScMath
import Derived.Test.YtppbcjpabmllnaaEqCirLaw
namespace Go.Proofs.Ytppbcjpabmllnaa
open Go.RowKit Go.Joins
set_option linter.unusedVariables false
/-- The program's ScaleOk answers as the model's. -/
def ScOkImpl : Prop := ∀ (xs : List Int) (y : Bool), ScAt xs y → ∀ (w : World) (b : Nat) (e : TypeId) (v : Value), xs.length ≤ 2000000 → w.ownsRow b e 1 v xs.length (intCs xs) →
    Calls Try.prog 31 #[cirV v] w fun en w' => en = .returned (.bool y) ∧ Below w.heap.size w w'
/-- The program's ScaleSum answers as the model's. -/
def ScSumImpl : Prop := ∀ (xs : List Int) (y : Int), SumAt21 xs y → ∀ (w : World) (b : Nat) (e : TypeId) (v : Value), xs.length ≤ 2000000 → w.ownsRow b e 1 v xs.length (intCs xs) →
    Calls Try.prog 11 #[cirV v] w fun en w' => en = .returned (.int .i64 y) ∧ Below w.heap.size w w'
/-- The program's HasTwoSizes answers as the model's. -/
def TwoImpl : Prop := ∀ (xs : List Int) (y : Bool), TwoAt xs y → ∀ (w : World) (b : Nat) (e : TypeId) (v : Value), xs.length ≤ 2000000 → w.ownsRow b e 1 v xs.length (intCs xs) →
    Calls Try.prog 15 #[cirV v] w fun en w' => en = .returned (.bool y) ∧ Below w.heap.size w w'
/-- The program's SpanAt answers as the model's. -/
def SpanImpl : Prop := ∀ (xs : List Int) (i k y : Int), SpanAt21 xs i k y → ∀ (w : World) (b : Nat) (e : TypeId) (v : Value), xs.length ≤ 2000000 → w.ownsRow b e 1 v xs.length (intCs xs) →
    Calls Try.prog 50 #[cirV v, .int .i64 i, .int .i64 k] w fun en w' => en = .returned (.int .i64 y) ∧ Below w.heap.size w w'
/-- The program's SpansOf answers as the model's. -/
def SpansImpl : Prop := ∀ (xs : List Int) (i : Int) (ys : List Int), SpsAt xs i ys → ∀ (w : World) (b : Nat) (e : TypeId) (v : Value), xs.length ≤ 2000000 → w.ownsRow b e 1 v xs.length (intCs xs) →
    Calls Try.prog 36 #[cirV v, .int .i64 i] w (OwnPost 3 ys w)
end Go.Proofs.Ytppbcjpabmllnaa
