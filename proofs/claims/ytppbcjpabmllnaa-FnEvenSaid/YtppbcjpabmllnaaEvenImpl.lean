/- What chapter 23 asks of the program, a definition each. Written by evenlaws.py. -/
import Derived.Test.YtppbcjpabmllnaaSEven
import Derived.Test.YtppbcjpabmllnaaEqCirLaw
namespace Go.Proofs.Ytppbcjpabmllnaa
open Go.RowKit Go.Joins
set_option linter.unusedVariables false
theorem evnAt_ex (xs : List Int) : ∃ y, EvnAt xs y := ⟨_, rfl⟩
theorem unAt_ex (xs : List Int) : ∃ y, UnAt xs y := ⟨_, rfl⟩
/-- The program's IsEven answers as the model's. -/
def IsEvenImpl : Prop := ∀ (xs : List Int) (y : Bool), EvnAt xs y → ∀ (w : World) (b : Nat) (e : TypeId) (v : Value), xs.length ≤ 2000000 → w.ownsRow b e 1 v xs.length (intCs xs) →
    Calls Try.prog 12 #[cirV v] w fun en w' => en = .returned (.bool y) ∧ Below w.heap.size w w'
/-- The program's Unevenness answers as the model's. -/
def UnevenImpl : Prop := ∀ (xs : List Int) (y : Int), UnAt xs y → ∀ (w : World) (b : Nat) (e : TypeId) (v : Value), xs.length ≤ 2000000 → w.ownsRow b e 1 v xs.length (intCs xs) →
    Calls Try.prog 13 #[cirV v] w fun en w' => en = .returned (.int .i64 y) ∧ Below w.heap.size w w'
/-- The program's EvenScale answers as the model's. -/
def EvScImpl : Prop := ∀ (c s : Int) (ys : List Int), EsAt c s ys → ∀ (w : World), Calls Try.prog 10 #[.int .i64 c, .int .i64 s] w (CirPost ys w)
/-- The program's EvenPlaces answers as the model's. -/
def PlacesImpl : Prop := ∀ (c s : Int) (ys : List Int), EvAt c s ys → ∀ (w : World), Calls Try.prog 17 #[.int .i64 c, .int .i64 s] w (OwnPost 3 ys w)
end Go.Proofs.Ytppbcjpabmllnaa
