/- The contracts asked of the program for the spread of errors. -/
import Derived.Test.YtbklnlmijkclmaaPlanImpl
import Derived.Test.YtbklnlmijkclmaaSMistune
import Derived.Test.YtbklnlmijkclmaaSErrB
import Derived.Test.YtbklnlmijkclmaaSAff
namespace Go.Proofs.Ytbklnlmijkclmaa
open Go.RowKit Go.Joins
set_option linter.unusedVariables false
def DepImpl : Prop := ∀ (key : Int) (_ : (Lit.int .i64 key).wf = true) (w : World) (b : Nat) (v : Value) (xs : List Iv), xs.length ≤ 2000000 → w.ownsRow b 32 4 v xs.length (ivCs xs) →
  Calls Try.prog 20 #[v, .int .i64 key] w fun en w' => en = .returned (.int .i64 (depV xs key)) ∧ Below w.heap.size w w'
def MisImpl : Prop := ∀ (a ch : Int) (w : World) (b : Nat) (v : Value) (xs : List Iv), xs.length ≤ 2000000 → w.ownsRow b 32 4 v xs.length (ivCs xs) →
  Calls Try.prog 14 #[v, .int .i64 a, .int .i64 ch] w (StB (misL xs a ch) (misB xs a ch) w)
def AffImpl : Prop := ∀ (a : Int) (w : World) (b : Nat) (v : Value) (xs : List Iv), xs.length ≤ 2000000 → w.ownsRow b 32 4 v xs.length (ivCs xs) →
  Calls Try.prog 16 #[v, .int .i64 a] w (OwnPost 3 (affL xs a) w)
def ErrImpl : Prop := ∀ (key wr : Int) (_ : (Lit.int .i64 key).wf = true) (w : World) (b : Nat) (v : Value) (xs : List Iv), xs.length ≤ 2000000 → w.ownsRow b 32 4 v xs.length (ivCs xs) →
  Calls Try.prog 19 #[v, .int .i64 key, .int .i64 wr] w fun en w' => en = .returned (.int .i64 (errV xs key wr)) ∧ Below w.heap.size w w'
def DeepImpl : Prop := ∀ (w : World) (b : Nat) (v : Value) (xs : List Iv), xs.length ≤ 2000000 → w.ownsRow b 32 4 v xs.length (ivCs xs) →
  Calls Try.prog 12 #[v] w fun en w' => en = .returned (.int .i64 (deepV xs)) ∧ Below w.heap.size w w'
end Go.Proofs.Ytbklnlmijkclmaa
