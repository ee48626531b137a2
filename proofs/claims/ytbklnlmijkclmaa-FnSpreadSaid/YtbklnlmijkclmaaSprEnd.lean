/- The laws of the spread of errors, walked whole. -/
import Derived.Test.YtbklnlmijkclmaaSpreadCode
import Derived.Test.YtbklnlmijkclmaaSprLaw
import Derived.Test.YtbklnlmijkclmaaSpreadLaw
import Derived.Test.YtbklnlmijkclmaaDepthsLaw
namespace Go.Proofs.Ytbklnlmijkclmaa
open Go.RowKit Go.Joins
set_option linter.unusedVariables false
theorem walk_FnExactDepthOf (a : Option Addr) (len cap : Nat) (xs : List Iv) (a1 : Int) (w : World) (hr : IvRow w a len xs) (h1 : (Lit.int .i64 a1).wf = true) : Calls Try.prog 5 #[.slice a len cap, .int .i64 a1] w fun e w' => e = .returned (.bool true) ∧ Below w.heap.size w w' := walk_DepthOfBy dep_impl a len cap xs a1 w hr h1
theorem walk_FnExactMistune (a : Option Addr) (len cap : Nat) (xs : List Iv) (a1 : Int) (a2 : Int) (w : World) (hr : IvRow w a len xs) (h1 : (Lit.int .i64 a1).wf = true) (h2 : (Lit.int .i64 a2).wf = true) : Calls Try.prog 6 #[.slice a len cap, .int .i64 a1, .int .i64 a2] w fun e w' => e = .returned (.bool true) ∧ Below w.heap.size w w' := walk_MistuneBy mis_impl a len cap xs a1 a2 w hr h1 h2
theorem walk_FnExactAffectedKeys (a : Option Addr) (len cap : Nat) (xs : List Iv) (a1 : Int) (w : World) (hr : IvRow w a len xs) (h1 : (Lit.int .i64 a1).wf = true) : Calls Try.prog 7 #[.slice a len cap, .int .i64 a1] w fun e w' => e = .returned (.bool true) ∧ Below w.heap.size w w' := walk_AffectedKeysBy aff_impl a len cap xs a1 w hr h1
theorem walk_FnExactErrorBound (a : Option Addr) (len cap : Nat) (xs : List Iv) (a1 : Int) (a2 : Int) (w : World) (hr : IvRow w a len xs) (h1 : (Lit.int .i64 a1).wf = true) (h2 : (Lit.int .i64 a2).wf = true) : Calls Try.prog 8 #[.slice a len cap, .int .i64 a1, .int .i64 a2] w fun e w' => e = .returned (.bool true) ∧ Below w.heap.size w w' := walk_ErrorBoundBy err_impl a len cap xs a1 a2 w hr h1 h2
theorem walk_FnExactDeepestKey (a : Option Addr) (len cap : Nat) (xs : List Iv) (w : World) (hr : IvRow w a len xs) : Calls Try.prog 9 #[.slice a len cap] w fun e w' => e = .returned (.bool true) ∧ Below w.heap.size w w' := walk_DeepestKeyBy deep_impl a len cap xs w hr
theorem walk_FnDepths (a0 : Option Addr) (len0 cap0 : Nat) (z0 : List Int) (w : World) (hr : IsRow .u8 w a0 len0 cap0 z0) : Calls Try.prog 4 #[.slice a0 len0 cap0] w fun e w' => e = .returned (.bool true) ∧ Below w.heap.size w w' := walk_FnDepthsBy dep_impl err_impl deep_impl a0 len0 cap0 z0 w hr
theorem walk_FnSpread (a0 : Option Addr) (len0 cap0 : Nat) (z0 : List Int) (w : World) (hr : IsRow .u8 w a0 len0 cap0 z0) : Calls Try.prog 3 #[.slice a0 len0 cap0] w fun e w' => e = .returned (.bool true) ∧ Below w.heap.size w w' := walk_FnSpreadBy run_impl keys_impl mis_impl aff_impl err_impl deep_impl a0 len0 cap0 z0 w hr
end Go.Proofs.Ytbklnlmijkclmaa
