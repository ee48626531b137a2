/- The laws of chapter 21, walked whole. -/
import Derived.Test.YtelaihfjlkppiaaScaleCode
import Derived.Test.YtelaihfjlkppiaaScOkLaw
import Derived.Test.YtelaihfjlkppiaaScSumLaw
import Derived.Test.YtelaihfjlkppiaaScTwoLaw
import Derived.Test.YtelaihfjlkppiaaSpanLaw
import Derived.Test.YtelaihfjlkppiaaSpansLaw
import Derived.Test.YtelaihfjlkppiaaMajLaw
import Derived.Test.YtelaihfjlkppiaaJoinLaw
namespace Go.Proofs.Ytelaihfjlkppiaa
open Go.RowKit Go.Joins
set_option linter.unusedVariables false
theorem walk_FnExactScaleOk (a : Option Addr) (len cap : Nat) (zs : List Int) (w : World) (hr : IsRow .i64 w a len cap zs) : Calls Try.prog 4 #[cirV (.slice a len cap)] w fun e w' => e = .returned (.bool true) ∧ Below w.heap.size w w' := walk_ScaleOkBy scOk_impl a len cap zs w hr
theorem walk_FnExactScaleSum (a : Option Addr) (len cap : Nat) (zs : List Int) (w : World) (hr : IsRow .i64 w a len cap zs) : Calls Try.prog 5 #[cirV (.slice a len cap)] w fun e w' => e = .returned (.bool true) ∧ Below w.heap.size w w' := walk_ScaleSumBy scSum_impl a len cap zs w hr
theorem walk_FnExactHasTwoSizes (a : Option Addr) (len cap : Nat) (zs : List Int) (w : World) (hr : IsRow .i64 w a len cap zs) : Calls Try.prog 8 #[cirV (.slice a len cap)] w fun e w' => e = .returned (.bool true) ∧ Below w.heap.size w w' := walk_HasTwoSizesBy two_impl a len cap zs w hr
theorem walk_FnExactSpanAt (a : Option Addr) (len cap : Nat) (zs : List Int) (i k : Int) (w : World) (hr : IsRow .i64 w a len cap zs) (hi : (Lit.int .i64 i).wf = true) (hk : (Lit.int .i64 k).wf = true) : Calls Try.prog 6 #[cirV (.slice a len cap), .int .i64 i, .int .i64 k] w fun e w' => e = .returned (.bool true) ∧ Below w.heap.size w w' := walk_SpanAtBy span_impl a len cap zs i k w hr hi hk
theorem walk_FnExactSpansOf (a : Option Addr) (len cap : Nat) (zs : List Int) (i : Int) (w : World) (hr : IsRow .i64 w a len cap zs) (hi : (Lit.int .i64 i).wf = true) : Calls Try.prog 7 #[cirV (.slice a len cap), .int .i64 i] w fun e w' => e = .returned (.bool true) ∧ Below w.heap.size w w' := walk_SpansOfBy spans_impl a len cap zs i w hr hi
theorem walk_FnExactMajorScale (w : World) : Calls Try.prog 9 #[] w fun e w' => e = .returned (.bool true) ∧ Below w.heap.size w w' := walk_MajorScaleBy maj_impl w
theorem walk_FnSpans (a : Option Addr) (len cap : Nat) (zs : List Int) (w : World) (hr : IsRow .u8 w a len cap zs) : Calls Try.prog 3 #[.slice a len cap] w fun e w' => e = .returned (.bool true) ∧ Below w.heap.size w w' := walk_FnSpansBy span_impl spans_impl scSum_impl two_impl maj_impl a len cap zs w hr
end Go.Proofs.Ytelaihfjlkppiaa
