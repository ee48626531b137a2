/- The walks of laws.FnExactPitchOk, MakePitch and TimesPitch over the landed program. -/
import Derived.Test.YtgoaofkbegfinaaPitchImpl
namespace Go.Proofs.Ytgoaofkbegfinaa
open Go.RowKit Go.Joins
theorem walk_FnExactPitchOk (n d : Int) (w : World) : Calls Try.prog 4 #[pchV n d] w fun e w' => e = .returned (.bool true) ∧ Below w.heap.size w w' := walk_PitchOkBy pk_impl n d w
theorem walk_FnExactMakePitch (n : Int) (_ : (Lit.int .i64 n).wf = true) (d : Int) (_ : (Lit.int .i64 d).wf = true) (w : World) : Calls Try.prog 5 #[.int .i64 n, .int .i64 d] w fun e w' => e = .returned (.bool true) ∧ Below w.heap.size w w' := walk_MakePitchBy mk_impl n d w
theorem walk_FnExactTimesPitch (n d : Int) (u : Int) (_ : (Lit.int .i64 u).wf = true) (v : Int) (_ : (Lit.int .i64 v).wf = true) (w : World) : Calls Try.prog 7 #[pchV n d, .int .i64 u, .int .i64 v] w fun e w' => e = .returned (.bool true) ∧ Below w.heap.size w w' := walk_TimesBy17 tp_impl17 n d u v w
end Go.Proofs.Ytgoaofkbegfinaa
