/- Contract of spec.ClosingBeats. -/
import Derived.Test.YtbklnlmijkclmaaSRunPlan
namespace Go.Proofs.Ytbklnlmijkclmaa
open Go.RowKit Go.Joins
set_option linter.unusedVariables false
/-- A run of all eleven steps. -/
theorem run_all {s : Int} {xs : List Iv} (h : RunOk s xs) (hn : xs.length = 11) : ∃ P, P = pitK s xs 11 ∧ (FineOk s ∧ FineOk P) ∧ closV s xs = max (3 * P - 4 * s) (4 * s - 3 * P) := by
  refine ⟨_, rfl, ⟨h.1.2, ?_⟩, if_pos ⟨h, hn⟩⟩
  rcases pitK_fine (xs := xs) h.1.2 11 with q | q
  · exact absurd q (h.2 10 (by omega))
  · exact q
theorem clos_wrap {P s : Int} (u1 : 1 ≤ s) (u2 : s ≤ 10000000) (u3 : 1 ≤ P) (u4 : P ≤ 10000000) :
    (if IntKind.i64.wrap (IntKind.i64.wrap (3 * P) - IntKind.i64.wrap (4 * s)) < IntKind.i64.wrap (IntKind.i64.wrap (4 * s) - IntKind.i64.wrap (3 * P)) then IntKind.i64.wrap (IntKind.i64.wrap (4 * s) - IntKind.i64.wrap (3 * P)) else IntKind.i64.wrap (IntKind.i64.wrap (3 * P) - IntKind.i64.wrap (4 * s))) = max (3 * P - 4 * s) (4 * s - 3 * P) := by
  rw [IntWalk.i64_in (3 * P) (by omega), IntWalk.i64_in (4 * s) (by omega), IntWalk.i64_in (3 * P - 4 * s) (by omega), IntWalk.i64_in (4 * s - 3 * P) (by omega)]
  split <;> omega
theorem run_part {s : Int} {xs : List Iv} (hn : ¬ xs.length = 11) : closV s xs = -1 := if_neg (fun q => hn q.2)
theorem run_none {s : Int} {xs : List Iv} (hr : ¬ RunOk s xs) : closV s xs = -1 := if_neg (fun q => hr q.1)
/-- Two numbers of one row. -/
def TwoP (g : Nat) (x y : Int) (w : World) : Prop := w.cell? ⟨g, 11, none⟩ = some (.int .i64 x) ∧ w.cell? ⟨g, 0, none⟩ = some (.int .i64 y)
end Go.Proofs.Ytbklnlmijkclmaa
