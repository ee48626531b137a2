/- Contracts of spec.IsNarrow, spec.KindText and spec.DrawTuning; the walks of the exact laws of P18 and of FnTuned over the program's contracts. -/
import Derived.Test.YtbklnlmijkclmaaSTune
import Derived.Test.YtbklnlmijkclmaaCurWalks
import Derived.Test.YtbklnlmijkclmaaAtWalks
namespace Go.Proofs.Ytbklnlmijkclmaa
open Go.RowKit Go.Joins
set_option linter.unusedVariables false
theorem heardV_pos {a t k : Int} (h : ¬ heardV a t k ≤ 0) : FineOk a ∧ FineOk t ∧ 1 ≤ k ∧ k ≤ 4 := by
  by_cases q : FineOk a ∧ FineOk t ∧ 1 ≤ k ∧ k ≤ 4
  · exact q
  · rw [heardV_no q] at h; omega
/-- The name of a kind. -/
def kindS (k : Int) : ByteArray := if k = 1 then ⟨#[102, 105, 102, 116, 104]⟩ else if k = 2 then ⟨#[102, 111, 117, 114, 116, 104]⟩ else if k = 3 then ⟨#[117, 112]⟩ else if k = 4 then ⟨#[100, 111, 119, 110]⟩ else ⟨#[]⟩
def TunImpl : Prop := ∀ (a k b : Int) (w : World), Calls Try.prog 42 #[.int .i64 a, .int .i64 k, .int .i64 b] w fun e w' => e = .returned (.int .i64 (tunV a k b)) ∧ Below w.heap.size w w'
def DrawnTune (w : World) (e : Ending) (w' : World) : Prop := ∃ a k b : Int, (100000 ≤ a ∧ a ≤ 599999) ∧ (k = 1 ∨ k = 2) ∧ (0 ≤ b ∧ b ≤ 2999) ∧ e = .returned (.tuple #[.int .i64 a, .int .i64 k, .int .i64 b]) ∧ Below w.heap.size w w'
end Go.Proofs.Ytbklnlmijkclmaa
