/- The walk of laws.FnExactCircleOk; the end of a law that looks at a circle's row once more. -/
import Derived.Test.YtjfeeppbbckneabCirOk
import Derived.Deep.RegionWith
namespace Go.Proofs.Ytjfeeppbbckneab
open Go.RowKit Go.Joins
set_option linter.unusedVariables false
/-- toCircle behind a world that is named. -/
theorem calls_toCir {W w : World} {a : Option Addr} {len cap : Nat} {zs xs : List Int} (h : Below W.heap.size W w) (hr : IsRow .i64 W a len cap zs) (hl : len ≤ 1048576) (hx : Hid (xs = zs.take len)) :
    Calls Try.prog 17 #[cirV (.slice a len cap)] w fun e w' => ∃ v, e = .returned (cirV v) ∧ w'.ownsRow w.heap.size 3 1 v xs.length (intCs xs) ∧ Below W.heap.size W w' := by
  rw [hx.out]
  exact (toCir_any w a len cap zs (hr.below h) hl).mono fun e w' ⟨v, he, o, b⟩ => ⟨v, he, o, h.trans (b.mono h.size)⟩
/-- eqCircle of two equal rows. -/
theorem calls_eqCir {W w : World} {b1 b2 : Nat} {e1 e2 : TypeId} {v1 v2 : Value} {xs : List Int} (h : Below W.heap.size W w) (hl : xs.length ≤ 2000000) (h1 : W.ownsRow b1 e1 1 v1 xs.length (intCs xs)) (h2 : w.ownsRow b2 e2 1 v2 xs.length (intCs xs)) :
    Calls Try.prog 19 #[cirV v1, cirV v2] w fun e w' => e = .returned (.bool true) ∧ Below W.heap.size W w' := by
  have C := eqCir_any w b1 b2 e1 e2 v1 v2 xs xs hl hl (own_below h1 h) h2
  rw [decide_eq_true (rfl : xs = xs)] at C
  exact C.mono fun e w' ⟨he, b⟩ => ⟨he, h.trans (b.mono h.size)⟩
end Go.Proofs.Ytjfeeppbbckneab
