/- Contracts of errors.Is where the target is a pointer to an errors.errorString: the same pointer, and no error. -/
import Derived.Test.YtbklnlmijkclmaaProg
import Derived.Test.YtbklnlmijkclmaaSignImpl
import Derived.Test.YtbklnlmijkclmaaTonesMath
import Derived.Test.YtbklnlmijkclmaaNumBase
import Derived.WalkKit
import Derived.LaidEql
import Derived.RowKitTokens
namespace Go.Proofs.Ytbklnlmijkclmaa
open Go.RowKit Go.Extern.Stop Go.Stop Go.Extern Go.Extern.Rtype
set_option linter.unusedVariables false
/-- What the model's entry of (rtype).Comparable does. -/
noncomputable def cmpEntry : Array Value → Sem Value := Extern.ReflectliteType.method fun t => do noPackHeld "Comparable" t; pure (.bool (← typeInfo t).comparable)
end Go.Proofs.Ytbklnlmijkclmaa
/- Contracts of impl's compared and impl.CompareIntervals, impl.SignOf: what they answer where the listed error variable holds its pointer. -/
namespace Go.Proofs.Ytbklnlmijkclmaa
open Go.RowKit Go.Joins
set_option linter.unusedVariables false
/-- What is compared, as an integer. -/
def cmpI (a b c d e f g h : Int) : Int := sgnP (a * h - e * d) (b * h - f * d) (c * h - g * d)
/-- Two boxed intervals. -/
theorem boxes2 (w : World) (a b c d e f g h : Int) (T U : TypeId) : ∃ W, W = (w.alloc (.cells #[.int .i64 a, .int .i64 b, .int .i64 c, .int .i64 d] T)).alloc (.cells #[.int .i64 e, .int .i64 f, .int .i64 g, .int .i64 h] U) ∧ Four w.heap.size a b c d W ∧ Four (w.heap.size + 1) e f g h W ∧ Below w.heap.size w W := by
  refine ⟨_, rfl, four_alF four_alloc, ?_, below_alloc2 w _ _⟩
  have e : w.heap.size + 1 = (w.alloc (.cells #[.int .i64 a, .int .i64 b, .int .i64 c, .int .i64 d] T)).heap.size := by simp
  rw [e]
  exact four_alloc
theorem dif_bd {p q : Int} (hp : -4800 ≤ p ∧ p ≤ 4800) (hq : -4800 ≤ q ∧ q ≤ 4800) : -10000 ≤ p - q ∧ p - q ≤ 10000 := by omega
end Go.Proofs.Ytbklnlmijkclmaa
/- Contracts of impl.CompareIntervals and impl.SignOf. -/
namespace Go.Proofs.Ytbklnlmijkclmaa
open Go.RowKit Go.Joins
set_option linter.unusedVariables false
/-- The comparison of two intervals given by their numbers. -/
def cmp8 (a b c d e f g h : Int) : Int := cmpV ⟨a, b, c, d⟩ ⟨e, f, g, h⟩
theorem cmp8_yes {a b c d e f g h : Int} (hx : okI a b c d = true ∧ okI e f g h = true) : cmp8 a b c d e f g h = cmpI a b c d e f g h := by
  show cmpV ⟨a, b, c, d⟩ ⟨e, f, g, h⟩ = _
  unfold cmpV
  rw [if_pos (show okV ⟨a, b, c, d⟩ = true ∧ okV ⟨e, f, g, h⟩ = true from hx)]
  rfl
theorem cmp8_no {a b c d e f g h : Int} (hx : ¬ (okI a b c d = true ∧ okI e f g h = true)) : cmp8 a b c d e f g h = 0 := by
  show cmpV ⟨a, b, c, d⟩ ⟨e, f, g, h⟩ = _
  unfold cmpV
  rw [if_neg (show ¬ (okV ⟨a, b, c, d⟩ = true ∧ okV ⟨e, f, g, h⟩ = true) from hx)]
end Go.Proofs.Ytbklnlmijkclmaa
/- Contract of impl.SignOf. -/
namespace Go.Proofs.Ytbklnlmijkclmaa
open Go.RowKit Go.Joins
set_option linter.unusedVariables false
/-- The sign of an interval is its comparison with the prime. -/
theorem cmpV_prime {x : Iv} (h : okV x = true) : cmpV x ⟨0, 0, 0, 1⟩ = sgnV x := by
  unfold cmpV
  rw [if_pos ⟨h, by decide⟩]
  unfold difV sgnV
  simp only [Int.mul_one, Int.zero_mul, Int.sub_zero]
end Go.Proofs.Ytbklnlmijkclmaa
