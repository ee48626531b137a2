/- Contracts of impl.lessOctaves and impl.OctavesIn. -/
import Derived.Test.YtneblpplkidkfaaTonesMath
import Derived.Test.YtneblpplkidkfaaSignImpl
import Derived.Test.YtneblpplkidkfaaNumBase
import Derived.Test.YtneblpplkidkfaaIfOkWalks
import Derived.ScopeJumps
import Derived.WalkMore
namespace Go.Proofs.Ytneblpplkidkfaa
open Go.RowKit Go.Joins
set_option linter.unusedVariables false
/-- Two less by n octaves: m of its root's parts. -/
def LessAt (a d n m q : Int) : Prop := n * d = m ∧ q = a - m ∧ -100000 ≤ m ∧ m ≤ 100000 ∧ -100000 ≤ a ∧ a ≤ 100000
/-- The middle of the search, and what is less by it. -/
def MidAt (a d H n x y m p q : Int) : Prop := m = (x + y).tdiv 2 ∧ m * d = p ∧ q = a - p ∧ (x < m ∧ m < y) ∧ (-2012 ≤ p ∧ p ≤ 2012)
def intOf' : Value → Int | .int _ q => q | _ => 0
theorem mid_ex {a b c d H n x y : Int} (h : OctAt a b c d n) (hH : H = (2000 : Int).tdiv d + 1) (hx : -H ≤ x) (hy : y ≤ H) (hxy : x + 2 ≤ y) : ∃ m p q, MidAt a d H n x y m p q := by
  obtain ⟨d1, d2, a1, a2, b1, b2, c1, c2⟩ := okI_nums h.1
  obtain ⟨k1, k2, k3, k4⟩ := high_bd d1 hH
  have hm := mid_bd hxy rfl
  exact ⟨_, _, _, rfl, rfl, rfl, hm, mid_mul d1 d2 k2 (by omega) (by omega)⟩
theorem oct_sgn {a b c d n k p q : Int} (h : OctAt a b c d n) (hp : k * d = p) (hq : q = a - p) : (sgnP q b c < 0 → n < k) ∧ (¬ sgnP q b c < 0 → k ≤ n) := by
  have e := h.2 k
  rw [hp, ← hq] at e
  constructor
  · intro hs
    rcases (show n < k ∨ k ≤ n from by omega) with r | r
    · exact r
    · have := e.2 r; omega
  · intro hs
    exact e.1 (by omega)
/-- What holds at the label, behind the first round. -/
def OctJ (w0 : World) (a b c d H n x y : Int) (wr : World) : Prop := (-H ≤ x ∧ y ≤ H ∧ x + 2 ≤ y ∧ x ≤ n ∧ n < y) ∧ Four w0.heap.size a b c d wr ∧ Below w0.heap.size w0 wr
/-- What OctavesIn answers: the octaves of a valid interval, 0 for others. -/
def OctOr (a b c d n : Int) : Prop := OctAt a b c d n ∨ (okI a b c d = false ∧ n = 0)
theorem octOr_ex (a b c d : Int) : ∃ n, OctOr a b c d n := by
  obtain ⟨x, hx⟩ : ∃ x : Bool, okI a b c d = x := ⟨_, rfl⟩
  cases x
  · exact ⟨0, Or.inr ⟨hx, rfl⟩⟩
  · obtain ⟨n, hn⟩ := octAt_ex hx
    exact ⟨n, Or.inl hn⟩
end Go.Proofs.Ytneblpplkidkfaa
