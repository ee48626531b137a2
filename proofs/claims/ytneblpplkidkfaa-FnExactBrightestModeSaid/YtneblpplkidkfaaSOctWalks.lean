/- Contract of spec.OctavesIn. -/
import Derived.Test.YtneblpplkidkfaaTonesMath
import Derived.Test.YtneblpplkidkfaaSSign04
import Derived.Test.YtneblpplkidkfaaNumBase
import Derived.Test.YtneblpplkidkfaaToneWalks
import Derived.Test.YtneblpplkidkfaaOctWalks
import Derived.Test.YtneblpplkidkfaaSameTone
namespace Go.Proofs.Ytneblpplkidkfaa
open Go.RowKit Go.Joins
set_option linter.unusedVariables false
/-- Where the counting upwards ends. -/
def TopAt (a b c d n N : Int) : Prop := OctAt a b c d n ∧ n ≤ N ∧ 0 ≤ N ∧ (N = 0 ∨ N = n) ∧ N * d ≤ 2012 ∧ -2012 ≤ n * d
theorem top_ex {a b c d n : Int} (h : OctAt a b c d n) : ∃ N, TopAt a b c d n N := by
  obtain ⟨d1, d2, a1, a2, b1, b2, c1, c2⟩ := okI_nums h.1
  have k := octAt_bd h rfl
  by_cases h0 : 0 ≤ n
  · exact ⟨n, h, Int.le_refl _, h0, Or.inr rfl, by omega, by omega⟩
  · exact ⟨0, h, by omega, Int.le_refl _, Or.inl rfl, by omega, by omega⟩
theorem up_bd {a b c d n N k : Int} (h : TopAt a b c d n N) (h0 : 0 ≤ k) (h1 : k ≤ N) : 0 ≤ (k + 1) * d ∧ (k + 1) * d ≤ 2100 := by
  obtain ⟨d1, d2, a1, a2, b1, b2, c1, c2⟩ := okI_nums h.1.1
  have e1 := mul_mono h1 d1
  have e2 := mul_mono h0 d1
  have := h.2.2.2.2.1
  rw [Int.add_mul, Int.one_mul]
  omega
theorem down_bd {a b c d n N k : Int} (h : TopAt a b c d n N) (h0 : n ≤ k) (h1 : k ≤ N) : -2100 ≤ k * d ∧ k * d ≤ 2100 := by
  obtain ⟨d1, d2, a1, a2, b1, b2, c1, c2⟩ := okI_nums h.1.1
  have e1 := mul_mono h1 d1
  have e2 := mul_mono h0 d1
  have := h.2.2.2.2.1
  have := h.2.2.2.2.2
  omega
theorem oct_sgnS {a b c d n N k p : Int} (h : TopAt a b c d n N) (hp : k * d = p) : (0 ≤ sgnP (a - p) b c → k ≤ n) ∧ (¬ 0 ≤ sgnP (a - p) b c → n < k) := by
  have e := h.1.2 k
  rw [hp] at e
  exact ⟨e.1, fun hs => by
    rcases (show n < k ∨ k ≤ n from by omega) with r | r
    · exact r
    · exact absurd (e.2 r) hs⟩
def intOfS : Value → Int | .int _ q => q | _ => 0
end Go.Proofs.Ytneblpplkidkfaa
/- Contract of spec.WithinOctave. -/
namespace Go.Proofs.Ytneblpplkidkfaa
open Go.RowKit Go.Joins
set_option linter.unusedVariables false
end Go.Proofs.Ytneblpplkidkfaa
/- Contract of spec.InvertInterval. -/
namespace Go.Proofs.Ytneblpplkidkfaa
open Go.RowKit Go.Joins
set_option linter.unusedVariables false
end Go.Proofs.Ytneblpplkidkfaa
/- Contract of spec.SamePitchClass. -/
namespace Go.Proofs.Ytneblpplkidkfaa
open Go.RowKit Go.Joins
set_option linter.unusedVariables false
end Go.Proofs.Ytneblpplkidkfaa
