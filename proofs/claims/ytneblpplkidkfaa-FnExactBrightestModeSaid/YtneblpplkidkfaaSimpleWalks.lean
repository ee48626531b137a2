/- Contracts of impl.divided and spec.l03Simple: all four numbers divided by their greatest common divisor. -/
import Derived.Test.YtneblpplkidkfaaToneWalks
namespace Go.Proofs.Ytneblpplkidkfaa
open Go.RowKit Go.Joins
set_option linter.unusedVariables false
/-- The greatest number that divides all four. -/
def gcd4 (a b c d : Int) : Int := gcdI (gcdI d a) (gcdI b c)
theorem gcd4_pos (a b c d : Int) (h : 1 ≤ d) : 1 ≤ gcd4 a b c d := by
  have h0 : (gcdI d a) ≠ 0 := by
    unfold gcdI
    intro h1
    have h2 : Int.gcd d a = 0 := by exact_mod_cast h1
    rw [Int.gcd_eq_zero_iff] at h2
    omega
  have h3 := gcdI_nonneg (gcdI d a) (gcdI b c)
  have h4 : gcdI (gcdI d a) (gcdI b c) ≠ 0 := by
    intro h1
    have h2 : Int.gcd (gcdI d a) (gcdI b c) = 0 := by unfold gcdI at h1 ⊢; exact_mod_cast h1
    rw [Int.gcd_eq_zero_iff] at h2
    exact h0 h2.1
  unfold gcd4
  omega
theorem gcd4_spec (a b c d : Int) : gcdI (gcdI a b) (gcdI c d) = gcd4 a b c d := by
  unfold gcd4 gcdI
  congr 1
  simp only [Int.gcd, Int.natAbs_natCast]
  rw [Nat.gcd_comm d.natAbs a.natAbs, Nat.gcd_assoc, Nat.gcd_assoc]
  congr 1
  rw [← Nat.gcd_assoc, Nat.gcd_comm d.natAbs]
theorem gcd4_root (a b c d : Int) : gcdI d (gcdI (gcdI a b) c) = gcd4 a b c d := by
  unfold gcd4 gcdI
  congr 1
  simp only [Int.gcd, Int.natAbs_natCast]
  rw [Nat.gcd_assoc, Nat.gcd_assoc]
theorem gcd4_le (a b c d M : Int) (ha : -M ≤ a) (ha' : a ≤ M) (hb : -M ≤ b) (hb' : b ≤ M) (hc : -M ≤ c) (hc' : c ≤ M) (hd : -M ≤ d) (hd' : d ≤ M) : gcd4 a b c d ≤ M := by
  unfold gcd4
  have h1 := gcdI_le d a M hd hd' ha ha'
  have h2 := gcdI_le b c M hb hb' hc hc'
  have h3 := gcdI_nonneg d a
  have h4 := gcdI_nonneg b c
  exact gcdI_le _ _ M (by omega) h1 (by omega) h2
theorem quot_bd (x g M : Int) (hg : 1 ≤ g) (h : -M ≤ x) (h' : x ≤ M) : -M ≤ x.tdiv g ∧ x.tdiv g ≤ M := by
  have h1 : (x.tdiv g).natAbs ≤ x.natAbs := by rw [Int.natAbs_tdiv]; exact Nat.div_le_self _ _
  omega
end Go.Proofs.Ytneblpplkidkfaa
