/- Plain mathematics of intervals: the greatest common divisor, the simplest form; no Go in it. -/
import Derived.WalkKit
import Derived.Below
import Derived.Test.YtjnhfgacgobfcaaDoorBase
namespace Go.Proofs.YtjnhfgacgobfcaaDoor
open Go.RowKit
/-- The greatest common divisor as an integer; the walk does not look into it. -/
def gcdI (a b : Int) : Int := (Int.gcd a b : Int)
theorem gcdI_nonneg (a b : Int) : 0 ≤ gcdI a b := Int.natCast_nonneg _
theorem gcdI_zero (a : Int) : gcdI a 0 = (a.natAbs : Int) := by unfold gcdI; simp
theorem gcdI_step (a b : Int) : gcdI b (a.tmod b) = gcdI a b := by
  unfold gcdI Int.gcd
  rw [Int.natAbs_tmod, Nat.gcd_comm b.natAbs, ← Nat.gcd_rec, Nat.gcd_comm]
theorem gcdI_abs (a b : Int) : gcdI (a.natAbs : Int) (b.natAbs : Int) = gcdI a b := by unfold gcdI Int.gcd; simp
theorem gcdI_le (a b M : Int) (ha : -M ≤ a) (ha' : a ≤ M) (hb : -M ≤ b) (hb' : b ≤ M) : gcdI a b ≤ M := by
  unfold gcdI
  by_cases h : a = 0
  · subst h; simp [Int.gcd]; omega
  · have h1 : Int.gcd a b ∣ a.natAbs := Nat.gcd_dvd_left _ _
    have h2 := Nat.le_of_dvd (by omega) h1
    omega
theorem tmod_lt_abs (a b : Int) (h : b ≠ 0) : (a.tmod b).natAbs < b.natAbs := by
  rw [Int.natAbs_tmod]; exact Nat.mod_lt _ (by omega)
theorem tmod_bd (a b M : Int) (h : b ≠ 0) (hb : -M ≤ b) (hb' : b ≤ M) : -M ≤ a.tmod b ∧ a.tmod b ≤ M := by
  have := tmod_lt_abs a b h
  omega
end Go.Proofs.YtjnhfgacgobfcaaDoor
