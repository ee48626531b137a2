/- Contract of impl.signOfPowers: the sign of 2^t * 3^h * 5^f against 1. -/
import Derived.Test.YtneblpplkidkfaaBigWalks
import Derived.Test.YtneblpplkidkfaaToneWalks
import Derived.Test.YtneblpplkidkfaaIfOkWalks
namespace Go.Proofs.Ytneblpplkidkfaa
open Go.RowKit
set_option linter.unusedVariables false
theorem gcd3_zero {t h f : Int} (h0 : gcdI (gcdI t h) f = 0) : t = 0 ∧ h = 0 ∧ f = 0 := by
  have h2 : Int.gcd (gcdI t h) f = 0 := by unfold gcdI at h0 ⊢; exact_mod_cast h0
  rw [Int.gcd_eq_zero_iff] at h2
  have h3 : Int.gcd t h = 0 := by have := h2.1; unfold gcdI at this; exact_mod_cast this
  rw [Int.gcd_eq_zero_iff] at h3
  exact ⟨h3.1, h3.2, h2.2⟩
theorem sgnP_gcd0 {t h f : Int} (h0 : gcdI (gcdI t h) f = 0) : sgnP t h f = 0 := (sgnP_zero t h f).2 (gcd3_zero h0)
theorem sgnP_quot {t h f g : Int} (hg : g = gcdI (gcdI t h) f) (h1 : 1 ≤ g) : sgnP (t.tdiv g) (h.tdiv g) (f.tdiv g) = sgnP t h f := by
  have d1 := gcdI_dvd (gcdI t h) f
  have d2 := gcdI_dvd t h
  rw [← hg] at d1
  have e1 := Int.tdiv_mul_cancel (Int.dvd_trans d1.1 d2.1)
  have e2 := Int.tdiv_mul_cancel (Int.dvd_trans d1.1 d2.2)
  have e3 := Int.tdiv_mul_cancel d1.2
  have e := sgnP_mul g h1 (t.tdiv g) (h.tdiv g) (f.tdiv g)
  rw [e1, e2, e3] at e
  exact e.symm
theorem quot_bd2 (x g M : Int) (hg : 1 ≤ g) (h : -M ≤ x) (h' : x ≤ M) : -M ≤ x.tdiv g ∧ x.tdiv g ≤ M := by
  have h1 : (x.tdiv g).natAbs ≤ x.natAbs := by rw [Int.natAbs_tdiv]; exact Nat.div_le_self _ _
  omega
/-- The two products' groups, compared. -/
theorem cmp_pw (t h f : Int) : cmpB (ofB (pw t.toNat h.toNat f.toNat)) (ofB (pw (-t).toNat (-h).toNat (-f).toNat)) = sgnP t h f := cmp_ofB _ _
theorem below_drewN (w : World) (d : Nat) : Below w.heap.size w (w.drewN d) := ⟨rfl, rfl, rfl, Nat.le_refl _, fun _ _ => rfl⟩
theorem pw_fit (t h f : Int) (t2 : t ≤ 20000) (h2 : h ≤ 20000) (f2 : f ≤ 20000) : (ofB (pw t.toNat h.toNat f.toNat)).length ≤ 2000000 := Nat.le_trans (pw_groups _ _ _) (by omega)
end Go.Proofs.Ytneblpplkidkfaa
