/- What laws.FnMaps calls, at two drawn maps and two drawn intervals: told without a look inside. -/
import Derived.Test.YtfhefakacjkmiaaDoorAddMaps
import Derived.Test.YtfhefakacjkmiaaDoorStepsLaw
import Derived.Test.YtfhefakacjkmiaaDoorAddTone
import Derived.Test.YtfhefakacjkmiaaDoorDrawMaps
namespace Go.Proofs.YtfhefakacjkmiaaDoor
open Go.RowKit Go.Joins
set_option linter.unusedVariables false
theorem gcd4_oneM (a b c : Int) : gcd4 a b c 1 = 1 := by
  have h1 := gcd4_pos a b c 1 (by omega)
  have h2 := Int.le_of_dvd (by omega) (gcd4_dvd a b c 1).2.2.2
  omega
/-- A drawn interval's powers. -/
def PI3 (t h f : Int) : Prop := -12 ≤ t ∧ t ≤ 12 ∧ -6 ≤ h ∧ h ≤ 6 ∧ -3 ≤ f ∧ f ≤ 3
theorem pi_ti {a b c d : Int} (h : TI a b c d) : PI3 a b c := h.2.2
theorem pi_ok {t h f : Int} (H : PI3 t h f) : okI t h f 1 = true := by
  obtain ⟨h1, h2, h3, h4, h5, h6⟩ := H
  exact okI_mk (by omega)
theorem pi_ok2 {t h f t' h' f' : Int} (H : PI3 t h f) (H' : PI3 t' h' f') : okI (t + t') (h + h') (f + f') 1 = true := by
  obtain ⟨h1, h2, h3, h4, h5, h6⟩ := H
  obtain ⟨k1, k2, k3, k4, k5, k6⟩ := H'
  exact okI_mk (by omega)
/-- The steps of a valid interval in a valid map. -/
theorem stepsAt_yes {a b c t h f : Int} (hm : okM a b c = true) (hi : okI t h f 1 = true) : StepsAt a b c t h f 1 (a * t + b * h + c * f) true := by
  obtain ⟨a1, a2, b1, b2, c1, c2⟩ := okM_nums hm
  obtain ⟨_, _, t1, t2, h1, h2, f1, f2⟩ := okI_nums hi
  have P := prod_bd (a := a) (t := t) (by omega) (by omega) t1 t2
  have Q := prod_bd b1 b2 h1 h2
  have R := prod_bd c1 c2 f1 f2
  exact .inl ⟨hm, hi, rfl, ⟨_, _, _, ⟨rfl, rfl, rfl, P.1, P.2, Q.1, Q.2, R.1, R.2, rfl⟩⟩, rfl⟩
theorem steps_bd {a b c t h f : Int} (hm : okM a b c = true) (hi : okI t h f 1 = true) : -3000000 ≤ a * t + b * h + c * f ∧ a * t + b * h + c * f ≤ 3000000 := by
  obtain ⟨a1, a2, b1, b2, c1, c2⟩ := okM_nums hm
  obtain ⟨_, _, t1, t2, h1, h2, f1, f2⟩ := okI_nums hi
  have P := prod_bd (a := a) (t := t) (by omega) (by omega) t1 t2
  have Q := prod_bd b1 b2 h1 h2
  have R := prod_bd c1 c2 f1 f2
  omega
end Go.Proofs.YtfhefakacjkmiaaDoor
