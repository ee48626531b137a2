/- What laws.FnMaps calls, at two drawn maps and two drawn intervals: told without a look inside. -/
import Derived.Test.YthbjndaemmaoaaaAddMaps
import Derived.Test.YthbjndaemmaoaaaStepsLaw
import Derived.Test.YthbjndaemmaoaaaAddTone
import Derived.Test.YthbjndaemmaoaaaDrawMaps
namespace Go.Proofs.Ythbjndaemmaoaaa
open Go.RowKit Go.Joins
set_option linter.unusedVariables false
theorem gcd4_oneM (a b c : Int) : gcd4 a b c 1 = 1 := by
  have h1 := gcd4_pos a b c 1 (by omega)
  have h2 := Int.le_of_dvd (by omega) (gcd4_dvd a b c 1).2.2.2
  omega
/-- A drawn interval's powers. -/
def PI3 (t h f : Int) : Prop := -12 ≤ t ∧ t ≤ 12 ∧ -6 ≤ h ∧ h ≤ 6 ∧ -3 ≤ f ∧ f ≤ 3
theorem pi_ti {a b c d : Int} (h : TI a b c d) : PI3 a b c := h.2.2
theorem pi_ok {t h f : Int} (H : PI3 t h f) : okI t h f 1 = true := by
  obtain ⟨h1, h2, h3, h4, h5, h6⟩ := H
  exact okI_mk (by omega)
theorem pi_ok2 {t h f t' h' f' : Int} (H : PI3 t h f) (H' : PI3 t' h' f') : okI (t + t') (h + h') (f + f') 1 = true := by
  obtain ⟨h1, h2, h3, h4, h5, h6⟩ := H
  obtain ⟨k1, k2, k3, k4, k5, k6⟩ := H'
  exact okI_mk (by omega)
theorem add_oneM {t h f t' h' f' : Int} (H : PI3 t h f) (H' : PI3 t' h' f') (w : World) :
    Calls Try.prog 13 #[ivV t h f 1, ivV t' h' f' 1] w fun e w' => e = .returned (.tuple #[ivV (t + t') (h + h') (f + f') 1, .bool true]) ∧ Below w.heap.size w w' := by
  have k := add_impl_yes t h f 1 t' h' f' 1 t h f 1 t' h' f' 1 w (pi_ok H) (pi_ok H') (Int.mul_one _) (Int.mul_one _) (Int.mul_one _) (Int.mul_one _) (Int.mul_one _) (Int.mul_one _) (Int.mul_one _) (gcd4_oneM _ _ _).symm (by rw [Int.tdiv_one, Int.tdiv_one, Int.tdiv_one, Int.tdiv_one]; exact pi_ok2 H H')
  rw [Int.tdiv_one, Int.tdiv_one, Int.tdiv_one, Int.tdiv_one] at k
  exact k
/-- The steps of a valid interval in a valid map. -/
theorem stepsAt_yes {a b c t h f : Int} (hm : okM a b c = true) (hi : okI t h f 1 = true) : StepsAt a b c t h f 1 (a * t + b * h + c * f) true := by
  obtain ⟨a1, a2, b1, b2, c1, c2⟩ := okM_nums hm
  obtain ⟨_, _, t1, t2, h1, h2, f1, f2⟩ := okI_nums hi
  have P := prod_bd (a := a) (t := t) (by omega) (by omega) t1 t2
  have Q := prod_bd b1 b2 h1 h2
  have R := prod_bd c1 c2 f1 f2
  exact .inl ⟨hm, hi, rfl, ⟨_, _, _, ⟨rfl, rfl, rfl, P.1, P.2, Q.1, Q.2, R.1, R.2, rfl⟩⟩, rfl⟩
theorem steps_bd {a b c t h f : Int} (hm : okM a b c = true) (hi : okI t h f 1 = true) : -3000000 ≤ a * t + b * h + c * f ∧ a * t + b * h + c * f ≤ 3000000 := by
  obtain ⟨a1, a2, b1, b2, c1, c2⟩ := okM_nums hm
  obtain ⟨_, _, t1, t2, h1, h2, f1, f2⟩ := okI_nums hi
  have P := prod_bd (a := a) (t := t) (by omega) (by omega) t1 t2
  have Q := prod_bd b1 b2 h1 h2
  have R := prod_bd c1 c2 f1 f2
  omega
structure MapsSay (p q r p' q' r' t h f t' h' f' T H F x y u v s1 s2 s3 : Int) (yy y7 : Bool) : Prop where
  add : ∀ w, Calls Try.prog 13 #[ivV t h f 1, ivV t' h' f' 1] w fun e w' => e = .returned (.tuple #[ivV T H F 1, .bool true]) ∧ Below w.heap.size w w'
  two : ∀ w, Calls Try.prog 14 #[mapV p q r, ivV t h f 1] w fun e w' => e = .returned (.tuple #[.int .i64 x, .bool true]) ∧ Below w.heap.size w w'
  three : ∀ w, Calls Try.prog 14 #[mapV p q r, ivV t' h' f' 1] w fun e w' => e = .returned (.tuple #[.int .i64 y, .bool true]) ∧ Below w.heap.size w w'
  four : ∀ w, Calls Try.prog 14 #[mapV p q r, ivV T H F 1] w fun e w' => e = .returned (.tuple #[.int .i64 (x + y), .bool true]) ∧ Below w.heap.size w w'
  five : ∀ w, Calls Try.prog 15 #[mapV p q r, mapV p' q' r'] w fun e w' => e = .returned (.tuple #[mapV s1 s2 s3, .bool yy]) ∧ Below w.heap.size w w'
  six : ∀ w, Calls Try.prog 14 #[mapV p' q' r', ivV t h f 1] w fun e w' => e = .returned (.tuple #[.int .i64 u, .bool true]) ∧ Below w.heap.size w w'
  seven : ∀ w, Calls Try.prog 14 #[mapV s1 s2 s3, ivV t h f 1] w fun e w' => e = .returned (.tuple #[.int .i64 v, .bool y7]) ∧ Below w.heap.size w w'
  sum : yy = true → y7 = true ∧ v = x + u
  x0 : -3000000 ≤ x
  x1 : x ≤ 3000000
  y0 : -3000000 ≤ y
  y1 : y ≤ 3000000
  u0 : -3000000 ≤ u
  u1 : u ≤ 3000000
theorem mapsSay_ex {p q r p' q' r' t h f t' h' f' : Int} (hm : MI p q r) (hn : MI p' q' r') (ha : PI3 t h f) (hb : PI3 t' h' f') :
    ∃ T H F x y u v s1 s2 s3 yy y7, MapsSay p q r p' q' r' t h f t' h' f' T H F x y u v s1 s2 s3 yy y7 := by
  obtain ⟨s1, s2, s3, yy, hs⟩ := sumAt_ex p q r p' q' r'
  obtain ⟨v, y7, hv⟩ := stepsAt_ex s1 s2 s3 t h f 1
  have bx := steps_bd (mi_ok hm) (pi_ok ha)
  have by' := steps_bd (mi_ok hm) (pi_ok hb)
  have bu := steps_bd (mi_ok hn) (pi_ok ha)
  refine ⟨t + t', h + h', f + f', p * t + q * h + r * f, p * t' + q * h' + r * f', p' * t + q' * h + r' * f, v, s1, s2, s3, yy, y7, fun w => add_oneM ha hb w, fun w => steps_impl (stepsAt_yes (mi_ok hm) (pi_ok ha)) w, fun w => steps_impl (stepsAt_yes (mi_ok hm) (pi_ok hb)) w, fun w => ?_, fun w => sum_impl hs w, fun w => steps_impl (stepsAt_yes (mi_ok hn) (pi_ok ha)) w, fun w => steps_impl hv w, ?_, bx.1, bx.2, by'.1, by'.2, bu.1, bu.2⟩
  · have k := steps_impl (stepsAt_yes (mi_ok hm) (pi_ok2 ha hb)) w
    rw [show p * (t + t') + q * (h + h') + r * (f + f') = p * t + q * h + r * f + (p * t' + q * h' + r * f') from by rw [Int.mul_add, Int.mul_add, Int.mul_add]; omega] at k
    exact k
  · intro hyy
    subst hyy
    rcases hs with ⟨_, _, o3, rfl, rfl, rfl, _⟩ | ⟨_, _, _, _, h0⟩ | ⟨_, _, _, _, _, h0⟩ | ⟨_, _, _, _, _, _, h0⟩
    · rcases hv with ⟨_, _, _, ⟨P, Q, R, hP⟩, h7⟩ | ⟨h0, _⟩ | ⟨_, h0, _⟩ | ⟨_, _, h0, _⟩
      · refine ⟨h7, ?_⟩
        have e1 := hP.p0
        have e2 := hP.q0
        have e3 := hP.r0
        rw [Int.add_mul] at e1 e2 e3
        have := hP.z0
        omega
      · rw [o3] at h0; cases h0
      · rw [pi_ok ha] at h0; cases h0
      · exact absurd rfl h0
    · cases h0
    · cases h0
    · cases h0
end Go.Proofs.Ythbjndaemmaoaaa
