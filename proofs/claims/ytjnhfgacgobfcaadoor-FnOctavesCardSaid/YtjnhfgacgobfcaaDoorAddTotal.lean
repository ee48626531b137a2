/- The total contracts of impl.AddIntervals, impl.TimesInterval and impl.SimplestOf: what they answer, as functions; commutativity, associativity, the inverse. -/
import Derived.Test.YtjnhfgacgobfcaaDoorToneRep
import Derived.Test.YtjnhfgacgobfcaaDoorSimplestWalks
namespace Go.Proofs.YtjnhfgacgobfcaaDoor
open Go.RowKit Go.Joins
set_option linter.unusedVariables false
/-- Four ints. -/
structure Iv where
  two : Int
  three : Int
  five : Int
  root : Int
def okV (x : Iv) : Bool := okI x.two x.three x.five x.root
def simV (x : Iv) : Iv := ⟨x.two.tdiv (gcd4 x.two x.three x.five x.root), x.three.tdiv (gcd4 x.two x.three x.five x.root), x.five.tdiv (gcd4 x.two x.three x.five x.root), x.root.tdiv (gcd4 x.two x.three x.five x.root)⟩
/-- The sum before it is made simplest. -/
def sumV (x y : Iv) : Iv := ⟨x.two * y.root + y.two * x.root, x.three * y.root + y.three * x.root, x.five * y.root + y.five * x.root, x.root * y.root⟩
def addV (x y : Iv) : Iv × Bool := if okV x = true ∧ okV y = true ∧ okV (simV (sumV x y)) = true then (simV (sumV x y), true) else (⟨0, 0, 0, 0⟩, false)
/-- Two quadruples with positive roots that are multiples of each other. -/
def PropV (x y : Iv) : Prop := x.two * y.root = y.two * x.root ∧ x.three * y.root = y.three * x.root ∧ x.five * y.root = y.five * x.root
theorem okV_root {x : Iv} (h : okV x = true) : 1 ≤ x.root := by
  have h' : okI x.two x.three x.five x.root = true := h
  unfold okI at h'
  simp only [decide_eq_true_eq] at h'
  exact h'.1
theorem simV_prop {x : Iv} (h : 1 ≤ x.root) : PropV (simV x) x := simple_mul h
theorem simV_root {x : Iv} (h : 1 ≤ x.root) : 1 ≤ (simV x).root := simple_pos h
theorem simV_eq {x y : Iv} (hx : 1 ≤ x.root) (hy : 1 ≤ y.root) (h : PropV x y) : simV x = simV y := by
  obtain ⟨e1, e2, e3, e4⟩ := simple_same hx hy h.1 h.2.1 h.2.2
  unfold simV
  rw [e1, e2, e3, e4]
theorem simV_twice {x : Iv} (h : 1 ≤ x.root) : simV (simV x) = simV x := simV_eq (simV_root h) h (simV_prop h)
theorem simV_ok {x : Iv} (h : okV x = true) : okV (simV x) = true := simple_ok h
theorem sumV_comm (x y : Iv) : sumV x y = sumV y x := by
  unfold sumV
  rw [Int.mul_comm x.root, Int.add_comm (x.two * y.root), Int.add_comm (x.three * y.root), Int.add_comm (x.five * y.root)]
theorem addV_comm (x y : Iv) : addV x y = addV y x := by
  unfold addV
  rw [sumV_comm x y]
  by_cases h1 : okV x = true
  · by_cases h2 : okV y = true
    · simp only [h1, h2, true_and]
    · rw [if_neg (fun h => h2 h.2.1), if_neg (fun h => h2 h.1)]
  · rw [if_neg (fun h => h1 h.1), if_neg (fun h => h1 h.2.1)]
theorem mul_pos1 {a b : Int} (ha : 1 ≤ a) (hb : 1 ≤ b) : 1 ≤ a * b := by have := Int.mul_pos (show 0 < a by omega) (show 0 < b by omega); omega
theorem sumV_root {x y : Iv} (hx : 1 ≤ x.root) (hy : 1 ≤ y.root) : 1 ≤ (sumV x y).root := mul_pos1 hx hy
theorem sum_prop1 (a d a' d' b e : Int) (h : a * d' = a' * d) : (a * e + b * d) * (d' * e) = (a' * e + b * d') * (d * e) := by
  have e1 : (a * e + b * d) * (d' * e) = a * d' * (e * e) + b * d * (d' * e) := by rw [Int.add_mul]; congr 1; ac_rfl
  have e2 : (a' * e + b * d') * (d * e) = a' * d * (e * e) + b * d * (d' * e) := by rw [Int.add_mul]; congr 1 <;> ac_rfl
  rw [e1, e2, h]
/-- Sums of proportional quadruples are proportional. -/
theorem sumV_prop {x x' y : Iv} (h : PropV x x') : PropV (sumV x y) (sumV x' y) :=
  ⟨sum_prop1 _ _ _ _ _ _ h.1, sum_prop1 _ _ _ _ _ _ h.2.1, sum_prop1 _ _ _ _ _ _ h.2.2⟩
theorem assoc1 (a d b e c f : Int) : (a * e + b * d) * f + c * (d * e) = a * (e * f) + (b * f + c * e) * d := by
  rw [Int.add_mul, Int.add_mul, Int.add_assoc]
  congr 1
  · ac_rfl
  · congr 1 <;> ac_rfl
theorem sumV_assoc (x y z : Iv) : sumV (sumV x y) z = sumV x (sumV y z) := by
  unfold sumV
  simp only [assoc1, Int.mul_assoc]
theorem addV_yes {x y r : Iv} (h : addV x y = (r, true)) : okV x = true ∧ okV y = true ∧ okV r = true ∧ r = simV (sumV x y) := by
  unfold addV at h
  by_cases hh : okV x = true ∧ okV y = true ∧ okV (simV (sumV x y)) = true
  · rw [if_pos hh] at h
    obtain ⟨h1, h2, h3⟩ := hh
    have e := (Prod.mk.inj h).1
    subst e
    exact ⟨h1, h2, h3, rfl⟩
  · rw [if_neg hh] at h
    exact absurd (Prod.mk.inj h).2 (by simp)
/-- If all four sums are there, adding is associative. -/
theorem addV_assoc {x y z a b c d : Iv} (h1 : addV x y = (a, true)) (h2 : addV y z = (b, true)) (h3 : addV a z = (c, true)) (h4 : addV x b = (d, true)) : c = d := by
  obtain ⟨k1, k2, k3, k4⟩ := addV_yes h1
  obtain ⟨l1, l2, l3, l4⟩ := addV_yes h2
  obtain ⟨m1, m2, m3, m4⟩ := addV_yes h3
  obtain ⟨n1, n2, n3, n4⟩ := addV_yes h4
  have rx := okV_root k1
  have ry := okV_root k2
  have rz := okV_root l2
  have sxy := sumV_root rx ry
  have syz := sumV_root ry rz
  rw [m4, n4, k4, l4]
  rw [simV_eq (sumV_root (simV_root sxy) rz) (sumV_root sxy rz) (sumV_prop (simV_prop sxy)), sumV_comm x (simV (sumV y z)), simV_eq (sumV_root (simV_root syz) rx) (sumV_root syz rx) (sumV_prop (simV_prop syz)), sumV_comm (sumV y z) x, sumV_assoc]
theorem add_total (x y : Iv) (w : World) :
    Calls Tryd.prog 8 #[ivV x.two x.three x.five x.root, ivV y.two y.three y.five y.root] w fun e w' => e = .returned (.tuple #[ivV (addV x y).1.two (addV x y).1.three (addV x y).1.five (addV x y).1.root, .bool (addV x y).2]) ∧ Below w.heap.size w w' := by
  by_cases h1 : okV x = true
  · by_cases h2 : okV y = true
    · by_cases h3 : okV (simV (sumV x y)) = true
      · rw [show addV x y = (simV (sumV x y), true) from by unfold addV; rw [if_pos ⟨h1, h2, h3⟩]]
        exact add_impl_yes _ _ _ _ _ _ _ _ _ _ _ _ _ _ _ _ w h1 h2 rfl rfl rfl rfl rfl rfl rfl rfl h3
      · rw [show addV x y = (⟨0, 0, 0, 0⟩, false) from by unfold addV; rw [if_neg (fun h => h3 h.2.2)]]
        exact add_impl_no _ _ _ _ _ _ _ _ _ _ _ _ _ _ _ _ w h1 h2 rfl rfl rfl rfl rfl rfl rfl rfl (Bool.eq_false_iff.2 h3)
    · rw [show addV x y = (⟨0, 0, 0, 0⟩, false) from by unfold addV; rw [if_neg (fun h => h2 h.2.1)]]
      exact add_impl_bad2 _ _ _ _ _ _ _ _ w h1 (Bool.eq_false_iff.2 h2)
  · rw [show addV x y = (⟨0, 0, 0, 0⟩, false) from by unfold addV; rw [if_neg (fun h => h1 h.1)]]
    exact add_impl_bad1 _ _ _ _ _ _ _ _ w (Bool.eq_false_iff.2 h1)
theorem inv_sum {x : Iv} (hx : 1 ≤ x.root) : simV (sumV x (simV ⟨x.two * -1, x.three * -1, x.five * -1, x.root⟩)) = ⟨0, 0, 0, 1⟩ := by
  have hr : 1 ≤ (⟨x.two * -1, x.three * -1, x.five * -1, x.root⟩ : Iv).root := hx
  have e1 : simV ⟨0, 0, 0, 1⟩ = ⟨0, 0, 0, 1⟩ := by
    have : simV ⟨0, 0, 0, 1⟩ = ⟨(0 : Int).tdiv (gcd4 0 0 0 1), (0 : Int).tdiv (gcd4 0 0 0 1), (0 : Int).tdiv (gcd4 0 0 0 1), (1 : Int).tdiv (gcd4 0 0 0 1)⟩ := rfl
    rw [this, show gcd4 0 0 0 1 = 1 from by decide +kernel]
    rfl
  rw [← e1, sumV_comm, simV_eq (sumV_root (simV_root hr) hx) (sumV_root hr hx) (sumV_prop (simV_prop hr))]
  refine simV_eq (sumV_root hr hx) (by decide) ⟨?_, ?_, ?_⟩
  · show (x.two * -1 * x.root + x.two * x.root) * 1 = 0 * _
    rw [Int.mul_neg_one, Int.neg_mul]; omega
  · show (x.three * -1 * x.root + x.three * x.root) * 1 = 0 * _
    rw [Int.mul_neg_one, Int.neg_mul]; omega
  · show (x.five * -1 * x.root + x.five * x.root) * 1 = 0 * _
    rw [Int.mul_neg_one, Int.neg_mul]; omega
end Go.Proofs.YtjnhfgacgobfcaaDoor
