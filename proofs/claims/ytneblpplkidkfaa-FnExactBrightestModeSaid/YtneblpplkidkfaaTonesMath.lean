/- What laws.FnRepeated calls, at one valid small interval: three times, the sum with itself, twice, no times, and the prime. -/
import Derived.Test.YtneblpplkidkfaaIfOkWalks
import Derived.Test.YtneblpplkidkfaaTimesTone
import Derived.Test.YtneblpplkidkfaaBigMath
namespace Go.Proofs.Ytneblpplkidkfaa
open Go.RowKit Go.Joins
set_option linter.unusedVariables false
/-- The simplest form of a quadruple. -/
def SimOf (a b c d p q r s : Int) : Prop := p = a.tdiv (gcd4 a b c d) ∧ q = b.tdiv (gcd4 a b c d) ∧ r = c.tdiv (gcd4 a b c d) ∧ s = d.tdiv (gcd4 a b c d)
theorem simOf_same {a b c d a' b' c' d' p q r s : Int} (hd : 1 ≤ d) (hd' : 1 ≤ d') (h1 : a * d' = a' * d) (h2 : b * d' = b' * d) (h3 : c * d' = c' * d) (h : SimOf a b c d p q r s) : SimOf a' b' c' d' p q r s := by
  obtain ⟨e1, e2, e3, e4⟩ := simple_same hd hd' h1 h2 h3
  obtain ⟨k1, k2, k3, k4⟩ := h
  exact ⟨k1.trans e1, k2.trans e2, k3.trans e3, k4.trans e4⟩
theorem okI_mk {a b c d : Int} (h : 1 ≤ d ∧ d ≤ 12 ∧ -400 ≤ a ∧ a ≤ 400 ∧ -400 ≤ b ∧ b ≤ 400 ∧ -400 ≤ c ∧ c ≤ 400) : okI a b c d = true := by unfold okI; exact decide_eq_true h
theorem sum_twice (a d p s : Int) (hd : 1 ≤ d) (hp : p * d = a * 2 * s) : (p * d + a * s) * d = a * 3 * (s * d) := by
  have : p * d + a * s = a * 3 * s := by rw [hp, Int.mul_assoc a 2 s, Int.mul_assoc a 3 s, ← Int.mul_add]; congr 1; omega
  rw [this]; ac_rfl
theorem sum_self (a d : Int) : (a * d + a * d) * d = a * 2 * (d * d) := by
  have : a * d + a * d = a * 2 * d := by rw [Int.mul_assoc, ← Int.mul_add]; congr 1; omega
  rw [this]; ac_rfl
end Go.Proofs.Ytneblpplkidkfaa
/- The total contracts of impl.AddIntervals, impl.TimesInterval and impl.SimplestOf: what they answer, as functions; commutativity, associativity, the inverse. -/
namespace Go.Proofs.Ytneblpplkidkfaa
open Go.RowKit Go.Joins
set_option linter.unusedVariables false
/-- Four ints. -/
structure Iv where
  two : Int
  three : Int
  five : Int
  root : Int
def okV (x : Iv) : Bool := okI x.two x.three x.five x.root
def simV (x : Iv) : Iv := ⟨x.two.tdiv (gcd4 x.two x.three x.five x.root), x.three.tdiv (gcd4 x.two x.three x.five x.root), x.five.tdiv (gcd4 x.two x.three x.five x.root), x.root.tdiv (gcd4 x.two x.three x.five x.root)⟩
/-- The sum before it is made simplest. -/
def sumV (x y : Iv) : Iv := ⟨x.two * y.root + y.two * x.root, x.three * y.root + y.three * x.root, x.five * y.root + y.five * x.root, x.root * y.root⟩
def addV (x y : Iv) : Iv × Bool := if okV x = true ∧ okV y = true ∧ okV (simV (sumV x y)) = true then (simV (sumV x y), true) else (⟨0, 0, 0, 0⟩, false)
/-- Two quadruples with positive roots that are multiples of each other. -/
def PropV (x y : Iv) : Prop := x.two * y.root = y.two * x.root ∧ x.three * y.root = y.three * x.root ∧ x.five * y.root = y.five * x.root
theorem okV_root {x : Iv} (h : okV x = true) : 1 ≤ x.root := by
  have h' : okI x.two x.three x.five x.root = true := h
  unfold okI at h'
  simp only [decide_eq_true_eq] at h'
  exact h'.1
theorem simV_prop {x : Iv} (h : 1 ≤ x.root) : PropV (simV x) x := simple_mul h
theorem simV_root {x : Iv} (h : 1 ≤ x.root) : 1 ≤ (simV x).root := simple_pos h
theorem simV_eq {x y : Iv} (hx : 1 ≤ x.root) (hy : 1 ≤ y.root) (h : PropV x y) : simV x = simV y := by
  obtain ⟨e1, e2, e3, e4⟩ := simple_same hx hy h.1 h.2.1 h.2.2
  unfold simV
  rw [e1, e2, e3, e4]
theorem simV_twice {x : Iv} (h : 1 ≤ x.root) : simV (simV x) = simV x := simV_eq (simV_root h) h (simV_prop h)
theorem simV_ok {x : Iv} (h : okV x = true) : okV (simV x) = true := simple_ok h
theorem sumV_comm (x y : Iv) : sumV x y = sumV y x := by
  unfold sumV
  rw [Int.mul_comm x.root, Int.add_comm (x.two * y.root), Int.add_comm (x.three * y.root), Int.add_comm (x.five * y.root)]
theorem addV_comm (x y : Iv) : addV x y = addV y x := by
  unfold addV
  rw [sumV_comm x y]
  by_cases h1 : okV x = true
  · by_cases h2 : okV y = true
    · simp only [h1, h2, true_and]
    · rw [if_neg (fun h => h2 h.2.1), if_neg (fun h => h2 h.1)]
  · rw [if_neg (fun h => h1 h.1), if_neg (fun h => h1 h.2.1)]
theorem mul_pos1 {a b : Int} (ha : 1 ≤ a) (hb : 1 ≤ b) : 1 ≤ a * b := by have := Int.mul_pos (show 0 < a by omega) (show 0 < b by omega); omega
theorem sumV_root {x y : Iv} (hx : 1 ≤ x.root) (hy : 1 ≤ y.root) : 1 ≤ (sumV x y).root := mul_pos1 hx hy
theorem sum_prop1 (a d a' d' b e : Int) (h : a * d' = a' * d) : (a * e + b * d) * (d' * e) = (a' * e + b * d') * (d * e) := by
  have e1 : (a * e + b * d) * (d' * e) = a * d' * (e * e) + b * d * (d' * e) := by rw [Int.add_mul]; congr 1; ac_rfl
  have e2 : (a' * e + b * d') * (d * e) = a' * d * (e * e) + b * d * (d' * e) := by rw [Int.add_mul]; congr 1 <;> ac_rfl
  rw [e1, e2, h]
/-- Sums of proportional quadruples are proportional. -/
theorem sumV_prop {x x' y : Iv} (h : PropV x x') : PropV (sumV x y) (sumV x' y) :=
  ⟨sum_prop1 _ _ _ _ _ _ h.1, sum_prop1 _ _ _ _ _ _ h.2.1, sum_prop1 _ _ _ _ _ _ h.2.2⟩
theorem assoc1 (a d b e c f : Int) : (a * e + b * d) * f + c * (d * e) = a * (e * f) + (b * f + c * e) * d := by
  rw [Int.add_mul, Int.add_mul, Int.add_assoc]
  congr 1
  · ac_rfl
  · congr 1 <;> ac_rfl
theorem sumV_assoc (x y z : Iv) : sumV (sumV x y) z = sumV x (sumV y z) := by
  unfold sumV
  simp only [assoc1, Int.mul_assoc]
theorem addV_yes {x y r : Iv} (h : addV x y = (r, true)) : okV x = true ∧ okV y = true ∧ okV r = true ∧ r = simV (sumV x y) := by
  unfold addV at h
  by_cases hh : okV x = true ∧ okV y = true ∧ okV (simV (sumV x y)) = true
  · rw [if_pos hh] at h
    obtain ⟨h1, h2, h3⟩ := hh
    have e := (Prod.mk.inj h).1
    subst e
    exact ⟨h1, h2, h3, rfl⟩
  · rw [if_neg hh] at h
    exact absurd (Prod.mk.inj h).2 (by simp)
/-- If all four sums are there, adding is associative. -/
theorem addV_assoc {x y z a b c d : Iv} (h1 : addV x y = (a, true)) (h2 : addV y z = (b, true)) (h3 : addV a z = (c, true)) (h4 : addV x b = (d, true)) : c = d := by
  obtain ⟨k1, k2, k3, k4⟩ := addV_yes h1
  obtain ⟨l1, l2, l3, l4⟩ := addV_yes h2
  obtain ⟨m1, m2, m3, m4⟩ := addV_yes h3
  obtain ⟨n1, n2, n3, n4⟩ := addV_yes h4
  have rx := okV_root k1
  have ry := okV_root k2
  have rz := okV_root l2
  have sxy := sumV_root rx ry
  have syz := sumV_root ry rz
  rw [m4, n4, k4, l4]
  rw [simV_eq (sumV_root (simV_root sxy) rz) (sumV_root sxy rz) (sumV_prop (simV_prop sxy)), sumV_comm x (simV (sumV y z)), simV_eq (sumV_root (simV_root syz) rx) (sumV_root syz rx) (sumV_prop (simV_prop syz)), sumV_comm (sumV y z) x, sumV_assoc]
theorem inv_sum {x : Iv} (hx : 1 ≤ x.root) : simV (sumV x (simV ⟨x.two * -1, x.three * -1, x.five * -1, x.root⟩)) = ⟨0, 0, 0, 1⟩ := by
  have hr : 1 ≤ (⟨x.two * -1, x.three * -1, x.five * -1, x.root⟩ : Iv).root := hx
  have e1 : simV ⟨0, 0, 0, 1⟩ = ⟨0, 0, 0, 1⟩ := by
    have : simV ⟨0, 0, 0, 1⟩ = ⟨(0 : Int).tdiv (gcd4 0 0 0 1), (0 : Int).tdiv (gcd4 0 0 0 1), (0 : Int).tdiv (gcd4 0 0 0 1), (1 : Int).tdiv (gcd4 0 0 0 1)⟩ := rfl
    rw [this, show gcd4 0 0 0 1 = 1 from by decide +kernel]
    rfl
  rw [← e1, sumV_comm, simV_eq (sumV_root (simV_root hr) hx) (sumV_root hr hx) (sumV_prop (simV_prop hr))]
  refine simV_eq (sumV_root hr hx) (by decide) ⟨?_, ?_, ?_⟩
  · show (x.two * -1 * x.root + x.two * x.root) * 1 = 0 * _
    rw [Int.mul_neg_one, Int.neg_mul]; omega
  · show (x.three * -1 * x.root + x.three * x.root) * 1 = 0 * _
    rw [Int.mul_neg_one, Int.neg_mul]; omega
  · show (x.five * -1 * x.root + x.five * x.root) * 1 = 0 * _
    rw [Int.mul_neg_one, Int.neg_mul]; omega
end Go.Proofs.Ytneblpplkidkfaa
/- Mathematics of the order of intervals: it is that of their differences, it is transitive; two intervals have the same size just if their simplest forms are the same. -/
namespace Go.Proofs.Ytneblpplkidkfaa
open Go.RowKit
set_option linter.unusedVariables false
def sgnV (x : Iv) : Int := sgnP x.two x.three x.five
/-- The difference of two intervals, before it is made simplest. -/
def difV (x y : Iv) : Iv := ⟨x.two * y.root - y.two * x.root, x.three * y.root - y.three * x.root, x.five * y.root - y.five * x.root, x.root * y.root⟩
/-- The comparison of two intervals. -/
def cmpV (x y : Iv) : Int := if okV x = true ∧ okV y = true then sgnV (difV x y) else 0
theorem cmpV_bd (x y : Iv) : -1 ≤ cmpV x y ∧ cmpV x y ≤ 1 := by
  unfold cmpV
  split
  · exact sgnP_bd _ _ _
  · omega
theorem sgnV_prop {x y : Iv} (hx : 1 ≤ x.root) (hy : 1 ≤ y.root) (h : PropV x y) : sgnV x = sgnV y := by
  unfold sgnV
  rw [← sgnP_mul y.root hy x.two, ← sgnP_mul x.root hx y.two, h.1, h.2.1, h.2.2]
theorem sgnV_sim {x : Iv} (h : 1 ≤ x.root) : sgnV (simV x) = sgnV x := sgnV_prop (simV_root h) h (simV_prop h)
theorem sub_swap (a b : Int) : b - a = -(a - b) := by omega
theorem cmpV_swap (x y : Iv) : cmpV y x = -cmpV x y := by
  unfold cmpV
  by_cases h : okV x = true ∧ okV y = true
  · rw [if_pos h, if_pos ⟨h.2, h.1⟩]
    unfold sgnV difV
    simp only
    rw [sub_swap (x.two * y.root), sub_swap (x.three * y.root), sub_swap (x.five * y.root), sgnP_neg]
  · rw [if_neg h, if_neg (fun k => h ⟨k.2, k.1⟩)]; rfl
theorem cross1 (a d b e c f : Int) : (a * f - c * d) * e = (a * e - b * d) * f + (b * f - c * e) * d := by
  rw [Int.sub_mul, Int.sub_mul, Int.sub_mul]
  have e1 : a * f * e = a * e * f := by ac_rfl
  have e2 : c * d * e = c * e * d := by ac_rfl
  have e3 : b * f * d = b * d * f := by ac_rfl
  rw [e1, e2, e3]
  omega
/-- 'not less' is transitive. -/
theorem cmpV_trans {x y z : Iv} (hx : okV x = true) (hy : okV y = true) (hz : okV z = true) (h1 : 0 ≤ cmpV x y) (h2 : 0 ≤ cmpV y z) : 0 ≤ cmpV x z := by
  have rx := okV_root hx
  have ry := okV_root hy
  have rz := okV_root hz
  unfold cmpV at h1 h2 ⊢
  rw [if_pos ⟨hx, hy⟩] at h1
  rw [if_pos ⟨hy, hz⟩] at h2
  rw [if_pos ⟨hx, hz⟩]
  unfold sgnV difV at h1 h2 ⊢
  simp only at h1 h2 ⊢
  rw [← sgnP_mul z.root rz] at h1
  rw [← sgnP_mul x.root rx] at h2
  rw [← sgnP_mul y.root ry, cross1 x.two x.root y.two y.root z.two z.root, cross1 x.three x.root y.three y.root z.three z.root, cross1 x.five x.root y.five y.root z.five z.root]
  exact sgnP_add _ _ _ _ _ _ h1 h2
/-- The sign of the difference is the comparison. -/
theorem cmpV_dif {x y d : Iv} (hx : okV x = true) (hy : okV y = true) (h : addV x (simV ⟨y.two * -1, y.three * -1, y.five * -1, y.root⟩) = (d, true)) : sgnV d = cmpV x y := by
  have rx := okV_root hx
  have ry := okV_root hy
  have rn : 1 ≤ (⟨y.two * -1, y.three * -1, y.five * -1, y.root⟩ : Iv).root := ry
  obtain ⟨_, _, _, e⟩ := addV_yes h
  have e2 : sumV x ⟨y.two * -1, y.three * -1, y.five * -1, y.root⟩ = difV x y := by
    unfold sumV difV
    simp only [Int.mul_neg_one, Int.neg_mul, Int.sub_eq_add_neg]
  unfold cmpV
  rw [if_pos ⟨hx, hy⟩, e, sumV_comm, simV_eq (sumV_root (simV_root rn) rx) (sumV_root rn rx) (sumV_prop (simV_prop rn)), sumV_comm, e2]
  exact sgnV_sim (by show 1 ≤ x.root * y.root; exact mul_pos1 rx ry)
theorem propV_trans {x y z : Iv} (hy : 1 ≤ y.root) (h1 : PropV x y) (h2 : PropV y z) : PropV x z := by
  have k : ∀ a b c : Int, a * y.root = b * x.root → b * z.root = c * y.root → a * z.root = c * x.root := by
    intro a b c e1 e2
    apply Int.eq_of_mul_eq_mul_left (show y.root ≠ 0 by omega)
    calc y.root * (a * z.root) = a * y.root * z.root := by ac_rfl
      _ = b * x.root * z.root := by rw [e1]
      _ = b * z.root * x.root := by ac_rfl
      _ = c * y.root * x.root := by rw [e2]
      _ = y.root * (c * x.root) := by ac_rfl
  exact ⟨k _ _ _ h1.1 h2.1, k _ _ _ h1.2.1 h2.2.1, k _ _ _ h1.2.2 h2.2.2⟩
theorem propV_symm {x y : Iv} (h : PropV x y) : PropV y x := ⟨h.1.symm, h.2.1.symm, h.2.2.symm⟩
/-- Two valid intervals have the same simplest form just if neither is greater. -/
theorem cmpV_zero {x y : Iv} (hx : okV x = true) (hy : okV y = true) : cmpV x y = 0 ↔ simV x = simV y := by
  have rx := okV_root hx
  have ry := okV_root hy
  unfold cmpV
  rw [if_pos ⟨hx, hy⟩]
  unfold sgnV difV
  simp only
  rw [sgnP_zero]
  constructor
  · rintro ⟨h1, h2, h3⟩
    exact simV_eq rx ry ⟨by omega, by omega, by omega⟩
  · intro h
    have p1 := propV_symm (simV_prop rx)
    rw [h] at p1
    have p2 := propV_trans (simV_root ry) p1 (simV_prop ry)
    exact ⟨by have := p2.1; omega, by have := p2.2.1; omega, by have := p2.2.2; omega⟩
/-- An interval whose four numbers are multiplied by a positive number has the same simplest form. -/
theorem simV_times (x : Iv) (k : Int) (hk : 1 ≤ k) (hx : 1 ≤ x.root) : simV ⟨k * x.two, k * x.three, k * x.five, k * x.root⟩ = simV x :=
  simV_eq (mul_pos1 hk hx) hx ⟨by show k * x.two * x.root = x.two * (k * x.root); ac_rfl, by show k * x.three * x.root = x.three * (k * x.root); ac_rfl, by show k * x.five * x.root = x.five * (k * x.root); ac_rfl⟩
end Go.Proofs.Ytneblpplkidkfaa
/- Mathematics of octaves: how many octaves an interval has. -/
namespace Go.Proofs.Ytneblpplkidkfaa
open Go.RowKit
set_option linter.unusedVariables false
/-- Enough octaves are more than any powers of 3 and 5. -/
theorem sgnP_far (H F T : Nat) (t h f : Int) (hT : 3 ^ H * 5 ^ F ≤ 2 ^ T) (ht : (T : Int) ≤ t) (h1 : -(H : Int) ≤ h) (h2 : h ≤ H) (f1 : -(F : Int) ≤ f) (f2 : f ≤ F) : 0 ≤ sgnP t h f := by
  rw [sgnP_nonneg_iff]
  have e1 : (-t).toNat = 0 := by omega
  have a1 : 3 ^ (-h).toNat ≤ 3 ^ H := Nat.pow_le_pow_right (by omega) (by omega)
  have a2 : 5 ^ (-f).toNat ≤ 5 ^ F := Nat.pow_le_pow_right (by omega) (by omega)
  have a3 : 2 ^ T ≤ 2 ^ t.toNat := Nat.pow_le_pow_right (by omega) (by omega)
  have a4 : 0 < 3 ^ h.toNat := Nat.pow_pos (by omega)
  have a5 : 0 < 5 ^ f.toNat := Nat.pow_pos (by omega)
  rw [e1]
  unfold pw
  rw [Nat.pow_zero, Nat.one_mul]
  exact Nat.le_trans (Nat.mul_le_mul a1 a2) (Nat.le_trans hT (Nat.le_trans a3 (Nat.le_trans (Nat.le_mul_of_pos_right _ a4) (Nat.le_mul_of_pos_right _ a5))))
theorem sgnP_near (H F T : Nat) (t h f : Int) (hT : 3 ^ H * 5 ^ F ≤ 2 ^ T) (ht : t ≤ -(T : Int)) (ht0 : t ≠ 0) (h1 : -(H : Int) ≤ h) (h2 : h ≤ H) (f1 : -(F : Int) ≤ f) (f2 : f ≤ F) : sgnP t h f < 0 := by
  have k := sgnP_far H F T (-t) (-h) (-f) hT (by omega) (by omega) (by omega) (by omega) (by omega)
  rw [sgnP_neg] at k
  have z := sgnP_zero t h f
  rcases Int.lt_or_eq_of_le (show sgnP t h f ≤ 0 by omega) with h | h
  · exact h
  · exact absurd (z.1 h).1 ht0
/-- More octaves are more. -/
theorem sgnP_mono {t t' h f : Int} (h1 : t ≤ t') (h2 : 0 ≤ sgnP t h f) : 0 ≤ sgnP t' h f := by
  have k := sgnP_far 0 0 0 (t' - t) 0 0 (by decide) (by omega) (by omega) (by omega) (by omega) (by omega)
  have s := sgnP_add _ _ _ _ _ _ h2 k
  rw [show t + (t' - t) = t' from by omega, Int.add_zero, Int.add_zero] at s
  exact s
theorem mul_mono {m n d : Int} (h : m ≤ n) (hd : 1 ≤ d) : m * d ≤ n * d := Int.mul_le_mul_of_nonneg_right h (by omega)
theorem cell_step (P : Nat → Prop) (hP : ∀ k, P k ∨ ¬ P k) (h0 : P 0) : ∀ m, ¬ P m → ∃ k, k < m ∧ P k ∧ ¬ P (k + 1) := by
  intro m
  induction m with
  | zero => intro h; exact absurd h0 h
  | succ m ih =>
    intro h
    rcases hP m with hm | hm
    · exact ⟨m, by omega, hm, h⟩
    · obtain ⟨k, hk, h1, h2⟩ := ih hm
      exact ⟨k, by omega, h1, h2⟩
theorem far400 : 3 ^ 400 * 5 ^ 400 ≤ 2 ^ 1600 := by decide +kernel
/-- The interval has n octaves: no number of octaves up to n is greater than it, and all others are. -/
def OctAt (a b c d n : Int) : Prop := okI a b c d = true ∧ ∀ k : Int, 0 ≤ sgnP (a - k * d) b c ↔ k ≤ n
theorem okI_nums {a b c d : Int} (h : okI a b c d = true) : 1 ≤ d ∧ d ≤ 12 ∧ -400 ≤ a ∧ a ≤ 400 ∧ -400 ≤ b ∧ b ≤ 400 ∧ -400 ≤ c ∧ c ≤ 400 := by
  unfold okI at h
  simpa only [decide_eq_true_eq] using h
theorem octAt_ex {a b c d : Int} (h : okI a b c d = true) : ∃ n, OctAt a b c d n := by
  obtain ⟨d1, d2, a1, a2, b1, b2, c1, c2⟩ := okI_nums h
  have h0 : 0 ≤ sgnP (a - (-2000) * d) b c := sgnP_far 400 400 1600 _ _ _ far400 (by omega) b1 b2 c1 c2
  have h9 : sgnP (a - 2000 * d) b c < 0 := sgnP_near 400 400 1600 _ _ _ far400 (by omega) (by omega) b1 b2 c1 c2
  obtain ⟨k, hk, k1, k2⟩ := cell_step (fun k => 0 ≤ sgnP (a - ((-2000) + (k : Int)) * d) b c) (fun k => by omega) (by simpa using h0) 4000 (by
    show ¬ 0 ≤ sgnP (a - ((-2000) + ((4000 : Nat) : Int)) * d) b c
    rw [show (-2000 : Int) + ((4000 : Nat) : Int) = 2000 from rfl]
    omega)
  refine ⟨-2000 + (k : Int), h, fun m => ⟨fun hm => ?_, fun hm => ?_⟩⟩
  · rcases (show m ≤ -2000 + (k : Int) ∨ -2000 + ((k + 1 : Nat) : Int) ≤ m from by omega) with q | q
    · exact q
    · exact absurd (sgnP_mono (by have := mul_mono q d1; omega) hm) k2
  · exact sgnP_mono (by have := mul_mono hm d1; omega) k1
theorem octAt_one {a b c d n m : Int} (h : OctAt a b c d n) (h' : OctAt a b c d m) : n = m := by
  have e1 := (h'.2 n).1 ((h.2 n).2 (Int.le_refl _))
  have e2 := (h.2 m).1 ((h'.2 m).2 (Int.le_refl _))
  omega
/-- Between which multiples of the root the octaves lie. -/
theorem octAt_bd {a b c d n p : Int} (h : OctAt a b c d n) (hp : n * d = p) : p < a + 1600 ∧ a - 1600 - d < p := by
  obtain ⟨hx, hn⟩ := h
  obtain ⟨d1, d2, a1, a2, b1, b2, c1, c2⟩ := okI_nums hx
  subst hp
  constructor
  · have k := (hn n).2 (Int.le_refl _)
    rcases (show n * d < a + 1600 ∨ a - n * d ≤ -1600 from by omega) with q | q
    · exact q
    · have := sgnP_near 400 400 1600 _ b c far400 q (by omega) b1 b2 c1 c2
      omega
  · rcases (show a - 1600 - d < n * d ∨ 1600 ≤ a - (n + 1) * d from by rw [Int.add_mul, Int.one_mul]; omega) with q | q
    · exact q
    · have := (hn (n + 1)).1 (sgnP_far 400 400 1600 _ b c far400 q b1 b2 c1 c2)
      omega
theorem octAt_num {a b c d n : Int} (h : OctAt a b c d n) : -2100 ≤ n ∧ n ≤ 2100 := by
  obtain ⟨p, hp⟩ : ∃ p, n * d = p := ⟨_, rfl⟩
  have k := octAt_bd h hp
  obtain ⟨d1, d2, a1, a2, b1, b2, c1, c2⟩ := okI_nums h.1
  constructor
  · rcases (show -2100 ≤ n ∨ n ≤ -2100 from by omega) with q | q
    · exact q
    · have := mul_mono q d1
      omega
  · rcases (show n ≤ 2100 ∨ 2100 ≤ n from by omega) with q | q
    · exact q
    · have := mul_mono q d1
      omega
/-- The middle of two numbers that are at least two apart lies between them. -/
theorem mid_bd {x y m : Int} (h : x + 2 ≤ y) (hm : m = (x + y).tdiv 2) : x < m ∧ m < y := by
  rcases (show 0 ≤ x + y ∨ x + y < 0 from by omega) with q | q
  · rw [Int.tdiv_eq_ediv_of_nonneg q] at hm
    omega
  · have e : (x + y).tdiv 2 = -((-(x + y)).tdiv 2) := by rw [Int.neg_tdiv, Int.neg_neg]
    rw [e, Int.tdiv_eq_ediv_of_nonneg (by omega)] at hm
    omega
/-- The first bounds of the search. -/
theorem high_bd {d H : Int} (d1 : 1 ≤ d) (hH : H = (2000 : Int).tdiv d + 1) : 2001 ≤ H * d ∧ H * d ≤ 2000 + d ∧ 1 ≤ H ∧ H ≤ 2001 := by
  rw [Int.tdiv_eq_ediv_of_nonneg (by omega)] at hH
  have e1 := Int.mul_ediv_add_emod 2000 d
  have e2 := Int.emod_nonneg 2000 (show d ≠ 0 by omega)
  have e3 := Int.emod_lt_of_pos 2000 (show 0 < d by omega)
  have e4 : H * d = d * (2000 / d) + d := by rw [hH, Int.add_mul, Int.one_mul, Int.mul_comm]
  have e5 : 0 ≤ 2000 / d := Int.ediv_nonneg (by omega) (by omega)
  refine ⟨by omega, by omega, by omega, ?_⟩
  rcases (show H ≤ 2001 ∨ 2002 ≤ H from by omega) with q | q
  · exact q
  · have := mul_mono q d1
    omega
theorem oct_start {a b c d n H : Int} (h : OctAt a b c d n) (hH : H = (2000 : Int).tdiv d + 1) : -H ≤ n ∧ n < H := by
  obtain ⟨d1, d2, a1, a2, b1, b2, c1, c2⟩ := okI_nums h.1
  obtain ⟨h1, h2, h3, h4⟩ := high_bd d1 hH
  have k := octAt_bd h rfl
  constructor
  · rcases (show -H ≤ n ∨ n + 1 ≤ -H from by omega) with q | q
    · exact q
    · have := mul_mono q d1
      rw [Int.add_mul, Int.one_mul, Int.neg_mul] at this
      omega
  · rcases (show n < H ∨ H ≤ n from by omega) with q | q
    · exact q
    · have := mul_mono q d1
      omega
theorem mid_mul {m H d : Int} (d1 : 1 ≤ d) (d2 : d ≤ 12) (hb : H * d ≤ 2000 + d) (h1 : -H ≤ m) (h2 : m ≤ H) : -2012 ≤ m * d ∧ m * d ≤ 2012 := by
  have e1 := mul_mono h1 d1
  have e2 := mul_mono h2 d1
  rw [Int.neg_mul] at e1
  omega
end Go.Proofs.Ytneblpplkidkfaa
