/- Mathematics of the order of intervals: it is that of their differences, it is transitive; two intervals have the same size just if their simplest forms are the same. -/
import Derived.Test.YtjnhfgacgobfcaaDoorAddTotal
import Derived.Test.YtjnhfgacgobfcaaDoorSgnMath
namespace Go.Proofs.YtjnhfgacgobfcaaDoor
open Go.RowKit
set_option linter.unusedVariables false
def sgnV (x : Iv) : Int := sgnP x.two x.three x.five
/-- The difference of two intervals, before it is made simplest. -/
def difV (x y : Iv) : Iv := ⟨x.two * y.root - y.two * x.root, x.three * y.root - y.three * x.root, x.five * y.root - y.five * x.root, x.root * y.root⟩
/-- The comparison of two intervals. -/
def cmpV (x y : Iv) : Int := if okV x = true ∧ okV y = true then sgnV (difV x y) else 0
theorem cmpV_bd (x y : Iv) : -1 ≤ cmpV x y ∧ cmpV x y ≤ 1 := by
  unfold cmpV
  split
  · exact sgnP_bd _ _ _
  · omega
theorem sgnV_prop {x y : Iv} (hx : 1 ≤ x.root) (hy : 1 ≤ y.root) (h : PropV x y) : sgnV x = sgnV y := by
  unfold sgnV
  rw [← sgnP_mul y.root hy x.two, ← sgnP_mul x.root hx y.two, h.1, h.2.1, h.2.2]
theorem sgnV_sim {x : Iv} (h : 1 ≤ x.root) : sgnV (simV x) = sgnV x := sgnV_prop (simV_root h) h (simV_prop h)
theorem sub_swap (a b : Int) : b - a = -(a - b) := by omega
theorem cmpV_swap (x y : Iv) : cmpV y x = -cmpV x y := by
  unfold cmpV
  by_cases h : okV x = true ∧ okV y = true
  · rw [if_pos h, if_pos ⟨h.2, h.1⟩]
    unfold sgnV difV
    simp only
    rw [sub_swap (x.two * y.root), sub_swap (x.three * y.root), sub_swap (x.five * y.root), sgnP_neg]
  · rw [if_neg h, if_neg (fun k => h ⟨k.2, k.1⟩)]; rfl
theorem cross1 (a d b e c f : Int) : (a * f - c * d) * e = (a * e - b * d) * f + (b * f - c * e) * d := by
  rw [Int.sub_mul, Int.sub_mul, Int.sub_mul]
  have e1 : a * f * e = a * e * f := by ac_rfl
  have e2 : c * d * e = c * e * d := by ac_rfl
  have e3 : b * f * d = b * d * f := by ac_rfl
  rw [e1, e2, e3]
  omega
/-- 'not less' is transitive. -/
theorem cmpV_trans {x y z : Iv} (hx : okV x = true) (hy : okV y = true) (hz : okV z = true) (h1 : 0 ≤ cmpV x y) (h2 : 0 ≤ cmpV y z) : 0 ≤ cmpV x z := by
  have rx := okV_root hx
  have ry := okV_root hy
  have rz := okV_root hz
  unfold cmpV at h1 h2 ⊢
  rw [if_pos ⟨hx, hy⟩] at h1
  rw [if_pos ⟨hy, hz⟩] at h2
  rw [if_pos ⟨hx, hz⟩]
  unfold sgnV difV at h1 h2 ⊢
  simp only at h1 h2 ⊢
  rw [← sgnP_mul z.root rz] at h1
  rw [← sgnP_mul x.root rx] at h2
  rw [← sgnP_mul y.root ry, cross1 x.two x.root y.two y.root z.two z.root, cross1 x.three x.root y.three y.root z.three z.root, cross1 x.five x.root y.five y.root z.five z.root]
  exact sgnP_add _ _ _ _ _ _ h1 h2
/-- The sign of the difference is the comparison. -/
theorem cmpV_dif {x y d : Iv} (hx : okV x = true) (hy : okV y = true) (h : addV x (simV ⟨y.two * -1, y.three * -1, y.five * -1, y.root⟩) = (d, true)) : sgnV d = cmpV x y := by
  have rx := okV_root hx
  have ry := okV_root hy
  have rn : 1 ≤ (⟨y.two * -1, y.three * -1, y.five * -1, y.root⟩ : Iv).root := ry
  obtain ⟨_, _, _, e⟩ := addV_yes h
  have e2 : sumV x ⟨y.two * -1, y.three * -1, y.five * -1, y.root⟩ = difV x y := by
    unfold sumV difV
    simp only [Int.mul_neg_one, Int.neg_mul, Int.sub_eq_add_neg]
  unfold cmpV
  rw [if_pos ⟨hx, hy⟩, e, sumV_comm, simV_eq (sumV_root (simV_root rn) rx) (sumV_root rn rx) (sumV_prop (simV_prop rn)), sumV_comm, e2]
  exact sgnV_sim (by show 1 ≤ x.root * y.root; exact mul_pos1 rx ry)
theorem propV_trans {x y z : Iv} (hy : 1 ≤ y.root) (h1 : PropV x y) (h2 : PropV y z) : PropV x z := by
  have k : ∀ a b c : Int, a * y.root = b * x.root → b * z.root = c * y.root → a * z.root = c * x.root := by
    intro a b c e1 e2
    apply Int.eq_of_mul_eq_mul_left (show y.root ≠ 0 by omega)
    calc y.root * (a * z.root) = a * y.root * z.root := by ac_rfl
      _ = b * x.root * z.root := by rw [e1]
      _ = b * z.root * x.root := by ac_rfl
      _ = c * y.root * x.root := by rw [e2]
      _ = y.root * (c * x.root) := by ac_rfl
  exact ⟨k _ _ _ h1.1 h2.1, k _ _ _ h1.2.1 h2.2.1, k _ _ _ h1.2.2 h2.2.2⟩
theorem propV_symm {x y : Iv} (h : PropV x y) : PropV y x := ⟨h.1.symm, h.2.1.symm, h.2.2.symm⟩
/-- Two valid intervals have the same simplest form just if neither is greater. -/
theorem cmpV_zero {x y : Iv} (hx : okV x = true) (hy : okV y = true) : cmpV x y = 0 ↔ simV x = simV y := by
  have rx := okV_root hx
  have ry := okV_root hy
  unfold cmpV
  rw [if_pos ⟨hx, hy⟩]
  unfold sgnV difV
  simp only
  rw [sgnP_zero]
  constructor
  · rintro ⟨h1, h2, h3⟩
    exact simV_eq rx ry ⟨by omega, by omega, by omega⟩
  · intro h
    have p1 := propV_symm (simV_prop rx)
    rw [h] at p1
    have p2 := propV_trans (simV_root ry) p1 (simV_prop ry)
    exact ⟨by have := p2.1; omega, by have := p2.2.1; omega, by have := p2.2.2; omega⟩
/-- An interval whose four numbers are multiplied by a positive number has the same simplest form. -/
theorem simV_times (x : Iv) (k : Int) (hk : 1 ≤ k) (hx : 1 ≤ x.root) : simV ⟨k * x.two, k * x.three, k * x.five, k * x.root⟩ = simV x :=
  simV_eq (mul_pos1 hk hx) hx ⟨by show k * x.two * x.root = x.two * (k * x.root); ac_rfl, by show k * x.three * x.root = x.three * (k * x.root); ac_rfl, by show k * x.five * x.root = x.five * (k * x.root); ac_rfl⟩
end Go.Proofs.YtjnhfgacgobfcaaDoor
