/- Mathematics of octaves: how many octaves an interval has. -/
import Derived.Test.YtjnhfgacgobfcaaDoorOrdMath
namespace Go.Proofs.YtjnhfgacgobfcaaDoor
open Go.RowKit
set_option linter.unusedVariables false
/-- Enough octaves are more than any powers of 3 and 5. -/
theorem sgnP_far (H F T : Nat) (t h f : Int) (hT : 3 ^ H * 5 ^ F ≤ 2 ^ T) (ht : (T : Int) ≤ t) (h1 : -(H : Int) ≤ h) (h2 : h ≤ H) (f1 : -(F : Int) ≤ f) (f2 : f ≤ F) : 0 ≤ sgnP t h f := by
  rw [sgnP_nonneg_iff]
  have e1 : (-t).toNat = 0 := by omega
  have a1 : 3 ^ (-h).toNat ≤ 3 ^ H := Nat.pow_le_pow_right (by omega) (by omega)
  have a2 : 5 ^ (-f).toNat ≤ 5 ^ F := Nat.pow_le_pow_right (by omega) (by omega)
  have a3 : 2 ^ T ≤ 2 ^ t.toNat := Nat.pow_le_pow_right (by omega) (by omega)
  have a4 : 0 < 3 ^ h.toNat := Nat.pow_pos (by omega)
  have a5 : 0 < 5 ^ f.toNat := Nat.pow_pos (by omega)
  rw [e1]
  unfold pw
  rw [Nat.pow_zero, Nat.one_mul]
  exact Nat.le_trans (Nat.mul_le_mul a1 a2) (Nat.le_trans hT (Nat.le_trans a3 (Nat.le_trans (Nat.le_mul_of_pos_right _ a4) (Nat.le_mul_of_pos_right _ a5))))
theorem sgnP_near (H F T : Nat) (t h f : Int) (hT : 3 ^ H * 5 ^ F ≤ 2 ^ T) (ht : t ≤ -(T : Int)) (ht0 : t ≠ 0) (h1 : -(H : Int) ≤ h) (h2 : h ≤ H) (f1 : -(F : Int) ≤ f) (f2 : f ≤ F) : sgnP t h f < 0 := by
  have k := sgnP_far H F T (-t) (-h) (-f) hT (by omega) (by omega) (by omega) (by omega) (by omega)
  rw [sgnP_neg] at k
  have z := sgnP_zero t h f
  rcases Int.lt_or_eq_of_le (show sgnP t h f ≤ 0 by omega) with h | h
  · exact h
  · exact absurd (z.1 h).1 ht0
/-- More octaves are more. -/
theorem sgnP_mono {t t' h f : Int} (h1 : t ≤ t') (h2 : 0 ≤ sgnP t h f) : 0 ≤ sgnP t' h f := by
  have k := sgnP_far 0 0 0 (t' - t) 0 0 (by decide) (by omega) (by omega) (by omega) (by omega) (by omega)
  have s := sgnP_add _ _ _ _ _ _ h2 k
  rw [show t + (t' - t) = t' from by omega, Int.add_zero, Int.add_zero] at s
  exact s
theorem mul_mono {m n d : Int} (h : m ≤ n) (hd : 1 ≤ d) : m * d ≤ n * d := Int.mul_le_mul_of_nonneg_right h (by omega)
theorem cell_step (P : Nat → Prop) (hP : ∀ k, P k ∨ ¬ P k) (h0 : P 0) : ∀ m, ¬ P m → ∃ k, k < m ∧ P k ∧ ¬ P (k + 1) := by
  intro m
  induction m with
  | zero => intro h; exact absurd h0 h
  | succ m ih =>
    intro h
    rcases hP m with hm | hm
    · exact ⟨m, by omega, hm, h⟩
    · obtain ⟨k, hk, h1, h2⟩ := ih hm
      exact ⟨k, by omega, h1, h2⟩
theorem far400 : 3 ^ 400 * 5 ^ 400 ≤ 2 ^ 1600 := by decide +kernel
/-- The interval has n octaves: no number of octaves up to n is greater than it, and all others are. -/
def OctAt (a b c d n : Int) : Prop := okI a b c d = true ∧ ∀ k : Int, 0 ≤ sgnP (a - k * d) b c ↔ k ≤ n
theorem okI_nums {a b c d : Int} (h : okI a b c d = true) : 1 ≤ d ∧ d ≤ 12 ∧ -400 ≤ a ∧ a ≤ 400 ∧ -400 ≤ b ∧ b ≤ 400 ∧ -400 ≤ c ∧ c ≤ 400 := by
  unfold okI at h
  simpa only [decide_eq_true_eq] using h
theorem octAt_ex {a b c d : Int} (h : okI a b c d = true) : ∃ n, OctAt a b c d n := by
  obtain ⟨d1, d2, a1, a2, b1, b2, c1, c2⟩ := okI_nums h
  have h0 : 0 ≤ sgnP (a - (-2000) * d) b c := sgnP_far 400 400 1600 _ _ _ far400 (by omega) b1 b2 c1 c2
  have h9 : sgnP (a - 2000 * d) b c < 0 := sgnP_near 400 400 1600 _ _ _ far400 (by omega) (by omega) b1 b2 c1 c2
  obtain ⟨k, hk, k1, k2⟩ := cell_step (fun k => 0 ≤ sgnP (a - ((-2000) + (k : Int)) * d) b c) (fun k => by omega) (by simpa using h0) 4000 (by
    show ¬ 0 ≤ sgnP (a - ((-2000) + ((4000 : Nat) : Int)) * d) b c
    rw [show (-2000 : Int) + ((4000 : Nat) : Int) = 2000 from rfl]
    omega)
  refine ⟨-2000 + (k : Int), h, fun m => ⟨fun hm => ?_, fun hm => ?_⟩⟩
  · rcases (show m ≤ -2000 + (k : Int) ∨ -2000 + ((k + 1 : Nat) : Int) ≤ m from by omega) with q | q
    · exact q
    · exact absurd (sgnP_mono (by have := mul_mono q d1; omega) hm) k2
  · exact sgnP_mono (by have := mul_mono hm d1; omega) k1
theorem octAt_one {a b c d n m : Int} (h : OctAt a b c d n) (h' : OctAt a b c d m) : n = m := by
  have e1 := (h'.2 n).1 ((h.2 n).2 (Int.le_refl _))
  have e2 := (h.2 m).1 ((h'.2 m).2 (Int.le_refl _))
  omega
/-- Between which multiples of the root the octaves lie. -/
theorem octAt_bd {a b c d n p : Int} (h : OctAt a b c d n) (hp : n * d = p) : p < a + 1600 ∧ a - 1600 - d < p := by
  obtain ⟨hx, hn⟩ := h
  obtain ⟨d1, d2, a1, a2, b1, b2, c1, c2⟩ := okI_nums hx
  subst hp
  constructor
  · have k := (hn n).2 (Int.le_refl _)
    rcases (show n * d < a + 1600 ∨ a - n * d ≤ -1600 from by omega) with q | q
    · exact q
    · have := sgnP_near 400 400 1600 _ b c far400 q (by omega) b1 b2 c1 c2
      omega
  · rcases (show a - 1600 - d < n * d ∨ 1600 ≤ a - (n + 1) * d from by rw [Int.add_mul, Int.one_mul]; omega) with q | q
    · exact q
    · have := (hn (n + 1)).1 (sgnP_far 400 400 1600 _ b c far400 q b1 b2 c1 c2)
      omega
theorem octAt_num {a b c d n : Int} (h : OctAt a b c d n) : -2100 ≤ n ∧ n ≤ 2100 := by
  obtain ⟨p, hp⟩ : ∃ p, n * d = p := ⟨_, rfl⟩
  have k := octAt_bd h hp
  obtain ⟨d1, d2, a1, a2, b1, b2, c1, c2⟩ := okI_nums h.1
  constructor
  · rcases (show -2100 ≤ n ∨ n ≤ -2100 from by omega) with q | q
    · exact q
    · have := mul_mono q d1
      omega
  · rcases (show n ≤ 2100 ∨ 2100 ≤ n from by omega) with q | q
    · exact q
    · have := mul_mono q d1
      omega
/-- The middle of two numbers that are at least two apart lies between them. -/
theorem mid_bd {x y m : Int} (h : x + 2 ≤ y) (hm : m = (x + y).tdiv 2) : x < m ∧ m < y := by
  rcases (show 0 ≤ x + y ∨ x + y < 0 from by omega) with q | q
  · rw [Int.tdiv_eq_ediv_of_nonneg q] at hm
    omega
  · have e : (x + y).tdiv 2 = -((-(x + y)).tdiv 2) := by rw [Int.neg_tdiv, Int.neg_neg]
    rw [e, Int.tdiv_eq_ediv_of_nonneg (by omega)] at hm
    omega
/-- The first bounds of the search. -/
theorem high_bd {d H : Int} (d1 : 1 ≤ d) (hH : H = (2000 : Int).tdiv d + 1) : 2001 ≤ H * d ∧ H * d ≤ 2000 + d ∧ 1 ≤ H ∧ H ≤ 2001 := by
  rw [Int.tdiv_eq_ediv_of_nonneg (by omega)] at hH
  have e1 := Int.mul_ediv_add_emod 2000 d
  have e2 := Int.emod_nonneg 2000 (show d ≠ 0 by omega)
  have e3 := Int.emod_lt_of_pos 2000 (show 0 < d by omega)
  have e4 : H * d = d * (2000 / d) + d := by rw [hH, Int.add_mul, Int.one_mul, Int.mul_comm]
  have e5 : 0 ≤ 2000 / d := Int.ediv_nonneg (by omega) (by omega)
  refine ⟨by omega, by omega, by omega, ?_⟩
  rcases (show H ≤ 2001 ∨ 2002 ≤ H from by omega) with q | q
  · exact q
  · have := mul_mono q d1
    omega
theorem oct_start {a b c d n H : Int} (h : OctAt a b c d n) (hH : H = (2000 : Int).tdiv d + 1) : -H ≤ n ∧ n < H := by
  obtain ⟨d1, d2, a1, a2, b1, b2, c1, c2⟩ := okI_nums h.1
  obtain ⟨h1, h2, h3, h4⟩ := high_bd d1 hH
  have k := octAt_bd h rfl
  constructor
  · rcases (show -H ≤ n ∨ n + 1 ≤ -H from by omega) with q | q
    · exact q
    · have := mul_mono q d1
      rw [Int.add_mul, Int.one_mul, Int.neg_mul] at this
      omega
  · rcases (show n < H ∨ H ≤ n from by omega) with q | q
    · exact q
    · have := mul_mono q d1
      omega
theorem mid_mul {m H d : Int} (d1 : 1 ≤ d) (d2 : d ≤ 12) (hb : H * d ≤ 2000 + d) (h1 : -H ≤ m) (h2 : m ≤ H) : -2012 ≤ m * d ∧ m * d ≤ 2012 := by
  have e1 := mul_mono h1 d1
  have e2 := mul_mono h2 d1
  rw [Int.neg_mul] at e1
  omega
end Go.Proofs.YtjnhfgacgobfcaaDoor
