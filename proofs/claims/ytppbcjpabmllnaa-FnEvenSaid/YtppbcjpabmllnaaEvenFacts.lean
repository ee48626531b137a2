/- Chapter 23 without the program: the even scale is even; every even scale is a mode of it. -/
import Derived.Test.YtppbcjpabmllnaaEvenMath
namespace Go.Proofs.Ytppbcjpabmllnaa
open Go.RowKit Go.Joins
set_option linter.unusedVariables false
theorem dfL_len (n S : Nat) : (dfL n S).length = n := dfTo_len n S n
theorem dfL_sum {n S : Nat} : ∀ m, m ≤ n → sumTo (dfL n S) m = ((m * S / n : Nat) : Int)
  | 0, _ => by simp [sumTo]
  | m + 1, h => by
    have e := dfL_sum (n := n) (S := S) m (by omega)
    have g : (dfL n S).getD m 0 = (((m + 1) * S / n : Nat) : Int) - ((m * S / n : Nat) : Int) := dfTo_get n S n m h
    show sumTo (dfL n S) m + (dfL n S).getD m 0 = _
    rw [e, g]
    omega
theorem dfL_all {n S : Nat} (hn : 0 < n) : sumTo (dfL n S) n = (S : Int) := by rw [dfL_sum n (Nat.le_refl _), Nat.mul_div_cancel_left S hn]
theorem step_bd {n S j : Nat} (hn : 0 < n) (h1 : n ≤ S) (h2 : S ≤ 20 * n) : j * S / n + 1 ≤ (j + 1) * S / n ∧ (j + 1) * S / n ≤ j * S / n + 20 := by
  rw [Nat.add_mul, Nat.one_mul]
  constructor
  · have := Nat.div_le_div_right (c := n) (show j * S + n ≤ j * S + S from by omega)
    rwa [Nat.add_div_right _ hn] at this
  · have := Nat.div_le_div_right (c := n) (show j * S + S ≤ j * S + 20 * n from by omega)
    rwa [Nat.add_mul_div_right _ _ hn] at this
theorem dfL_ok {n S : Nat} (h0 : 1 ≤ n ∧ n ≤ 12) (h1 : n ≤ S) (h2 : S ≤ 20 * n) (h3 : S ≤ 60) : ScOk (dfL n S) := by
  refine ⟨by rw [dfL_len]; exact h0, fun j hj => ?_, ?_⟩
  · rw [dfL_len] at hj
    have g : (dfL n S).getD j 0 = (((j + 1) * S / n : Nat) : Int) - ((j * S / n : Nat) : Int) := dfTo_get n S n j hj
    have b := step_bd (j := j) h0.1 h1 h2
    rw [g]
    omega
  · rw [dfL_len, dfL_all h0.1]
    omega
theorem dfL_ring {n S : Nat} (hn : 0 < n) (j : Nat) : ringF (dfL n S) j = (((j + 1) * S / n : Nat) : Int) - ((j * S / n : Nat) : Int) := by
  have hr := Nat.mod_lt j hn
  have hd := Nat.div_add_mod j n
  have e : ringF (dfL n S) j = (dfL n S).getD (j % n) 0 := by unfold ringF; rw [dfL_len]
  have g : (dfL n S).getD (j % n) 0 = (((j % n + 1) * S / n : Nat) : Int) - ((j % n * S / n : Nat) : Int) := dfTo_get n S n _ hr
  rw [e, g]
  generalize j / n = q at hd
  generalize j % n = r at hd
  subst hd
  have e1 : (n * q + r) * S / n = q * S + r * S / n := by
    rw [Nat.add_mul, Nat.mul_assoc, Nat.mul_add_div hn]
  have e2 : (n * q + r + 1) * S / n = q * S + (r + 1) * S / n := by
    rw [Nat.add_assoc, Nat.add_mul, Nat.mul_assoc, Nat.mul_add_div hn]
  rw [e1, e2]
  omega
theorem dfL_span {n S : Nat} (hn : 0 < n) (i : Nat) : ∀ k, spTo (dfL n S) i k = (((i + k) * S / n : Nat) : Int) - ((i * S / n : Nat) : Int)
  | 0 => by simp [spTo]
  | k + 1 => by
    rw [sp_ring, dfL_span hn i k, dfL_ring hn, ← Nat.add_assoc]
    omega
theorem dfL_two {n S : Nat} (hn : 0 < n) (i k : Nat) : ((k * S / n : Nat) : Int) ≤ spTo (dfL n S) i k ∧ spTo (dfL n S) i k ≤ ((k * S / n : Nat) : Int) + 1 := by
  rw [dfL_span hn, Nat.add_mul]
  have a := Nat.div_add_mod (i * S) n
  have b := Nat.div_add_mod (k * S) n
  have ra := Nat.mod_lt (i * S) hn
  have rb := Nat.mod_lt (k * S) hn
  generalize i * S / n = x at a
  generalize k * S / n = y at b
  generalize i * S % n = s at a ra
  generalize k * S % n = t at b rb
  have e : (i * S + k * S) / n = x + y + (s + t) / n := by
    rw [← a, ← b, show n * x + s + (n * y + t) = n * (x + y) + (s + t) from by rw [Nat.mul_add]; omega, Nat.mul_add_div hn]
  have c := Nat.div_lt_of_lt_mul (show s + t < n * 2 from by omega)
  rw [e]
  generalize (s + t) / n = z at c
  omega
theorem dfL_even {n S : Nat} (h : ScOk (dfL n S)) : EvenS (dfL n S) := by
  have hn : 0 < n := by have := h.1.1; rwa [dfL_len] at this
  refine ⟨h, fun k _ => ?_⟩
  obtain ⟨i, _, e1⟩ := lo_has h.1.1 k
  obtain ⟨j, _, e2⟩ := hi_has h.1.1 k
  have a := dfL_two (S := S) hn i k
  have b := dfL_two (S := S) hn j k
  rw [e1, e2]
  omega
/-- The greatest of finitely many numbers. -/
theorem max_ex (d : Nat → Int) : ∀ n, 0 < n → ∃ i, i < n ∧ ∀ j, j < n → d j ≤ d i
  | 0, h => by omega
  | 1, _ => ⟨0, by omega, fun j hj => by
    have e : j = 0 := by omega
    rw [e]
    exact Int.le_refl _⟩
  | n + 2, _ => by
    obtain ⟨i, hi, hm⟩ := max_ex d (n + 1) (by omega)
    by_cases q : d i ≤ d (n + 1)
    · refine ⟨n + 1, by omega, fun j hj => ?_⟩
      rcases (show j < n + 1 ∨ j = n + 1 from by omega) with t | t
      · have := hm j t; omega
      · subst t; exact Int.le_refl _
    · refine ⟨i, by omega, fun j hj => ?_⟩
      rcases (show j < n + 1 ∨ j = n + 1 from by omega) with t | t
      · exact hm j t
      · subst t; omega
/-- An even scale's spans are at least the average, rounded down. -/
theorem even_lo {xs : List Int} {S : Nat} (h : EvenS xs) (hS : sumTo xs xs.length = (S : Int)) {k : Nat} (hk : k ≤ xs.length) (i : Nat) : ((k * S / xs.length : Nat) : Int) ≤ spTo xs i k := by
  have h0 : 0 < xs.length := h.1.1.1
  have a := avg_bd h0 k
  have b := (span_bd h0 k i).1
  have d := diff_even h (show k < xs.length + 1 from by omega)
  rw [hS] at a d
  unfold oneU at d
  have hd := Nat.div_add_mod (k * S) xs.length
  have hr := Nat.mod_lt (k * S) h0
  have hm : ((k : Int) * (S : Int)) % (xs.length : Int) = ((k * S % xs.length : Nat) : Int) := by push_cast; rfl
  have hks : (k : Int) * (S : Int) = ((k * S : Nat) : Int) := by push_cast; rfl
  rw [hm] at d
  rw [hks] at a
  generalize k * S % xs.length = r at hd hr d
  generalize k * S / xs.length = q at hd ⊢
  generalize k * S = t at hd a
  have hdi : ((xs.length : Int) * (q : Int)) + r = t := by rw [← hd]; push_cast; rfl
  have n0 : (0 : Int) < xs.length := by omega
  refine Int.le_trans ?_ b
  by_cases e : (r : Int) = 0
  · rw [if_pos e] at d
    have hh : hiS xs k = loS xs k := by omega
    rw [hh] at a
    have p : (xs.length : Int) * q ≤ xs.length * loS xs k := by omega
    exact Int.le_of_mul_le_mul_left p n0
  · rw [if_neg e] at d
    have hh : hiS xs k = loS xs k + 1 := by omega
    rw [hh] at a
    have p : (xs.length : Int) * q < xs.length * (loS xs k + 1) := by omega
    have := Int.lt_of_mul_lt_mul_left p (by omega)
    omega
theorem even_mode {xs : List Int} {S : Nat} (h : EvenS xs) (hS : sumTo xs xs.length = (S : Int)) : ∃ a, a < xs.length ∧ modL xs a = dfL xs.length S := by
  have h0 : 0 < xs.length := h.1.1.1
  obtain ⟨i, hi, hm⟩ := max_ex (fun i => (xs.length : Int) * spTo xs 0 i - (i : Int) * S) xs.length h0
  refine ⟨i, hi, ?_⟩
  have hper : ∀ j, (xs.length : Int) * spTo xs 0 (j + xs.length) - ((j + xs.length : Nat) : Int) * S = (xs.length : Int) * spTo xs 0 j - (j : Int) * S := fun j => by
    rw [sp_add, sp_all, hS, Int.mul_add, Int.natCast_add, Int.add_mul]
    omega
  have hsp : ∀ k, k ≤ xs.length → spTo xs i k = ((k * S / xs.length : Nat) : Int) := fun k hk => by
    have lo := even_lo h hS hk i
    have up : (xs.length : Int) * spTo xs i k ≤ (k : Int) * S := by
      have e := sp_add xs 0 i k
      rw [Nat.zero_add] at e
      have d : (xs.length : Int) * spTo xs 0 (i + k) - ((i + k : Nat) : Int) * S ≤ (xs.length : Int) * spTo xs 0 i - (i : Int) * S := by
        rcases (show i + k < xs.length ∨ xs.length ≤ i + k from by omega) with q | q
        · exact hm (i + k) q
        · have p := hper (i + k - xs.length)
          rw [show i + k - xs.length + xs.length = i + k from by omega] at p
          rw [p]
          rcases (show i + k - xs.length < xs.length ∨ i + k - xs.length = xs.length from by omega) with u | u
          · exact hm _ u
          · omega
      rw [e, Int.mul_add, Int.natCast_add, Int.add_mul] at d
      omega
    have hd := Nat.div_add_mod (k * S) xs.length
    have hr := Nat.mod_lt (k * S) h0
    have hks : (k : Int) * (S : Int) = ((k * S : Nat) : Int) := by push_cast; rfl
    rw [hks] at up
    generalize k * S % xs.length = r at hd hr
    generalize k * S / xs.length = q at hd lo ⊢
    generalize k * S = t at hd up
    have hdi : ((xs.length : Int) * (q : Int)) + r = t := by rw [← hd]; push_cast; rfl
    have p : (xs.length : Int) * spTo xs i k < xs.length * (q + 1) := by rw [Int.mul_add]; omega
    have := Int.lt_of_mul_lt_mul_left p (by omega)
    omega
  refine ext_ring (by rw [modL_len, dfL_len]) fun j hj => ?_
  rw [modL_len] at hj
  have g : (dfL xs.length S).getD j 0 = (((j + 1) * S / xs.length : Nat) : Int) - ((j * S / xs.length : Nat) : Int) := dfTo_get _ S _ j hj
  have a := hsp j (by omega)
  have b := hsp (j + 1) (by omega)
  rw [sp_ring, a] at b
  rw [modL_get xs i j hj, g]
  omega
end Go.Proofs.Ytppbcjpabmllnaa
