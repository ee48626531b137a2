/- The intervals whose powers of 3 and 5 are -8 to 8, within one octave (one table, checked whole), and which of them are commas. -/
import Derived.Test.YtfhefakacjkmiaaDoorOctWalks
import Derived.Test.YtfhefakacjkmiaaDoorSortBase
namespace Go.Proofs.YtfhefakacjkmiaaDoor
open Go.RowKit Go.Joins
set_option linter.unusedVariables false
/-- A comma, told by its four numbers. -/
def comB (a b c d : Int) : Bool := okI a b c d && (d == 1) && decide (0 < cmpV ⟨a, b, c, d⟩ ⟨0, 0, 0, 1⟩) && decide (cmpV ⟨a, b, c, d⟩ ⟨-3, -1, 2, 1⟩ ≤ 0) && (gcdI (gcdI a b) c == 1)
def isComV (x : Iv) : Bool := comB x.two x.three x.five x.root
def comTs : List Int := [32, 29, 27, 25, 22, 20, 18, 16, 13, 11, 9, 6, 4, 2, (-1), (-3), (-5), 30, 28, 26, 23, 21, 19, 16, 14, 12, 9, 7, 5, 2, 0, (-2), (-5), (-7), 29, 26, 24, 22, 19, 17, 15, 12, 10, 8, 5, 3, 1, (-2), (-4), (-6), (-9), 27, 25, 22, 20, 18, 15, 13, 11, 8, 6, 4, 1, (-1), (-3), (-6), (-8), (-10), 25, 23, 21, 18, 16, 14, 11, 9, 7, 5, 2, 0, (-2), (-5), (-7), (-9), (-12), 24, 22, 19, 17, 15, 12, 10, 8, 5, 3, 1, (-2), (-4), (-6), (-9), (-11), (-13), 22, 20, 18, 15, 13, 11, 8, 6, 4, 1, (-1), (-3), (-6), (-8), (-10), (-13), (-15), 21, 18, 16, 14, 11, 9, 7, 4, 2, 0, (-3), (-5), (-7), (-10), (-12), (-14), (-16), 19, 17, 14, 12, 10, 7, 5, 3, 0, (-2), (-4), (-6), (-9), (-11), (-13), (-16), (-18), 17, 15, 13, 11, 8, 6, 4, 1, (-1), (-3), (-6), (-8), (-10), (-13), (-15), (-17), (-20), 16, 14, 11, 9, 7, 4, 2, 0, (-3), (-5), (-7), (-10), (-12), (-14), (-17), (-19), (-21), 14, 12, 10, 7, 5, 3, 0, (-2), (-4), (-7), (-9), (-11), (-14), (-16), (-18), (-21), (-23), 13, 10, 8, 6, 3, 1, (-1), (-4), (-6), (-8), (-10), (-13), (-15), (-17), (-20), (-22), (-24), 11, 9, 7, 4, 2, 0, (-3), (-5), (-7), (-10), (-12), (-14), (-17), (-19), (-21), (-24), (-26), 10, 7, 5, 3, 0, (-2), (-4), (-7), (-9), (-11), (-14), (-16), (-18), (-21), (-23), (-25), (-28), 8, 6, 3, 1, (-1), (-4), (-6), (-8), (-11), (-13), (-15), (-18), (-20), (-22), (-25), (-27), (-29), 6, 4, 2, (-1), (-3), (-5), (-8), (-10), (-12), (-15), (-17), (-19), (-21), (-24), (-26), (-28), (-31)]
def withT (a b : Int) : Int := comTs.getD ((a + 8) * 17 + (b + 8)).toNat 0
def withV (a b : Int) : Iv := ⟨withT a b, a, b, 1⟩
def comChk (i : Nat) : Bool := decide (0 ≤ sgnP (comTs.getD i 0) (((i / 17 : Nat) : Int) - 8) (((i % 17 : Nat) : Int) - 8)) && decide (sgnP (comTs.getD i 0 - 1) (((i / 17 : Nat) : Int) - 8) (((i % 17 : Nat) : Int) - 8) < 0) && decide (-400 ≤ comTs.getD i 0 ∧ comTs.getD i 0 ≤ 400)
theorem com_chk : ∀ i, i < 289 → comChk i = true := by decide +kernel
theorem gcdC_one (a b c : Int) : gcd4 a b c 1 = 1 := by
  have h1 := gcd4_pos a b c 1 (by omega)
  have h2 := Int.le_of_dvd (by omega) (gcd4_dvd a b c 1).2.2.2
  omega
theorem simC_one (a b c : Int) : simV ⟨a, b, c, 1⟩ = ⟨a, b, c, 1⟩ := by
  unfold simV
  simp only [gcdC_one, Int.tdiv_one]
theorem com_place {a b : Int} (ha : -8 ≤ a ∧ a ≤ 8) (hb : -8 ≤ b ∧ b ≤ 8) : ∃ i : Nat, i < 289 ∧ a = ((i / 17 : Nat) : Int) - 8 ∧ b = ((i % 17 : Nat) : Int) - 8 ∧ ((a + 8) * 17 + (b + 8)).toNat = i :=
  ⟨((a + 8) * 17 + (b + 8)).toNat, by omega, by omega, by omega, rfl⟩
theorem com_within {a b : Int} (ha : -8 ≤ a ∧ a ≤ 8) (hb : -8 ≤ b ∧ b ≤ 8) : WithinAt 0 a b 1 (withV a b).two (withV a b).three (withV a b).five (withV a b).root true := by
  obtain ⟨i, hi, ea, eb, hp⟩ := com_place ha hb
  have hc := com_chk i hi
  unfold comChk at hc
  simp only [Bool.and_eq_true, decide_eq_true_eq] at hc
  obtain ⟨⟨c1, c2⟩, c4⟩ := hc
  rw [← ea, ← eb] at c1 c2
  refine Or.inl ⟨-(comTs.getD i 0), -(comTs.getD i 0), comTs.getD i 0, ⟨okI_mk (by omega), fun k => ⟨fun hk => ?_, fun hk => ?_⟩⟩, ?_, ?_⟩
  · rcases (show k ≤ -(comTs.getD i 0) ∨ 0 - k ≤ comTs.getD i 0 - 1 from by omega) with q | q
    · exact q
    · rw [Int.mul_one] at hk
      have := sgnP_mono q hk
      omega
  · rw [Int.mul_one]
    exact sgnP_mono (by omega) c1
  · refine ⟨by rw [Int.mul_one], by omega, ?_⟩
    omega
  · show CheckAt (comTs.getD i 0) a b 1 (comTs.getD ((a + 8) * 17 + (b + 8)).toNat 0) a b 1 true
    rw [hp]
    refine ⟨by omega, Or.inl ⟨rfl, ?_, ?_, ?_, ?_, ?_⟩⟩
    · rw [gcdC_one, Int.tdiv_one, Int.tdiv_one, Int.tdiv_one, Int.tdiv_one]
      exact okI_mk (by omega)
    all_goals rw [gcdC_one, Int.tdiv_one]
/-- The commas of one power of 3, j powers of 5 tried. -/
def comRow (L s j : Nat) : List Iv := ((List.range j).map fun (t : Nat) => withV ((s : Int) - L) ((t : Int) - L)).filter isComV
/-- The commas of i powers of 3. -/
def comTo (L : Nat) : Nat → List Iv
  | 0 => []
  | i + 1 => comTo L i ++ comRow L i (2 * L + 1)
theorem comRow_yes {L s j : Nat} (h : isComV (withV ((s : Int) - L) ((j : Int) - L)) = true) : comRow L s (j + 1) = comRow L s j ++ [withV ((s : Int) - L) ((j : Int) - L)] := by
  unfold comRow
  rw [List.range_succ, List.map_append, List.filter_append]
  simp [h]
theorem comRow_no {L s j : Nat} (h : isComV (withV ((s : Int) - L) ((j : Int) - L)) = false) : comRow L s (j + 1) = comRow L s j := by
  unfold comRow
  rw [List.range_succ, List.map_append, List.filter_append]
  simp [h]
theorem comRow_len (L s j : Nat) : (comRow L s j).length ≤ j := by
  unfold comRow
  refine Nat.le_trans (List.length_filter_le _ _) ?_
  simp
theorem comTo_len (L : Nat) : ∀ i, (comTo L i).length ≤ i * (2 * L + 1)
  | 0 => by simp [comTo]
  | i + 1 => by
    have h3 : (i + 1) * (2 * L + 1) = i * (2 * L + 1) + (2 * L + 1) := Nat.succ_mul i (2 * L + 1)
    unfold comTo
    rw [List.length_append, h3]
    have h1 := comTo_len L i
    have h2 := comRow_len L i (2 * L + 1)
    omega
theorem com_len {L i j : Nat} (hL : L ≤ 8) (hi : i ≤ 17) (hj : j ≤ 17) : (comTo L i ++ comRow L i j).length ≤ 400 := by
  rw [List.length_append]
  have h1 := comTo_len L i
  have h2 := comRow_len L i j
  have h3 : i * (2 * L + 1) ≤ 17 * 17 := Nat.mul_le_mul hi (by omega)
  omega
/-- In the order of the powers of 3, and then of those of 5. -/
def lexB (x y : Iv) : Bool := decide (x.three < y.three) || (decide (y.three = x.three) && decide (x.five < y.five))
theorem com4_len : (comTo 4 9).length = 6 := by decide +kernel
theorem com4_is : ∀ k, k < 6 → isComV (ivAt (comTo 4 9) k) = true := by decide +kernel
theorem com4_lex : ∀ k, k < 5 → lexB (ivAt (comTo 4 9) k) (ivAt (comTo 4 9) (k + 1)) = true := by decide +kernel
theorem six_is : isComV ⟨-19, 12, 0, 1⟩ = true ∧ isComV ⟨-4, 4, -1, 1⟩ = true ∧ isComV ⟨7, 0, -3, 1⟩ = true ∧ isComV ⟨-15, 8, 1, 1⟩ = true ∧ isComV ⟨11, -4, -2, 1⟩ = true ∧ isComV ⟨3, 4, -4, 1⟩ = true := by decide +kernel
end Go.Proofs.YtfhefakacjkmiaaDoor
