/- The fifths from -40 to 40: what they are, and their order. -/
import Derived.Test.YtdnlebijmiaclabDoorFifWalks
import Derived.Test.YtdnlebijmiaclabDoorSortBase
namespace Go.Proofs.YtdnlebijmiaclabDoor
open Go.RowKit Go.Joins
set_option linter.unusedVariables false
/-- The exponents of 2, and the places in ascending order, from -40 fifths on. -/
def fifTs : List Int := [64, 62, 61, 59, 58, 56, 54, 53, 51, 50, 48, 46, 45, 43, 42, 40, 39, 37, 35, 34, 32, 31, 29, 27, 26, 24, 23, 21, 20, 18, 16, 15, 13, 12, 10, 8, 7, 5, 4, 2, 0, (-1), (-3), (-4), (-6), (-7), (-9), (-11), (-12), (-14), (-15), (-17), (-19), (-20), (-22), (-23), (-25), (-26), (-28), (-30), (-31), (-33), (-34), (-36), (-38), (-39), (-41), (-42), (-44), (-45), (-47), (-49), (-50), (-52), (-53), (-55), (-57), (-58), (-60), (-61), (-63)]
def fifRs : List Int := [48, 14, 62, 28, 76, 42, 8, 56, 22, 70, 36, 2, 50, 16, 64, 30, 78, 44, 10, 58, 24, 72, 38, 4, 52, 18, 66, 32, 80, 46, 12, 60, 26, 74, 40, 6, 54, 20, 68, 34, 0, 47, 13, 61, 27, 75, 41, 7, 55, 21, 69, 35, 1, 49, 15, 63, 29, 77, 43, 9, 57, 23, 71, 37, 3, 51, 17, 65, 31, 79, 45, 11, 59, 25, 73, 39, 5, 53, 19, 67, 33]
def fifV (n : Int) : Iv := ⟨fifTs.getD (n + 40).toNat 0, n, 0, 1⟩
def keyV (x : Iv) : Int := fifRs.getD (x.three + 40).toNat 0
def fifChk (i : Nat) : Bool := decide (0 ≤ sgnP (fifTs.getD i 0) ((i : Int) - 40) 0) && decide (sgnP (fifTs.getD i 0 - 1) ((i : Int) - 40) 0 < 0) && (decide (sgnP (fifTs.getD i 0) ((i : Int) - 40) 0 = 0) == decide ((i : Int) - 40 = 0)) && decide (-400 ≤ fifTs.getD i 0 ∧ fifTs.getD i 0 ≤ 400)
theorem fif_chk : ∀ i, i < 81 → fifChk i = true := by decide +kernel
def cmpChk (s t : Nat) : Bool := decide (cmpV ⟨fifTs.getD s 0, (s : Int) - 40, 0, 1⟩ ⟨fifTs.getD t 0, (t : Int) - 40, 0, 1⟩ < 0) == decide (fifRs.getD s 0 < fifRs.getD t 0)
theorem cmp_chk : ∀ s, s < 81 → ∀ t, t < 81 → cmpChk s t = true := by decide +kernel
theorem rank_inj : ∀ s, s < 81 → ∀ t, t < 81 → fifRs.getD s 0 = fifRs.getD t 0 → s = t := by decide +kernel
theorem fif_place {n : Int} (h : -40 ≤ n ∧ n ≤ 40) : ∃ i : Nat, i < 81 ∧ n = (i : Int) - 40 ∧ (n + 40).toNat = i := ⟨(n + 40).toNat, by omega, by omega, rfl⟩
theorem gcdF_one (a b c : Int) : gcd4 a b c 1 = 1 := by
  have h1 := gcd4_pos a b c 1 (by omega)
  have h2 := Int.le_of_dvd (by omega) (gcd4_dvd a b c 1).2.2.2
  omega
theorem simF_one (a b c : Int) : simV ⟨a, b, c, 1⟩ = ⟨a, b, c, 1⟩ := by
  unfold simV
  simp only [gcdF_one, Int.tdiv_one]
theorem fif_bd {n : Int} (h : -40 ≤ n ∧ n ≤ 40) : -400 ≤ (fifV n).two ∧ (fifV n).two ≤ 400 ∧ okV (fifV n) = true := by
  obtain ⟨i, hi, hn, hp⟩ := fif_place h
  have hc := fif_chk i hi
  unfold fifChk at hc
  simp only [Bool.and_eq_true, decide_eq_true_eq, beq_iff_eq] at hc
  obtain ⟨_, c4⟩ := hc
  have e : (fifV n).two = fifTs.getD i 0 := by unfold fifV; rw [hp]
  refine ⟨by omega, by omega, ?_⟩
  show okI (fifV n).two n 0 1 = true
  exact okI_mk (by omega)
theorem fif_sgn {n : Int} (h : -40 ≤ n ∧ n ≤ 40) : sgnV (fifV n) = 0 ↔ n = 0 := by
  obtain ⟨i, hi, hn, hp⟩ := fif_place h
  have hc := fif_chk i hi
  unfold fifChk at hc
  simp only [Bool.and_eq_true, decide_eq_true_eq, beq_iff_eq] at hc
  obtain ⟨⟨_, c3⟩, _⟩ := hc
  rw [← hn] at c3
  have e : sgnV (fifV n) = sgnP (fifTs.getD i 0) n 0 := by unfold sgnV fifV; rw [hp]
  rw [e]
  exact decide_eq_decide.1 c3
/-- Octaves taken away from n fifths with any number of octaves. -/
theorem fif_within {n t : Int} (h : -40 ≤ n ∧ n ≤ 40) (ht : -400 ≤ t ∧ t ≤ 400) : WithinAt t n 0 1 (fifV n).two (fifV n).three (fifV n).five (fifV n).root true := by
  obtain ⟨i, hi, hn, hp⟩ := fif_place h
  have hc := fif_chk i hi
  unfold fifChk at hc
  simp only [Bool.and_eq_true, decide_eq_true_eq, beq_iff_eq] at hc
  obtain ⟨⟨⟨c1, c2⟩, c3⟩, c4⟩ := hc
  rw [← hn] at c1 c2 c3
  refine Or.inl ⟨t - fifTs.getD i 0, t - fifTs.getD i 0, fifTs.getD i 0, ⟨okI_mk (by omega), fun k => ⟨fun hk => ?_, fun hk => ?_⟩⟩, ?_, ?_⟩
  · rcases (show k ≤ t - fifTs.getD i 0 ∨ t - k ≤ fifTs.getD i 0 - 1 from by omega) with q | q
    · exact q
    · rw [Int.mul_one] at hk
      have := sgnP_mono q hk
      omega
  · rw [Int.mul_one]
    exact sgnP_mono (by omega) c1
  · refine ⟨by rw [Int.mul_one], by omega, ?_⟩
    omega
  · show CheckAt (fifTs.getD i 0) n 0 1 (fifTs.getD (n + 40).toNat 0) n 0 1 true
    rw [hp]
    refine ⟨by omega, Or.inl ⟨rfl, ?_, ?_, ?_, ?_, ?_⟩⟩
    · rw [gcdF_one, Int.tdiv_one, Int.tdiv_one, Int.tdiv_one, Int.tdiv_one]
      exact okI_mk (by omega)
    all_goals rw [gcdF_one, Int.tdiv_one]
theorem fif_at {n : Int} (h : -40 ≤ n ∧ n ≤ 40) : FifAt n (fifV n).two (fifV n).three (fifV n).five (fifV n).root true := Or.inl ⟨by omega, fif_within h (by omega)⟩
/-- Two of them added. -/
theorem fif_add {a b : Int} (ha : -40 ≤ a ∧ a ≤ 40) (hb : -40 ≤ b ∧ b ≤ 40) (h1 : -400 ≤ (fifV a).two + (fifV b).two ∧ (fifV a).two + (fifV b).two ≤ 400) : addV (fifV a) (fifV b) = (⟨(fifV a).two + (fifV b).two, a + b, 0, 1⟩, true) := by
  have e : sumV (fifV a) (fifV b) = ⟨(fifV a).two + (fifV b).two, a + b, 0, 1⟩ := by
    show Iv.mk ((fifV a).two * 1 + (fifV b).two * 1) (a * 1 + b * 1) (0 * 1 + 0 * 1) (1 * 1) = _
    rw [Int.mul_one, Int.mul_one, Int.mul_one, Int.mul_one]; rfl
  unfold addV
  rw [e, simF_one, if_pos ⟨(fif_bd ha).2.2, (fif_bd hb).2.2, show okI ((fifV a).two + (fifV b).two) (a + b) 0 1 = true from okI_mk (by omega)⟩]
theorem fif_cmp {a b : Int} (ha : -40 ≤ a ∧ a ≤ 40) (hb : -40 ≤ b ∧ b ≤ 40) : cmpV (fifV a) (fifV b) < 0 ↔ keyV (fifV a) < keyV (fifV b) := by
  obtain ⟨i, hi, hn, hp⟩ := fif_place ha
  obtain ⟨j, hj, hm, hq⟩ := fif_place hb
  have hc := cmp_chk i hi j hj
  unfold cmpChk at hc
  rw [beq_iff_eq, ← hn, ← hm] at hc
  have e1 : fifV a = ⟨fifTs.getD i 0, a, 0, 1⟩ := by unfold fifV; rw [hp]
  have e2 : fifV b = ⟨fifTs.getD j 0, b, 0, 1⟩ := by unfold fifV; rw [hq]
  have k1 : keyV (fifV a) = fifRs.getD i 0 := by unfold keyV; show fifRs.getD (a + 40).toNat 0 = _; rw [hp]
  have k2 : keyV (fifV b) = fifRs.getD j 0 := by unfold keyV; show fifRs.getD (b + 40).toNat 0 = _; rw [hq]
  rw [k1, k2, e1, e2]
  exact decide_eq_decide.1 hc
theorem fif_inj {a b : Int} (ha : -40 ≤ a ∧ a ≤ 40) (hb : -40 ≤ b ∧ b ≤ 40) (h : keyV (fifV a) = keyV (fifV b)) : a = b := by
  obtain ⟨i, hi, hn, hp⟩ := fif_place ha
  obtain ⟨j, hj, hm, hq⟩ := fif_place hb
  have k1 : keyV (fifV a) = fifRs.getD i 0 := by unfold keyV; show fifRs.getD (a + 40).toNat 0 = _; rw [hp]
  have k2 : keyV (fifV b) = fifRs.getD j 0 := by unfold keyV; show fifRs.getD (b + 40).toNat 0 = _; rw [hq]
  have := rank_inj i hi j hj (by rw [← k1, ← k2, h])
  omega
/-- The chain from low on, unsorted. -/
def chainF (low : Int) (t : Nat) : Iv := fifV (low + t)
theorem chain_keyd {low : Int} {n : Nat} (h1 : -30 ≤ low) (h2 : low + n ≤ 31) : Keyd keyV n (chainF low) := fun s t hs ht => fif_cmp (by omega) (by omega)
theorem chain_inj {low : Int} {n : Nat} (h1 : -30 ≤ low) (h2 : low + n ≤ 31) : ∀ s t, s < n → t < n → keyV (chainF low s) = keyV (chainF low t) → s = t := fun s t hs ht h => by
  have := fif_inj (a := low + s) (b := low + t) (by omega) (by omega) h
  omega
end Go.Proofs.YtdnlebijmiaclabDoor
