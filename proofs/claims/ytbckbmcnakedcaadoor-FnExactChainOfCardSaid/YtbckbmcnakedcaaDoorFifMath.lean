/- The fifths from -30 to 30: what they are, and their order. -/
import Derived.Test.YtbckbmcnakedcaaDoorFifWalks
import Derived.Test.YtbckbmcnakedcaaDoorSortBase
namespace Go.Proofs.YtbckbmcnakedcaaDoor
open Go.RowKit Go.Joins
set_option linter.unusedVariables false
/-- The exponents of 2, and the places in ascending order, from -30 fifths on. -/
def fifTs : List Int := [48, 46, 45, 43, 42, 40, 39, 37, 35, 34, 32, 31, 29, 27, 26, 24, 23, 21, 20, 18, 16, 15, 13, 12, 10, 8, 7, 5, 4, 2, 0, (-1), (-3), (-4), (-6), (-7), (-9), (-11), (-12), (-14), (-15), (-17), (-19), (-20), (-22), (-23), (-25), (-26), (-28), (-30), (-31), (-33), (-34), (-36), (-38), (-39), (-41), (-42), (-44), (-45), (-47)]
def fifRs : List Int := [27, 2, 38, 12, 48, 22, 58, 33, 8, 44, 18, 54, 29, 4, 40, 14, 50, 24, 60, 35, 9, 45, 19, 55, 30, 5, 41, 15, 51, 25, 0, 36, 10, 46, 20, 56, 31, 6, 42, 16, 52, 26, 1, 37, 11, 47, 21, 57, 32, 7, 43, 17, 53, 28, 3, 39, 13, 49, 23, 59, 34]
def fifV (n : Int) : Iv := ⟨fifTs.getD (n + 30).toNat 0, n, 0, 1⟩
def keyV (x : Iv) : Int := fifRs.getD (x.three + 30).toNat 0
def fifChk (i : Nat) : Bool := decide (0 ≤ sgnP (fifTs.getD i 0) ((i : Int) - 30) 0) && decide (sgnP (fifTs.getD i 0 - 1) ((i : Int) - 30) 0 < 0) && (gcd4 (fifTs.getD i 0) ((i : Int) - 30) 0 1 == 1) && decide (-400 ≤ fifTs.getD i 0 ∧ fifTs.getD i 0 ≤ 400)
theorem fif_chk : ∀ i, i < 61 → fifChk i = true := by decide +kernel
def cmpChk (s t : Nat) : Bool := decide (cmpV ⟨fifTs.getD s 0, (s : Int) - 30, 0, 1⟩ ⟨fifTs.getD t 0, (t : Int) - 30, 0, 1⟩ < 0) == decide (fifRs.getD s 0 < fifRs.getD t 0)
theorem cmp_chk : ∀ s, s < 61 → ∀ t, t < 61 → cmpChk s t = true := by decide +kernel
theorem rank_inj : ∀ s, s < 61 → ∀ t, t < 61 → fifRs.getD s 0 = fifRs.getD t 0 → s = t := by decide +kernel
theorem fif_place {n : Int} (h : -30 ≤ n ∧ n ≤ 30) : ∃ i : Nat, i < 61 ∧ n = (i : Int) - 30 ∧ (n + 30).toNat = i := ⟨(n + 30).toNat, by omega, by omega, rfl⟩
theorem fif_at {n : Int} (h : -30 ≤ n ∧ n ≤ 30) : FifAt n (fifV n).two (fifV n).three (fifV n).five (fifV n).root true := by
  obtain ⟨i, hi, hn, hp⟩ := fif_place h
  have hc := fif_chk i hi
  unfold fifChk at hc
  simp only [Bool.and_eq_true, decide_eq_true_eq, beq_iff_eq] at hc
  obtain ⟨⟨⟨c1, c2⟩, c3⟩, c4⟩ := hc
  rw [← hn] at c1 c2 c3
  refine Or.inl ⟨by omega, Or.inl ⟨-n - fifTs.getD i 0, -n - fifTs.getD i 0, fifTs.getD i 0, ⟨fif_ok (by omega), fun k => ⟨fun hk => ?_, fun hk => ?_⟩⟩, ?_, ?_⟩⟩
  · rcases (show k ≤ -n - fifTs.getD i 0 ∨ -n - k ≤ fifTs.getD i 0 - 1 from by omega) with q | q
    · exact q
    · rw [Int.mul_one] at hk
      have := sgnP_mono q hk
      omega
  · rw [Int.mul_one]
    exact sgnP_mono (by omega) c1
  · refine ⟨by rw [Int.mul_one], by omega, ?_⟩
    omega
  · show CheckAt (fifTs.getD i 0) n 0 1 (fifTs.getD (n + 30).toNat 0) n 0 1 true
    rw [hp]
    refine ⟨by omega, Or.inl ⟨rfl, ?_, ?_, ?_, ?_, ?_⟩⟩
    · rw [c3, Int.tdiv_one, Int.tdiv_one, Int.tdiv_one, Int.tdiv_one]
      exact okI_mk (by omega)
    all_goals rw [c3, Int.tdiv_one]
theorem fif_cmp {a b : Int} (ha : -30 ≤ a ∧ a ≤ 30) (hb : -30 ≤ b ∧ b ≤ 30) : cmpV (fifV a) (fifV b) < 0 ↔ keyV (fifV a) < keyV (fifV b) := by
  obtain ⟨i, hi, hn, hp⟩ := fif_place ha
  obtain ⟨j, hj, hm, hq⟩ := fif_place hb
  have hc := cmp_chk i hi j hj
  unfold cmpChk at hc
  rw [beq_iff_eq, ← hn, ← hm] at hc
  have e1 : fifV a = ⟨fifTs.getD i 0, a, 0, 1⟩ := by unfold fifV; rw [hp]
  have e2 : fifV b = ⟨fifTs.getD j 0, b, 0, 1⟩ := by unfold fifV; rw [hq]
  have k1 : keyV (fifV a) = fifRs.getD i 0 := by unfold keyV; show fifRs.getD (a + 30).toNat 0 = _; rw [hp]
  have k2 : keyV (fifV b) = fifRs.getD j 0 := by unfold keyV; show fifRs.getD (b + 30).toNat 0 = _; rw [hq]
  rw [k1, k2, e1, e2]
  exact decide_eq_decide.1 hc
theorem fif_inj {a b : Int} (ha : -30 ≤ a ∧ a ≤ 30) (hb : -30 ≤ b ∧ b ≤ 30) (h : keyV (fifV a) = keyV (fifV b)) : a = b := by
  obtain ⟨i, hi, hn, hp⟩ := fif_place ha
  obtain ⟨j, hj, hm, hq⟩ := fif_place hb
  have k1 : keyV (fifV a) = fifRs.getD i 0 := by unfold keyV; show fifRs.getD (a + 30).toNat 0 = _; rw [hp]
  have k2 : keyV (fifV b) = fifRs.getD j 0 := by unfold keyV; show fifRs.getD (b + 30).toNat 0 = _; rw [hq]
  have := rank_inj i hi j hj (by rw [← k1, ← k2, h])
  omega
/-- The chain from low on, unsorted. -/
def chainF (low : Int) (t : Nat) : Iv := fifV (low + t)
theorem chain_keyd {low : Int} {n : Nat} (h1 : -30 ≤ low) (h2 : low + n ≤ 31) : Keyd keyV n (chainF low) := fun s t hs ht => fif_cmp (by omega) (by omega)
theorem chain_inj {low : Int} {n : Nat} (h1 : -30 ≤ low) (h2 : low + n ≤ 31) : ∀ s t, s < n → t < n → keyV (chainF low s) = keyV (chainF low t) → s = t := fun s t hs ht h => by
  have := fif_inj (a := low + s) (b := low + t) (by omega) (by omega) h
  omega
end Go.Proofs.YtbckbmcnakedcaaDoor
