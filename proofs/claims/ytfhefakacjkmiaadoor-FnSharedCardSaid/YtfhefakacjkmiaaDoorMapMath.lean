/- Mathematics of equal divisions: the nearest number of steps. -/
import Derived.Test.YtfhefakacjkmiaaDoorTonesMath
namespace Go.Proofs.YtfhefakacjkmiaaDoor
open Go.RowKit
set_option linter.unusedVariables false
/-- MapOk. -/
def okM (a b c : Int) : Bool := decide (1 ≤ a ∧ a ≤ 60 ∧ 0 ≤ b ∧ b ≤ 200 ∧ 0 ≤ c ∧ c ≤ 200)
theorem okM_nums {a b c : Int} (h : okM a b c = true) : 1 ≤ a ∧ a ≤ 60 ∧ 0 ≤ b ∧ b ≤ 200 ∧ 0 ≤ c ∧ c ≤ 200 := by
  unfold okM at h
  simpa only [decide_eq_true_eq] using h
theorem okM_mk {a b c : Int} (h : 1 ≤ a ∧ a ≤ 60 ∧ 0 ≤ b ∧ b ≤ 200 ∧ 0 ≤ c ∧ c ≤ 200) : okM a b c = true := by unfold okM; exact decide_eq_true h
/-- k half steps lie nearest to the powers h of 3 and f of 5. -/
def NearAt (h f k : Int) : Prop := ∀ j : Int, 0 < sgnP (1 - j * 2) h f ↔ j ≤ k
theorem odd_sgn (j h f : Int) : sgnP (1 - j * 2) h f ≠ 0 := fun e => by
  have := ((sgnP_zero _ _ _).1 e).1
  omega
theorem near_oct {h f k : Int} (ho : OctAt 1 h f 2 k) : NearAt h f k := fun j => by
  have e := ho.2 j
  have z := odd_sgn j h f
  constructor
  · intro hs; exact e.1 (by omega)
  · intro hs; have := e.2 hs; omega
theorem near_up {h f K : Int} (hK : NearAt h f K) (k : Int) : (0 < sgnP (-(2 * k + 1)) h f → k + 1 ≤ K) ∧ (¬ 0 < sgnP (-(2 * k + 1)) h f → K ≤ k) := by
  have e := hK (k + 1)
  rw [show 1 - (k + 1) * 2 = -(2 * k + 1) from by omega] at e
  exact ⟨e.1, fun hs => by
    rcases (show K ≤ k ∨ k + 1 ≤ K from by omega) with r | r
    · exact r
    · exact absurd (e.2 r) hs⟩
theorem near_dn {h f K : Int} (hK : NearAt h f K) (k : Int) : (sgnP (-(2 * k - 1)) h f < 0 → K < k) ∧ (¬ sgnP (-(2 * k - 1)) h f < 0 → k ≤ K) := by
  have e := hK k
  have z := odd_sgn k h f
  rw [show 1 - k * 2 = -(2 * k - 1) from by omega] at e z
  constructor
  · intro hs
    rcases (show K < k ∨ k ≤ K from by omega) with r | r
    · exact r
    · have := e.2 r; omega
  · intro hs; exact e.1 (by omega)
theorem near_one {h f k m : Int} (h1 : NearAt h f k) (h2 : NearAt h f m) : k = m := by
  have e1 := (h2 k).1 ((h1 k).2 (Int.le_refl _))
  have e2 := (h1 m).1 ((h2 m).2 (Int.le_refl _))
  omega
theorem far3 : 3 ^ 120 * 5 ^ 0 ≤ 2 ^ 191 := by decide +kernel
theorem far5 : 3 ^ 0 * 5 ^ 120 ≤ 2 ^ 279 := by decide +kernel
/-- No power of 3 and 5 is less than 1: no step is below 0. -/
theorem near_low {h f k : Int} (hk : NearAt h f k) (h0 : 0 ≤ h) (f0 : 0 ≤ f) : 0 ≤ k := by
  refine (hk 0).1 ?_
  have z := odd_sgn 0 h f
  have a : 0 ≤ sgnP (1 - 0 * 2) 0 0 := sgnP_far 0 0 0 _ _ _ (by decide) (by omega) (by omega) (by omega) (by omega) (by omega)
  have b : 0 ≤ sgnP 0 h f := by
    rw [sgnP_nonneg_iff]
    rw [show (-h).toNat = 0 from by omega, show (-f).toNat = 0 from by omega]
    have := pw_pos (0 : Int).toNat h.toNat f.toNat
    rw [show pw (-(0 : Int)).toNat 0 0 = 1 from pw_one]
    omega
  have s := sgnP_add _ _ _ _ _ _ a b
  rw [Int.add_zero, Int.zero_add, Int.zero_add] at s
  omega
theorem near3_bd {n k : Int} (h1 : 1 ≤ n) (h2 : n ≤ 60) (hk : NearAt (2 * n) 0 k) : 0 ≤ k ∧ k ≤ 96 := by
  refine ⟨near_low hk (by omega) (by omega), ?_⟩
  rcases (show k ≤ 96 ∨ 97 ≤ k from by omega) with q | q
  · exact q
  · have a := (hk 97).2 q
    have b := sgnP_near 120 0 191 (1 - 97 * 2) (2 * n) 0 far3 (by omega) (by omega) (by omega) (by omega) (by omega) (by omega)
    omega
theorem near5_bd {n k : Int} (h1 : 1 ≤ n) (h2 : n ≤ 60) (hk : NearAt 0 (2 * n) k) : 0 ≤ k ∧ k ≤ 140 := by
  refine ⟨near_low hk (by omega) (by omega), ?_⟩
  rcases (show k ≤ 140 ∨ 141 ≤ k from by omega) with q | q
  · exact q
  · have a := (hk 141).2 q
    have b := sgnP_near 0 120 279 (1 - 141 * 2) 0 (2 * n) far5 (by omega) (by omega) (by omega) (by omega) (by omega) (by omega)
    omega
/-- The nearest number of steps is there: impl's OctavesIn has it. -/
theorem near_ex {n h f : Int} (hn : -120 ≤ h ∧ h ≤ 120 ∧ -120 ≤ f ∧ f ≤ 120) : ∃ k, OctAt 1 h f 2 k ∧ NearAt h f k := by
  obtain ⟨k, hk⟩ := octAt_ex (okI_mk (a := 1) (b := h) (c := f) (d := 2) (by omega))
  exact ⟨k, hk, near_oct hk⟩
end Go.Proofs.YtfhefakacjkmiaaDoor
