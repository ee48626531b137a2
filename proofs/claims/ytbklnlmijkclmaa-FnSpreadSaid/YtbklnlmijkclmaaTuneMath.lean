/- Tuning by ear in numbers. -/
import Derived.Test.YtbklnlmijkclmaaNumBase
namespace Go.Proofs.Ytbklnlmijkclmaa
set_option linter.unusedVariables false
def FineOk (n : Int) : Prop := 1 ≤ n ∧ n ≤ 10000000
instance (n : Int) : Decidable (FineOk n) := by unfold FineOk; infer_instance
/-- What a step makes, ahead of the last check. -/
def tunN (a k b : Int) : Int := if k = 1 then max 0 (3 * a - b) / 2 else if k = 2 then max 0 (3 * a - b) / 4 else if k = 3 ∧ b = 0 then 2 * a else if k = 4 ∧ b = 0 then a / 2 else 0
def tunV (a k b : Int) : Int := if (FineOk a ∧ 0 ≤ b ∧ b ≤ 100000) ∧ FineOk (tunN a k b) then tunN a k b else 0
def hdA (k : Int) : Int := if k = 1 then 3 else if k = 2 then 3 else if k = 3 then 2 else 1
def hdB (k : Int) : Int := if k = 1 then 2 else if k = 2 then 4 else if k = 3 then 1 else 2
def heardV (a t k : Int) : Int := if FineOk a ∧ FineOk t ∧ 1 ≤ k ∧ k ≤ 4 then max (hdA k * a - hdB k * t) (hdB k * t - hdA k * a) else -1
def narB (a t k : Int) : Bool := decide (0 < heardV a t k ∧ k ≤ 2 ∧ 2 * k * t < 3 * a)
theorem tunV_no1 {a k b : Int} (h : ¬ FineOk a) : tunV a k b = 0 := if_neg (fun q => h q.1.1)
theorem tunV_no2 {a k b : Int} (h : ¬ (0 ≤ b ∧ b ≤ 100000)) : tunV a k b = 0 := if_neg (fun q => h q.1.2)
theorem tunV_no3 {a k b n : Int} (hn : n = tunN a k b) (h : ¬ FineOk n) : tunV a k b = 0 := if_neg (fun q => h (hn ▸ q.2))
theorem tunV_yes {a k b n : Int} (h1 : FineOk a) (h2 : 0 ≤ b ∧ b ≤ 100000) (hn : n = tunN a k b) (h : FineOk n) : tunV a k b = n := by
  unfold tunV; rw [if_pos ⟨⟨h1, h2⟩, hn ▸ h⟩, hn]
theorem heardV_no {a t k : Int} (h : ¬ (FineOk a ∧ FineOk t ∧ 1 ≤ k ∧ k ≤ 4)) : heardV a t k = -1 := if_neg h
/-- Beats that were tuned are heard. -/
theorem tuned_heard {a k b : Int} (ha : 100000 ≤ a ∧ a ≤ 599999) (hk : k = 1 ∨ k = 2) (hb : 0 ≤ b ∧ b ≤ 2999) :
    (0 < tunV a k b ∧ tunV a k b ≤ 10000000) ∧ (b ≤ heardV a (tunV a k b) k ∧ heardV a (tunV a k b) k < b + 2 * k) ∧ (heardV a (tunV a k b) k ≠ 0 → narB a (tunV a k b) k = true) ∧
      (heardV a (tunV a 3 0) 3 = 0 ∧ tunV (tunV a 3 0) 4 0 = a) := by
  have f1 : FineOk a := ⟨by omega, by omega⟩
  have e3 : tunV a 3 0 = 2 * a := tunV_yes f1 ⟨by omega, by omega⟩ (by simp [tunN]) ⟨by omega, by omega⟩
  have e4 : tunV (2 * a) 4 0 = a := tunV_yes ⟨by omega, by omega⟩ ⟨by omega, by omega⟩ (by simp [tunN]) f1
  have h3 : heardV a (2 * a) 3 = 0 := by
    unfold heardV
    rw [if_pos ⟨f1, ⟨by omega, by omega⟩, by omega, by omega⟩]
    simp [hdA, hdB]
  rw [e3, e4]
  rcases hk with rfl | rfl
  · obtain ⟨n, hn⟩ : ∃ n, n = tunN a 1 b := ⟨_, rfl⟩
    have hv : n = (3 * a - b) / 2 := by rw [hn]; unfold tunN; rw [if_pos rfl, Int.max_eq_right (by omega)]
    have f2 : FineOk n := ⟨by omega, by omega⟩
    rw [tunV_yes f1 ⟨by omega, by omega⟩ hn f2]
    have hh : heardV a n 1 = 3 * a - 2 * n := by
      unfold heardV
      rw [if_pos ⟨f1, f2, by omega, by omega⟩]
      simp only [hdA, hdB, if_pos]
      omega
    refine ⟨⟨f2.1, f2.2⟩, ⟨by omega, by omega⟩, fun h0 => ?_, h3, rfl⟩
    unfold narB
    rw [decide_eq_true_iff]
    exact ⟨by omega, by omega, by omega⟩
  · obtain ⟨n, hn⟩ : ∃ n, n = tunN a 2 b := ⟨_, rfl⟩
    have hv : n = (3 * a - b) / 4 := by rw [hn]; unfold tunN; rw [if_neg (by omega), if_pos rfl, Int.max_eq_right (by omega)]
    have f2 : FineOk n := ⟨by omega, by omega⟩
    rw [tunV_yes f1 ⟨by omega, by omega⟩ hn f2]
    have hh : heardV a n 2 = 3 * a - 4 * n := by
      unfold heardV
      rw [if_pos ⟨f1, f2, by omega, by omega⟩]
      simp only [hdA, hdB, if_pos, show ¬ (2 : Int) = 1 by omega, if_false]
      omega
    refine ⟨⟨f2.1, f2.2⟩, ⟨by omega, by omega⟩, fun h0 => ?_, h3, rfl⟩
    unfold narB
    rw [decide_eq_true_iff]
    exact ⟨by omega, by omega, by omega⟩
end Go.Proofs.Ytbklnlmijkclmaa
