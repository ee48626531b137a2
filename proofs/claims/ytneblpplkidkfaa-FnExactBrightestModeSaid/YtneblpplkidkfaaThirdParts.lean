/- Sums of parts of a circle that go on behind the last one; thirds and their errors, by one table that the kernel decides. -/
import Derived.Test.YtneblpplkidkfaaCirFifth
namespace Go.Proofs.Ytneblpplkidkfaa
open Go.RowKit Go.Joins
set_option linter.unusedVariables false
/-- The sum of k parts from the place i on. -/
def cycTo (xs : List Int) (i : Nat) : Nat → Int
  | 0 => 0
  | k + 1 => cycTo xs i k + xs.getD ((i + k) % 12) 0
theorem cyc_zero (xs : List Int) : ∀ k, k ≤ 12 → cycTo xs 0 k = sumTo xs k
  | 0, _ => rfl
  | k + 1, h => by
    unfold cycTo sumTo
    rw [cyc_zero xs k (by omega), show (0 + k) % 12 = k from by omega]
/-- One place further: the first part is taken away, the one behind the last is added. -/
theorem cyc_shift (xs : List Int) (i : Nat) : ∀ k, cycTo xs (i + 1) k + xs.getD (i % 12) 0 = cycTo xs i (k + 1)
  | 0 => by simp [cycTo]
  | k + 1 => by
    have e := cyc_shift xs i k
    unfold cycTo
    rw [← e, show i + 1 + k = i + (k + 1) from by omega]
    omega
theorem cyc_all (xs : List Int) : ∀ i, cycTo xs i 12 = sumTo xs 12
  | 0 => cyc_zero xs 12 (by omega)
  | i + 1 => by
    have e : cycTo xs (i + 1) 12 + xs.getD (i % 12) 0 = cycTo xs i 13 := cyc_shift xs i 12
    have h : cycTo xs i 13 = cycTo xs i 12 + xs.getD ((i + 12) % 12) 0 := rfl
    rw [show (i + 12) % 12 = i % 12 from by omega, cyc_all xs i] at h
    omega
theorem cyc_mono {xs : List Int} (h : CirOk xs) (i : Nat) {k : Nat} : ∀ d, cycTo xs i k ≤ cycTo xs i (k + d)
  | 0 => Int.le_refl _
  | d + 1 => by
    have e := cyc_mono h i (k := k) d
    have f := cir_part h (j := (i + (k + d)) % 12) (by omega)
    show cycTo xs i k ≤ cycTo xs i (k + d) + xs.getD ((i + (k + d)) % 12) 0
    omega
/-- Of a valid circle no sum is greater than the whole. -/
theorem cyc_bd {xs : List Int} (h : CirOk xs) (i : Nat) {k : Nat} (hk : k ≤ 12) : 0 ≤ cycTo xs i k ∧ cycTo xs i k ≤ 12 := by
  have a := cyc_mono h i (k := 0) k
  have b := cyc_mono h i (k := k) (12 - k)
  rw [show k + (12 - k) = 12 from by omega, cyc_all, h.2.2] at b
  rw [Nat.zero_add] at a
  exact ⟨a, b⟩
/-- A third that is narrower by p parts, and by how much it is wider than the pure one. -/
def thV (p : Int) : Iv := simV ⟨19 * p - 72, 48 - 12 * p, 0, 12⟩
def erV (p : Int) : Iv := simV ⟨19 * p - 48, 48 - 12 * p, -12, 12⟩
def thiChk (p : Nat) : Bool :=
  (diffV ⟨2, 0, 0, 1⟩ (chV 4 p)).2 && eqV (diffV ⟨2, 0, 0, 1⟩ (chV 4 p)).1 (thV p) && okV (thV p) &&
  (diffV ⟨-2, 0, 1, 1⟩ (thV p)).2 && eqV (diffV ⟨-2, 0, 1, 1⟩ (thV p)).1 (erV p) && okV (erV p) &&
  (decide (0 < sgnV (erV p)) == decide (p < 12))
theorem thi_chk : ∀ p, p < 13 → thiChk p = true := by decide +kernel
theorem thi_all {p : Int} (h : 0 ≤ p ∧ p ≤ 12) : diffV ⟨2, 0, 0, 1⟩ (chV 4 p) = (thV p, true) ∧ okV (thV p) = true ∧ diffV ⟨-2, 0, 1, 1⟩ (thV p) = (erV p, true) ∧ okV (erV p) = true ∧ decide (0 < sgnV (erV p)) = decide (p < 12) := by
  obtain ⟨j, rfl⟩ : ∃ j : Nat, p = (j : Int) := ⟨p.toNat, by omega⟩
  have k := thi_chk j (by omega)
  unfold thiChk at k
  simp only [Bool.and_eq_true, beq_iff_eq] at k
  obtain ⟨⟨⟨⟨⟨⟨k1, k2⟩, k3⟩, k4⟩, k5⟩, k6⟩, k7⟩ := k
  refine ⟨Prod.ext (eqV_eq k2) k1, k3, Prod.ext (eqV_eq k5) k4, k6, ?_⟩
  rw [k7]
  exact decide_eq_decide.2 (by omega)
/-- What a sum of n parts answers. -/
def CycAt (n : Nat) (xs : List Int) (i y : Int) : Prop :=
  ((CirOk xs ∧ 0 ≤ i ∧ i ≤ 11) ∧ y = cycTo xs i.toNat n) ∨ ((cirB xs && decide (0 ≤ i ∧ i ≤ 11)) = false ∧ y = 0)
theorem cycAt_ex (n : Nat) (xs : List Int) (i : Int) : ∃ y, CycAt n xs i y := by
  rcases key_cases xs i with h | h
  · exact ⟨_, .inl ⟨h, rfl⟩⟩
  · exact ⟨_, .inr ⟨h, rfl⟩⟩
/-- What ThirdAt and ThirdError answer. -/
def ThAt (xs : List Int) (i p q r s : Int) : Prop :=
  ((CirOk xs ∧ 0 ≤ i ∧ i ≤ 11) ∧ p = (thV (cycTo xs i.toNat 4)).two ∧ q = (thV (cycTo xs i.toNat 4)).three ∧ r = (thV (cycTo xs i.toNat 4)).five ∧ s = (thV (cycTo xs i.toNat 4)).root) ∨
  ((cirB xs && decide (0 ≤ i ∧ i ≤ 11)) = false ∧ p = 0 ∧ q = 0 ∧ r = 0 ∧ s = 0)
theorem thAt_ex (xs : List Int) (i : Int) : ∃ p q r s, ThAt xs i p q r s := by
  rcases key_cases xs i with h | h
  · exact ⟨_, _, _, _, .inl ⟨h, rfl, rfl, rfl, rfl⟩⟩
  · exact ⟨_, _, _, _, .inr ⟨h, rfl, rfl, rfl, rfl⟩⟩
def ErAt (xs : List Int) (i p q r s : Int) : Prop :=
  ((CirOk xs ∧ 0 ≤ i ∧ i ≤ 11) ∧ p = (erV (cycTo xs i.toNat 4)).two ∧ q = (erV (cycTo xs i.toNat 4)).three ∧ r = (erV (cycTo xs i.toNat 4)).five ∧ s = (erV (cycTo xs i.toNat 4)).root) ∨
  ((cirB xs && decide (0 ≤ i ∧ i ≤ 11)) = false ∧ p = 0 ∧ q = 0 ∧ r = 0 ∧ s = 0)
theorem erAt_ex (xs : List Int) (i : Int) : ∃ p q r s, ErAt xs i p q r s := by
  rcases key_cases xs i with h | h
  · exact ⟨_, _, _, _, .inl ⟨h, rfl, rfl, rfl, rfl⟩⟩
  · exact ⟨_, _, _, _, .inr ⟨h, rfl, rfl, rfl, rfl⟩⟩
/-- The third and its error of one key together. -/
theorem er_of {xs : List Int} {i p q r s : Int} (h : ErAt xs i p q r s) : ∃ a b c d y, ThAt xs i a b c d ∧ diffV ⟨-2, 0, 1, 1⟩ ⟨a, b, c, d⟩ = (⟨p, q, r, s⟩, y) := by
  rcases h with ⟨hc, rfl, rfl, rfl, rfl⟩ | ⟨hb, rfl, rfl, rfl, rfl⟩
  · have k := (thi_all (cyc_bd hc.1 i.toNat (k := 4) (by omega))).2.2.1
    exact ⟨_, _, _, _, _, .inl ⟨hc, rfl, rfl, rfl, rfl⟩, k⟩
  · exact ⟨0, 0, 0, 0, false, .inr ⟨hb, rfl, rfl, rfl, rfl⟩, Prod.ext (eqV_eq (by decide +kernel)) (by decide +kernel)⟩
end Go.Proofs.Ytneblpplkidkfaa
/- Contracts of impl.partsFrom, spec.l13Sum, and of ThirdParts and SmallThirdParts, both sides. -/
namespace Go.Proofs.Ytneblpplkidkfaa
open Go.RowKit Go.Joins
set_option linter.unusedVariables false
end Go.Proofs.Ytneblpplkidkfaa
