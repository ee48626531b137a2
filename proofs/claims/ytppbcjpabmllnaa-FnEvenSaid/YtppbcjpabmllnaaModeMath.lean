/- Chapter 22 without the program: the modes of a scale, their number, the brightest one, the scale backwards. -/
import Derived.Test.YtppbcjpabmllnaaScMath
namespace Go.Proofs.Ytppbcjpabmllnaa
open Go.RowKit Go.Joins
set_option linter.unusedVariables false
/-- The first m sizes of the mode k. -/
def mdTo (xs : List Int) (k : Nat) : Nat → List Int
  | 0 => []
  | m + 1 => mdTo xs k m ++ [xs.getD ((k + m) % xs.length) 0]
theorem mdTo_len (xs : List Int) (k : Nat) : ∀ m, (mdTo xs k m).length = m
  | 0 => rfl
  | m + 1 => by unfold mdTo; rw [List.length_append, mdTo_len xs k m]; rfl
theorem mdTo_get (xs : List Int) (k : Nat) : ∀ m j, j < m → (mdTo xs k m).getD j 0 = xs.getD ((k + j) % xs.length) 0
  | 0, j, h => by omega
  | m + 1, j, h => by
    have hl := mdTo_len xs k m
    unfold mdTo
    rcases (show j < m ∨ j = m from by omega) with e | e
    · rw [List.getD_eq_getElem?_getD, List.getElem?_append_left (by omega), ← List.getD_eq_getElem?_getD]
      exact mdTo_get xs k m j e
    · subst e
      rw [List.getD_eq_getElem?_getD, List.getElem?_append_right (by omega), hl, Nat.sub_self]
      rfl
/-- The mode k. -/
def modL (xs : List Int) (k : Nat) : List Int := mdTo xs k xs.length
theorem modL_len (xs : List Int) (k : Nat) : (modL xs k).length = xs.length := mdTo_len xs k _
/-- ModeOf. -/
def MdIn (xs : List Int) (i : Int) : Prop := ScOk xs ∧ 0 ≤ i ∧ i < xs.length
instance (xs : List Int) (i : Int) : Decidable (MdIn xs i) := by unfold MdIn; infer_instance
def modF (xs : List Int) (i : Int) : List Int := if MdIn xs i then modL xs i.toNat else []
theorem mod_yes {xs : List Int} {k : Nat} (h : ScOk xs) (hk : k < xs.length) : modF xs k = modL xs k := by
  unfold modF
  rw [if_pos ⟨h, by omega, by omega⟩, Int.toNat_natCast]
theorem mod_no {xs : List Int} {i : Int} (h : ¬ MdIn xs i) : modF xs i = [] := if_neg h
theorem modF_len (xs : List Int) (i : Int) : (modF xs i).length ≤ 12 := by
  unfold modF
  by_cases h : MdIn xs i
  · rw [if_pos h, modL_len]; exact h.1.1.2
  · rw [if_neg h]; simp
def ModAt (xs : List Int) (i : Int) (ys : List Int) : Prop := ys = modF xs i
theorem modAt_ex (xs : List Int) (i : Int) : ∃ ys, ModAt xs i ys := ⟨_, rfl⟩
theorem modAt_len {xs : List Int} {i : Int} {ys : List Int} (h : ModAt xs i ys) : ys.length ≤ 12 := by rw [h]; exact modF_len xs i
/-- The last m sizes, backwards. -/
def rvTo (xs : List Int) : Nat → List Int
  | 0 => []
  | m + 1 => rvTo xs m ++ [xs.getD (xs.length - 1 - m) 0]
theorem rvTo_len (xs : List Int) : ∀ m, (rvTo xs m).length = m
  | 0 => rfl
  | m + 1 => by unfold rvTo; rw [List.length_append, rvTo_len xs m]; rfl
/-- ReverseScale. -/
def revF (xs : List Int) : List Int := if ScOk xs then rvTo xs xs.length else []
theorem revF_len (xs : List Int) : (revF xs).length ≤ 12 := by
  unfold revF
  by_cases h : ScOk xs
  · rw [if_pos h, rvTo_len]; exact h.1.2
  · rw [if_neg h]; simp
def RevAt (xs ys : List Int) : Prop := ys = revF xs
theorem revAt_ex (xs : List Int) : ∃ ys, RevAt xs ys := ⟨_, rfl⟩
theorem revAt_len {xs ys : List Int} (h : RevAt xs ys) : ys.length ≤ 12 := by rw [h]; exact revF_len xs
/-- CountModes. -/
def NewM (xs : List Int) (k : Nat) : Prop := ∀ i, i < k → ¬ modL xs i = modL xs k
instance (xs : List Int) (k : Nat) : Decidable (NewM xs k) := by unfold NewM; infer_instance
def cmTo (xs : List Int) : Nat → Nat
  | 0 => 0
  | k + 1 => cmTo xs k + if NewM xs k then 1 else 0
theorem cmTo_le (xs : List Int) : ∀ k, cmTo xs k ≤ k
  | 0 => Nat.le_refl _
  | k + 1 => by
    have := cmTo_le xs k
    unfold cmTo
    split <;> omega
def cntF (xs : List Int) : Int := if ScOk xs then (cmTo xs xs.length : Int) else 0
def CntAt22 (xs : List Int) (y : Int) : Prop := y = cntF xs
theorem cntAt_ex (xs : List Int) : ∃ y, CntAt22 xs y := ⟨_, rfl⟩
/-- The first of two rows is greater at the first place where they differ. -/
def gtL : List Int → List Int → Bool
  | x :: xs, y :: ys => if x = y then gtL xs ys else decide (y < x)
  | _, _ => false
theorem gt_drop : ∀ (k : Nat) (a b : List Int), k ≤ a.length → a.length = b.length → (∀ j, j < k → a.getD j 0 = b.getD j 0) → gtL a b = gtL (a.drop k) (b.drop k)
  | 0, a, b, _, _, _ => rfl
  | k + 1, [], b, h, _, _ => by simp at h
  | k + 1, x :: xs, [], _, h, _ => by simp at h
  | k + 1, x :: xs, y :: ys, h1, h2, h3 => by
    have e : x = y := h3 0 (by omega)
    show (if x = y then gtL xs ys else decide (y < x)) = gtL (xs.drop k) (ys.drop k)
    rw [if_pos e]
    exact gt_drop k xs ys (by simp only [List.length_cons] at h1; omega) (by simp only [List.length_cons] at h2; omega) (fun j hj => h3 (j + 1) (by omega))
theorem gt_at {a b : List Int} {k : Nat} (hk : k < a.length) (hl : a.length = b.length) (hs : ∀ j, j < k → a.getD j 0 = b.getD j 0) (hn : ¬ a.getD k 0 = b.getD k 0) : gtL a b = decide (b.getD k 0 < a.getD k 0) := by
  have ea : a.getD k 0 = a[k] := by rw [List.getD_eq_getElem?_getD, List.getElem?_eq_getElem hk, Option.getD_some]
  have eb : b.getD k 0 = b[k]'(by omega) := by rw [List.getD_eq_getElem?_getD, List.getElem?_eq_getElem (by omega), Option.getD_some]
  rw [gt_drop k a b (by omega) hl hs, List.drop_eq_getElem_cons hk, List.drop_eq_getElem_cons (show k < b.length from by omega), ← ea, ← eb]
  show (if a.getD k 0 = b.getD k 0 then _ else decide (b.getD k 0 < a.getD k 0)) = _
  rw [if_neg hn]
theorem gt_end {a b : List Int} (hl : a.length = b.length) (hs : ∀ j, j < a.length → a.getD j 0 = b.getD j 0) : gtL a b = false := by
  rw [gt_drop a.length a b (Nat.le_refl _) hl hs, List.drop_length]
  rfl
/-- BrightestMode: the first of the greatest among the first k modes. -/
def brTo (xs : List Int) : Nat → Nat
  | 0 => 0
  | k + 1 => if k = 0 then 0 else if gtL (modL xs k) (modL xs (brTo xs k)) = true then k else brTo xs k
theorem brTo_lt (xs : List Int) : ∀ k, brTo xs (k + 1) ≤ k
  | 0 => by simp [brTo]
  | k + 1 => by
    have := brTo_lt xs k
    show (if k + 1 = 0 then 0 else if gtL (modL xs (k + 1)) (modL xs (brTo xs (k + 1))) = true then k + 1 else brTo xs (k + 1)) ≤ k + 1
    rw [if_neg (by omega)]
    split <;> omega
def brF (xs : List Int) : Int := if ScOk xs then (brTo xs xs.length : Int) else -1
def BrAt (xs : List Int) (y : Int) : Prop := y = brF xs
theorem brAt_ex (xs : List Int) : ∃ y, BrAt xs y := ⟨_, rfl⟩
end Go.Proofs.Ytppbcjpabmllnaa
