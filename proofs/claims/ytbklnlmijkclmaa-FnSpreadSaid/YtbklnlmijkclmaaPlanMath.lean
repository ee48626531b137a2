/- Tuning plans in numbers: a valid plan's step k goes from key k to key k + 1. -/
import Derived.Test.YtbklnlmijkclmaaIvCells
import Derived.Test.YtbklnlmijkclmaaTuneMath
namespace Go.Proofs.Ytbklnlmijkclmaa
open Go.RowKit Go.Joins
set_option linter.unusedVariables false
/-- Step k of a valid plan (From, To, Kind, Beats lie in the places of an interval's numbers). -/
def StGood (k : Nat) (s : Iv) : Prop := (s.two = (k : Int) ∧ s.three = (k : Int) + 1) ∧ (1 ≤ s.five ∧ s.five ≤ 2) ∧ 0 ≤ s.root ∧ s.root ≤ 5000
instance (k : Nat) (s : Iv) : Decidable (StGood k s) := by unfold StGood; infer_instance
def PlOk (xs : List Iv) : Prop := xs.length ≤ 11 ∧ ∀ k, k < xs.length → StGood k (ivAt xs k)
instance (xs : List Iv) : Decidable (PlOk xs) := by unfold PlOk; infer_instance
def planB (xs : List Iv) : Bool := decide (PlOk xs)
theorem planB_bad {xs : List Iv} {k : Nat} (hk : k < xs.length) (h : k ≤ 10 → ¬ StGood k (ivAt xs k)) : planB xs = false := decide_eq_false fun q => by
  have := q.1
  exact h (by omega) (q.2 k hk)
theorem planB_good {xs : List Iv} (hl : xs.length ≤ 11) (h : ∀ k, k < xs.length → StGood k (ivAt xs k)) : planB xs = true := decide_eq_true ⟨hl, h⟩
/-- The keys that are tuned behind k steps. -/
def tunL (k : Nat) : List Bool := (List.range 12).map fun j => decide (j ≤ k)
theorem tunL_set : ∀ k, k < 11 → (tunL k).set (k + 1) true = tunL (k + 1) := by decide
theorem tunL_at : ∀ k, k < 12 → ∀ j, j < 12 → (tunL k)[j]? = some (decide (j ≤ k)) := by decide
theorem tunL_first : (List.replicate 12 false).set 0 true = tunL 0 := by decide
def boolCs (L : List Bool) : List Value := L.map Value.bool
theorem boolCs_set (L : List Bool) (i : Nat) (b : Bool) : (boolCs L).set i (.bool b) = boolCs (L.set i b) := by simp [boolCs, List.map_set]
/-- What a step that is not rejected is. -/
theorem good_of {k : Nat} {fr ton kd bt : Int} {F T : Nat} (hF : fr = F) (hT : ton = T) (h0 : (1 ≤ kd ∧ kd ≤ 2) ∧ 0 ≤ bt ∧ bt ≤ 5000) (h1 : F ≤ 11) (h2 : T = (F + 1) % 12) (h3 : F ≤ k) (h4 : ¬ T ≤ k) : k ≤ 10 ∧ T = k + 1 ∧ F = k ∧ StGood k ⟨fr, ton, kd, bt⟩ := by
  have e : T = k + 1 ∧ F = k ∧ k ≤ 10 := by omega
  obtain ⟨e1, e2, e3⟩ := e
  subst hF hT
  refine ⟨e3, e1, e2, ⟨?_, ?_⟩, h0⟩ <;> (simp only; omega)
/-- The pitch of key k. -/
def pitK (s : Int) (xs : List Iv) : Nat → Int
  | 0 => s
  | k + 1 => tunV (pitK s xs k) (ivAt xs k).five (ivAt xs k).root
/-- The keys' pitches behind k steps. -/
def pitL (s : Int) (xs : List Iv) (k : Nat) : List Int := (List.range 12).map fun j => if j ≤ k then pitK s xs j else 0
theorem pitL_len (s : Int) (xs : List Iv) (k : Nat) : (pitL s xs k).length = 12 := by simp [pitL]
theorem pitL_at (s : Int) (xs : List Iv) (k : Nat) {j : Nat} (hj : j < 12) : (pitL s xs k).getD j 0 = if j ≤ k then pitK s xs j else 0 := by simp [pitL, hj]
theorem pitL_set (s : Int) (xs : List Iv) {k : Nat} (hk : k < 11) : (pitL s xs k).set (k + 1) (pitK s xs (k + 1)) = pitL s xs (k + 1) := by
  refine List.ext_getElem (by simp [pitL]) fun i h1 h2 => ?_
  simp only [pitL, List.length_set, List.length_map, List.length_range] at h1
  rw [List.getElem_set]
  simp only [pitL, List.getElem_map, List.getElem_range]
  split
  · rename_i e; subst e; rw [if_pos (Nat.le_refl _)]
  · rename_i e
    by_cases q : i ≤ k
    · rw [if_pos q, if_pos (by omega)]
    · rw [if_neg q, if_neg (by omega)]
def RunOk (s : Int) (xs : List Iv) : Prop := (PlOk xs ∧ FineOk s) ∧ ∀ k, k < xs.length → pitK s xs (k + 1) ≠ 0
instance (s : Int) (xs : List Iv) : Decidable (RunOk s xs) := by unfold RunOk; infer_instance
def runL (s : Int) (xs : List Iv) : List Int := if RunOk s xs then pitL s xs xs.length else []
def runB (s : Int) (xs : List Iv) : Bool := decide (RunOk s xs)
theorem run_no {s : Int} {xs : List Iv} (h : ¬ RunOk s xs) : runL s xs = [] ∧ runB s xs = false := ⟨if_neg h, decide_eq_false h⟩
theorem run_yes {s : Int} {xs : List Iv} (h : RunOk s xs) : runL s xs = pitL s xs xs.length ∧ runB s xs = true := ⟨if_pos h, decide_eq_true h⟩
theorem pitK_fine {s : Int} {xs : List Iv} (hs : FineOk s) : ∀ k, pitK s xs k = 0 ∨ FineOk (pitK s xs k)
  | 0 => .inr hs
  | k + 1 => by
    show tunV _ _ _ = 0 ∨ FineOk (tunV _ _ _)
    unfold tunV
    split
    · rename_i h; exact .inr h.2
    · exact .inl rfl
/-- The keys that are tuned. -/
def keysL (xs : List Iv) : List Int := if PlOk xs then (List.range (xs.length + 1)).map fun (j : Nat) => (j : Int) else []
/-- What the last fifth has left over. -/
def closV (s : Int) (xs : List Iv) : Int := if RunOk s xs ∧ xs.length = 11 then max (3 * pitK s xs 11 - 4 * s) (4 * s - 3 * pitK s xs 11) else -1
def usK (k : Nat) : Int := [1, 2, 1, 2, 1, 2, 2, 1, 2, 1, 2].getD k 0
def usTo (b : Int) (k : Nat) : List Iv := (List.range k).map fun (i : Nat) => ⟨(i : Int), (i : Int) + 1, usK i, b⟩
def usL (b : Int) : List Iv := if 0 ≤ b ∧ b ≤ 5000 then usTo b 11 else []
end Go.Proofs.Ytbklnlmijkclmaa
