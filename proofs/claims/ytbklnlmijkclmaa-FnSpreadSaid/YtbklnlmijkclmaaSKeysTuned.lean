/- Contract of spec.KeysTuned. -/
import Derived.Test.YtbklnlmijkclmaaSPlan
namespace Go.Proofs.Ytbklnlmijkclmaa
open Go.RowKit Go.Joins
set_option linter.unusedVariables false
/-- The tuned keys below k. -/
def keyTo (n k : Nat) : List Int := (List.range (min k (n + 1))).map fun (j : Nat) => (j : Int)
theorem keyTo_yes {n k : Nat} (h : k ≤ n) : keyTo n (k + 1) = keyTo n k ++ [(k : Int)] := by
  unfold keyTo
  rw [show min (k + 1) (n + 1) = k + 1 from by omega, show min k (n + 1) = k from by omega, List.range_succ, List.map_append]
  rfl
theorem keyTo_no {n k : Nat} (h : ¬ k ≤ n) : keyTo n (k + 1) = keyTo n k := by
  unfold keyTo
  rw [show min (k + 1) (n + 1) = n + 1 from by omega, show min k (n + 1) = n + 1 from by omega]
theorem keyTo_len (n k : Nat) : (keyTo n k).length = min k (n + 1) := by simp [keyTo]
theorem keysL_yes {xs : List Iv} (h : PlOk xs) : keysL xs = keyTo xs.length 12 := by
  have := h.1
  unfold keysL keyTo
  rw [if_pos h, show min 12 (xs.length + 1) = xs.length + 1 from by omega]
theorem keys_snoc {w : World} {B g cap k : Nat} {n : Nat} (hk : k ≤ n) (h : w.ownsRow B 3 1 (.slice (some ⟨g, 0, none⟩) (k + 1) cap) (k + 1) (intCs (keyTo n k) ++ [.int .i64 (k : Int)])) : w.ownsRow B 3 1 (.slice (some ⟨g, 0, none⟩) (k + 1) cap) (min (k + 1) (n + 1)) (intCs (keyTo n (k + 1))) := by
  rw [keyTo_yes hk, intCs_app, show min (k + 1) (n + 1) = k + 1 from by omega]
  exact h
end Go.Proofs.Ytbklnlmijkclmaa
