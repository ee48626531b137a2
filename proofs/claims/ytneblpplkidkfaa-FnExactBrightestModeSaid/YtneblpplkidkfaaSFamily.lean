/- The circles with two parts; contracts of spec.l14Family and spec.FamilyOf. -/
import Derived.Test.YtneblpplkidkfaaCirRows
namespace Go.Proofs.Ytneblpplkidkfaa
open Go.RowKit Go.Joins
set_option linter.unusedVariables false
/-- The circles with the given first parts, k places being left. -/
def famL (p : Int) : Nat → List Int → Int → List (List Int)
  | 0, h, left => if 0 < left then [] else [h]
  | k + 1, h, left => famL p k (h ++ [0]) left ++ (if p ≤ left then famL p k (h ++ [p]) (left - p) else [])
theorem famL_len (p : Int) : ∀ k h left, (famL p k h left).length ≤ 2 ^ k
  | 0, h, left => by unfold famL; split <;> simp
  | k + 1, h, left => by
    have a := famL_len p k (h ++ [0]) left
    have b := famL_len p k (h ++ [p]) (left - p)
    unfold famL
    rw [List.length_append, Nat.pow_succ]
    split
    · omega
    · simp; omega
theorem pow_12 {k : Nat} (h : k ≤ 12) : 2 ^ k ≤ 4096 := Nat.pow_le_pow_right (n := 2) (by omega) h
theorem snoc_int {w : World} {B g cap n : Nat} {e : TypeId} {h : List Int} {x : Int} (o : w.ownsRow B e 1 (.slice (some ⟨g, 0, none⟩) (n + 1) cap) (n + 1) (intCs h ++ [.int .i64 x])) : w.ownsRow B e 1 (.slice (some ⟨g, 0, none⟩) (n + 1) cap) (n + 1) (intCs (h ++ [x])) := by
  rw [intCs_app]; exact o
/-- The parts that make a family. -/
def FamOk (p : Int) : Prop := (2 ≤ p ∧ p ≤ 12) ∧ (12 : Int).tmod p = 0
instance (p : Int) : Decidable (FamOk p) := by unfold FamOk; infer_instance
def famOf (p : Int) : List (List Int) := if FamOk p then famL p 12 [] 12 else []
theorem famL_each (p : Int) : ∀ k h left, ∀ x ∈ famL p k h left, x.length = h.length + k
  | 0, h, left, x, hx => by
    unfold famL at hx
    split at hx
    · simp at hx
    · simp at hx; subst hx; rfl
  | k + 1, h, left, x, hx => by
    unfold famL at hx
    rcases List.mem_append.1 hx with q | q
    · have := famL_each p k _ _ x q
      rw [List.length_append] at this
      simp at this; omega
    · split at q
      · have := famL_each p k _ _ x q
        rw [List.length_append] at this
        simp at this; omega
      · simp at q
theorem famOf_len (p : Int) : (famOf p).length ≤ 4096 := by
  unfold famOf
  split
  · exact Nat.le_trans (famL_len _ _ _ _) (pow_12 (by omega))
  · simp
theorem famOf_each (p : Int) : ∀ i, i < (famOf p).length → (lAt (famOf p) i).length = 12 := fun i hi => by
  have e : lAt (famOf p) i = (famOf p)[i] := by unfold lAt; rw [List.getD_eq_getElem?_getD, List.getElem?_eq_getElem hi]; rfl
  rw [e]
  have hm : (famOf p)[i] ∈ famOf p := List.getElem_mem hi
  generalize (famOf p)[i] = x at hm
  unfold famOf at hm
  split at hm
  · exact famL_each p 12 [] 12 x hm
  · simp at hm
theorem tmod_wrap {p : Int} (hp : 2 ≤ p ∧ p ≤ 12) : IntKind.i64.wrap ((12 : Int).tmod p) = (12 : Int).tmod p := by
  have h1 := Int.tmod_lt_of_pos (12 : Int) (show 0 < p from by omega)
  have h2 := Int.tmod_nonneg p (show (0 : Int) ≤ 12 from by omega)
  exact IntWalk.i64_in _ (by omega)
end Go.Proofs.Ytneblpplkidkfaa
