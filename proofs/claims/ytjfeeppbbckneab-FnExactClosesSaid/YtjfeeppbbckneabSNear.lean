/- Contract of spec.NearestHeard. -/
import Derived.Test.YtjfeeppbbckneabSThirds
import Derived.Test.YtjfeeppbbckneabHeardMath
import Derived.Test.YtjfeeppbbckneabSFamily
import Derived.Deep.DeepCutAuto
namespace Go.Proofs.Ytjfeeppbbckneab
open Go.RowKit Go.Joins
set_option linter.unusedVariables false
theorem ths_small {xs : List Int} (h : CirOk xs) : SmallI (thTo xs 12) := fun i => by have := thTo_in h i; omega
theorem small_of {ts : List Int} (h : ThirdsIn ts) : SmallI ts := fun i => by
  rcases Nat.lt_or_ge i 12 with q | q
  · exact h.2 i q
  · rw [List.getD_eq_getElem?_getD, List.getElem?_eq_none (by rw [h.1]; exact q)]; simp
/-- A circle, a number and whether there is one. -/
def NearB (xs : List Int) (d : Int) (z : Bool) (w : World) (e : Ending) (w' : World) : Prop :=
  ∃ v, e = .returned (.tuple #[cirV v, .int .i64 d, .bool z]) ∧ w'.ownsRow w.heap.size 3 1 v xs.length (intCs xs) ∧ Below w.heap.size w w'
theorem near_none {L : List (List Int)} {ts xs : List Int} {d : Int} {z : Bool}
    (h : (z = false ∧ xs = [] ∧ d = 0 ∧ ¬ (0 < L.length ∧ ThirdsIn ts)) ∨ (z = true ∧ (0 < L.length ∧ ThirdsIn ts) ∧ ∃ i, NearTo (disF L ts) L.length i ∧ xs = lAt L i ∧ d = disF L ts i)) (hn : ¬ (0 < L.length ∧ ThirdsIn ts)) : xs = [] ∧ d = 0 ∧ z = false := by
  rcases h with ⟨h1, h2, h3, _⟩ | ⟨_, h, _⟩
  · exact ⟨h2, h3, h1⟩
  · exact absurd h hn
theorem near_some {L : List (List Int)} {ts xs : List Int} {d : Int} {z : Bool} {i : Nat}
    (h : (z = false ∧ xs = [] ∧ d = 0 ∧ ¬ (0 < L.length ∧ ThirdsIn ts)) ∨ (z = true ∧ (0 < L.length ∧ ThirdsIn ts) ∧ ∃ i, NearTo (disF L ts) L.length i ∧ xs = lAt L i ∧ d = disF L ts i)) (hy : ThirdsIn ts) (hi : NearTo (disF L ts) L.length i) : xs = lAt L i ∧ d = disF L ts i ∧ z = true := by
  rcases h with ⟨_, _, _, h⟩ | ⟨h1, _, j, hj, h2, h3⟩
  · exact absurd ⟨by have := hi.1; omega, hy⟩ h
  · obtain rfl := near_unique1 hi hj
    exact ⟨h2, h3, h1⟩
/-- One cell, two cells of a row. -/
def OneA (g i : Nat) (u : Value) (w : World) : Prop := g < w.heap.size ∧ w.cell? ⟨g, i, none⟩ = some u
theorem oneA_keep {g i : Nat} {u : Value} {w w' : World} (hb : Below w.heap.size w w') (h : OneA g i u w) : OneA g i u w' := ⟨Nat.lt_of_lt_of_le h.1 hb.size, (hb.cell (p := ⟨g, i, none⟩) h.1).trans h.2⟩
theorem oneA_set {g i m : Nat} {u v : Value} {w : World} (hm : m ≠ g) (h : OneA g i u w) : OneA g i u (w.setCell ⟨m, 0, none⟩ v) := ⟨by have := h.1; simpa using this, (World.cell?_setCell_other _ _ _ _ (fun e => hm (by injection e))).trans h.2⟩
def TwoA (g i k : Nat) (u v : Value) (w : World) : Prop := OneA g i u w ∧ OneA g k v w
theorem twoA_keep {g i k : Nat} {u v : Value} {w w' : World} (hb : Below w.heap.size w w') (h : TwoA g i k u v w) : TwoA g i k u v w' := ⟨oneA_keep hb h.1, oneA_keep hb h.2⟩
theorem twoA_cells {g i k : Nat} {u v : Value} {w : World} (h : TwoA g i k u v w) : w.cell? ⟨g, i, none⟩ = some u ∧ w.cell? ⟨g, k, none⟩ = some v := ⟨h.1.2, h.2.2⟩
end Go.Proofs.Ytjfeeppbbckneab
