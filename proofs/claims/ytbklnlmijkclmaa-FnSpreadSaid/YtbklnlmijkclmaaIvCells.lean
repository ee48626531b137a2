/- A row of intervals in a block: its cells. -/
import Derived.Test.YtbklnlmijkclmaaNumBase
import Derived.Test.YtbklnlmijkclmaaTonesMath
namespace Go.Proofs.Ytbklnlmijkclmaa
open Go.RowKit Go.Joins
set_option linter.unusedVariables false
/-- The cells of a row of intervals. -/
def ivCs : List Iv → List Value
  | [] => []
  | x :: xs => .int .i64 x.two :: .int .i64 x.three :: .int .i64 x.five :: .int .i64 x.root :: ivCs xs
theorem ivCs_len : ∀ xs, (ivCs xs).length = xs.length * 4
  | [] => rfl
  | x :: xs => by unfold ivCs; simp only [List.length_cons, ivCs_len xs]; omega
def ivAt (xs : List Iv) (j : Nat) : Iv := xs.getD j ⟨0, 0, 0, 0⟩
theorem ivCs_get : ∀ (xs : List Iv) (j : Nat), j < xs.length → (ivCs xs)[j * 4]? = some (.int .i64 (ivAt xs j).two) ∧ (ivCs xs)[j * 4 + 1]? = some (.int .i64 (ivAt xs j).three) ∧ (ivCs xs)[j * 4 + 2]? = some (.int .i64 (ivAt xs j).five) ∧ (ivCs xs)[j * 4 + 3]? = some (.int .i64 (ivAt xs j).root)
  | [], j, h => by simp at h
  | x :: xs, 0, _ => by simp [ivCs, ivAt]
  | x :: xs, j + 1, h => by
    have ih := ivCs_get xs j (by simpa using h)
    have e : (j + 1) * 4 = j * 4 + 4 := by omega
    have ea : ivAt (x :: xs) (j + 1) = ivAt xs j := by simp [ivAt]
    unfold ivCs
    rw [e, ea]
    simpa [show j * 4 + 4 + 1 = j * 4 + 1 + 4 from by omega, show j * 4 + 4 + 2 = j * 4 + 2 + 4 from by omega, show j * 4 + 4 + 3 = j * 4 + 3 + 4 from by omega] using ih
/-- The four cells of an element. -/
theorem own_iv {w : World} {base : Nat} {e : TypeId} {g n cap : Nat} {xs : List Iv} (h : w.ownsRow base e 4 (.slice (some ⟨g, 0, none⟩) n cap) n (ivCs xs)) (hn : n = xs.length) (j : Nat) (hj : j < n) : w.cell? ⟨g, j * 4, none⟩ = some (.int .i64 (ivAt xs j).two) ∧ w.cell? ⟨g, j * 4 + 1, none⟩ = some (.int .i64 (ivAt xs j).three) ∧ w.cell? ⟨g, j * 4 + 2, none⟩ = some (.int .i64 (ivAt xs j).five) ∧ w.cell? ⟨g, j * 4 + 3, none⟩ = some (.int .i64 (ivAt xs j).root) := by
  have k := ivCs_get xs j (by omega)
  refine ⟨(h.cellAt (j * 4) (by omega)).trans k.1, (h.cellAt (j * 4 + 1) (by omega)).trans k.2.1, (h.cellAt (j * 4 + 2) (by omega)).trans k.2.2.1, (h.cellAt (j * 4 + 3) (by omega)).trans k.2.2.2⟩
theorem own4_shape {w : World} {base : Nat} {e : TypeId} {v : Value} {n : Nat} {xs : List Value} (h : w.ownsRow base e 4 v n xs) : (v = .slice none 0 0 ∧ n = 0) ∨ ∃ g cap, v = .slice (some ⟨g, 0, none⟩) n cap ∧ base ≤ g ∧ g < w.heap.size := by
  rcases h.2 with h1 | ⟨g, cap, cur, hv, hb, hg, _⟩
  · exact .inl h1
  · exact .inr ⟨g, cap, hv, hb, lt_of_block hg⟩
theorem own4_zero {w : World} {base : Nat} {e : TypeId} {v : Value} {n : Nat} {xs : List Value} (h : w.ownsRow base e 4 v n xs) (h0 : n = 0) : ∃ p c, v = .slice p 0 c := by
  rcases own4_shape h with ⟨rfl, _⟩ | ⟨g, cap, rfl, _⟩
  · exact ⟨_, _, rfl⟩
  · exact ⟨_, _, by rw [h0]⟩
theorem own4_pos {w : World} {base : Nat} {e : TypeId} {v : Value} {n : Nat} {xs : List Value} (h : w.ownsRow base e 4 v n xs) (h0 : 0 < n) : ∃ g cap, v = .slice (some ⟨g, 0, none⟩) n cap ∧ base ≤ g ∧ g < w.heap.size := by
  rcases own4_shape h with ⟨_, h'⟩ | h'
  · omega
  · exact h'
theorem own4_below {w w' : World} {base : Nat} {e : TypeId} {v : Value} {n : Nat} {xs : List Value} (h : w.ownsRow base e 4 v n xs) (hb : Below w.heap.size w w') : w'.ownsRow base e 4 v n xs := by
  refine h.kept (grown_of_below hb) ?_
  cases v.ownBlock
  · exact .inl rfl
  · exact .inr (by simp)
end Go.Proofs.Ytbklnlmijkclmaa
