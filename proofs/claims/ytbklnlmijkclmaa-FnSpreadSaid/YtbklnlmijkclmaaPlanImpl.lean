/- The contracts asked of the program for plans, and what the laws of plans share. -/
import Derived.Test.YtbklnlmijkclmaaSClosPlan
import Derived.Test.YtbklnlmijkclmaaSKeysTuned
import Derived.Test.YtbklnlmijkclmaaSUsual
import Derived.Test.YtbklnlmijkclmaaMarkOwn
namespace Go.Proofs.Ytbklnlmijkclmaa
open Go.RowKit Go.Joins
set_option linter.unusedVariables false
def PlanOkImpl : Prop := ∀ (w : World) (b : Nat) (v : Value) (xs : List Iv), xs.length ≤ 2000000 → w.ownsRow b 32 4 v xs.length (ivCs xs) →
  Calls Try.prog 38 #[v] w fun en w' => en = .returned (.bool (planB xs)) ∧ Below w.heap.size w w'
def RunImpl : Prop := ∀ (s : Int) (w : World) (b : Nat) (v : Value) (xs : List Iv), xs.length ≤ 2000000 → w.ownsRow b 32 4 v xs.length (ivCs xs) →
  Calls Try.prog 15 #[.int .i64 s, v] w (RowB (runL s xs) (runB s xs) w)
def KeysImpl : Prop := ∀ (w : World) (b : Nat) (v : Value) (xs : List Iv), xs.length ≤ 2000000 → w.ownsRow b 32 4 v xs.length (ivCs xs) →
  Calls Try.prog 18 #[v] w (OwnPost 3 (keysL xs) w)
theorem runL_len (s : Int) (xs : List Iv) : (runL s xs).length ≤ 12 := by
  unfold runL
  split
  · rw [pitL_len]; omega
  · simp
theorem keysL_len (xs : List Iv) : (keysL xs).length ≤ 12 := by
  unfold keysL
  split
  · rename_i h; have := h.1; simp; omega
  · simp
theorem own_up {w : World} {b b' : Nat} {e : TypeId} {size : Nat} {v : Value} {n : Nat} {xs : List Value} (h : w.ownsRow b' e size v n xs) (hb : b ≤ b') : w.ownsRow b e size v n xs := by
  refine ⟨h.1, ?_⟩
  rcases h.2 with h1 | ⟨g, cap, cur, h1, h2, h3⟩
  · exact .inl h1
  · exact .inr ⟨g, cap, cur, h1, Nat.le_trans hb h2, h3⟩
theorem own_gr {w w' : World} {base : Nat} {e : TypeId} {size : Nat} {v : Value} {n : Nat} {xs : List Value} {r : Option Nat} (h : w.ownsRow base e size v n xs) (hg : w.grownBy w' r) (hr : ∀ g, v.ownBlock = some g → r ≠ some g) : w'.ownsRow base e size v n xs := by
  refine h.kept hg ?_
  cases hv : v.ownBlock
  · exact .inl rfl
  · exact .inr (fun e => hr _ hv e.symm)
theorem st_base {w : World} {b b' : Nat} {e : TypeId} {v : Value} {n : Nat} {xs : List Value} (h : w.ownsRow b' e 4 v n xs) (hb : b ≤ b') : w.ownsRow b e 4 v n xs := own_up h hb
theorem rowL_full (xs : List Iv) : rowL xs.length (ivAt xs) = xs := by
  apply List.ext_getElem (rowL_len _ _)
  intro i h1 h2
  simp [rowL, ivAt, h2]
theorem markSt_full (w : World) (b : Nat) (v : Value) (xs : List Iv) (hx : xs.length ≤ 2000000) (h : w.ownsRow b 32 4 v xs.length (ivCs xs)) :
    Calls Try.prog 26 #[v, .int .i64 1] w fun en w' => en = .returned (.int .i64 (1 + 4 * (xs.length : Int))) ∧ w'.ownsRow b 32 4 v xs.length (ivCs (rowL xs.length (markI 1))) ∧ w.grownBy w' v.ownBlock := by
  refine markSt_own w b 32 v xs.length (ivAt xs) hx ?_
  rw [rowL_full]; exact h
theorem markSt (w : World) (b : Nat) (e : TypeId) (v : Value) (xs : List Iv) (hx : xs.length ≤ 2000000) (h : w.ownsRow b e 4 v xs.length (ivCs xs)) :
    Calls Try.prog 26 #[v, .int .i64 1] w fun en w' => en = .returned (.int .i64 (1 + 4 * (xs.length : Int))) ∧ w.grownBy w' v.ownBlock := by
  refine (markSt_own w b e v xs.length (ivAt xs) hx ?_).mono ?_
  · rw [rowL_full]; exact h
  · rintro en w' ⟨h1, _, h3⟩
    exact ⟨h1, h3⟩
theorem eqIL (w : World) (b1 b2 : Nat) (v1 v2 : Value) (ys : List Int) (hy : ys.length ≤ 2000000) (h1 : w.ownsRow b1 3 1 v1 ys.length (intCs ys)) (h2 : w.ownsRow b2 3 1 v2 ys.length (intCs ys)) :
    Calls Try.prog 29 #[v1, v2] w fun e w' => e = .returned (.bool true) ∧ Below w.heap.size w w' := by
  refine (eqInts_any w b1 b2 _ _ v1 v2 ys ys hy hy h1 h2).mono ?_
  rintro e w' ⟨rfl, hb⟩
  exact ⟨by rw [decide_eq_true (rfl : ys = ys)], hb⟩
end Go.Proofs.Ytbklnlmijkclmaa
