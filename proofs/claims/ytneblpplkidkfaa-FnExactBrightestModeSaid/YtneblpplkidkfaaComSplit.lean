/- Contracts of SplitComma, both sides, and the walk of laws.FnExactSplitComma. -/
import Derived.Test.YtneblpplkidkfaaComWalks
import Derived.Test.YtneblpplkidkfaaSameTone
import Derived.OwnWalk
import Derived.Test.YtneblpplkidkfaaTakeD
namespace Go.Proofs.Ytneblpplkidkfaa
open Go.RowKit Go.Joins
set_option linter.unusedVariables false
theorem okI_nums4 {a b c d : Int} (h : okI a b c d = true) : 1 ≤ d ∧ d ≤ 12 ∧ -400 ≤ a ∧ a ≤ 400 ∧ -400 ≤ b ∧ b ≤ 400 ∧ -400 ≤ c ∧ c ≤ 400 := by unfold okI at h; simpa using h
theorem tdiv12 (n : Int) : ∃ q r, n.tdiv 12 = q ∧ n.tmod 12 = r ∧ 12 * q + r = n ∧ -12 < r ∧ r < 12 := by
  refine ⟨_, _, rfl, rfl, Int.mul_tdiv_add_tmod n 12, ?_, ?_⟩
  · have := Int.lt_tmod_of_pos n (show (0 : Int) < 12 by omega); omega
  · exact Int.tmod_lt_of_pos n (by omega)
/-- An interval is valid with Root 1. -/
def pureB (a b c d : Int) : Bool := okI a b c d && (d == 1)
def TimesAt (n : Int) (x : Bool) : Prop := decide (-50 ≤ n ∧ n ≤ 50) = x
/-- The sum of both first commas, a times and b times. -/
def SumAt (a b p q r : Int) : Prop := (-50 ≤ a ∧ a ≤ 50 ∧ -50 ≤ b ∧ b ≤ 50) ∧ p = a * -19 + b * -4 ∧ q = a * 12 + b * 4 ∧ r = -b
/-- What SplitComma answers. -/
def SplAt (t h f d p q : Int) (y : Bool) : Prop :=
  (pureB t h f d = false ∧ p = 0 ∧ q = 0 ∧ y = false) ∨
  (pureB t h f d = true ∧ ∃ a b r : Int, b = -f ∧ (h - 4 * b).tdiv 12 = a ∧ (h - 4 * b).tmod 12 = r ∧ 12 * a + r = h - 4 * b ∧
    (((-50 ≤ a ∧ a ≤ 50) ∧ (-50 ≤ b ∧ b ≤ 50) ∧ t = a * -19 + b * -4 ∧ r = 0 ∧ p = a ∧ q = b ∧ y = true) ∨
     (¬ ((-50 ≤ a ∧ a ≤ 50) ∧ (-50 ≤ b ∧ b ≤ 50) ∧ t = a * -19 + b * -4 ∧ r = 0) ∧ p = 0 ∧ q = 0 ∧ y = false)))
theorem splAt_ex (t h f d : Int) : ∃ p q y, SplAt t h f d p q y := by
  obtain ⟨x, hx⟩ : ∃ x : Bool, pureB t h f d = x := ⟨_, rfl⟩
  cases x
  · exact ⟨0, 0, false, .inl ⟨hx, rfl, rfl, rfl⟩⟩
  · obtain ⟨a, r, h1, h2, h3, h4, h5⟩ := tdiv12 (h - 4 * -f)
    by_cases g : (-50 ≤ a ∧ a ≤ 50) ∧ (-50 ≤ -f ∧ -f ≤ 50) ∧ t = a * -19 + -f * -4 ∧ r = 0
    · exact ⟨a, -f, true, .inr ⟨hx, a, -f, r, rfl, h1, h2, h3, .inl ⟨g.1, g.2.1, g.2.2.1, g.2.2.2, rfl, rfl, rfl⟩⟩⟩
    · exact ⟨0, 0, false, .inr ⟨hx, a, -f, r, rfl, h1, h2, h3, .inr ⟨g, rfl, rfl, rfl⟩⟩⟩
theorem com1 : ComAt 1 (-19) 12 0 1 [112, 121, 116, 104, 97, 103, 111, 114, 101, 97, 110] := .inl ⟨rfl, rfl, rfl, rfl, rfl, rfl⟩
theorem com2 : ComAt 2 (-4) 4 (-1) 1 [115, 121, 110, 116, 111, 110, 105, 99] := .inr (.inl ⟨rfl, rfl, rfl, rfl, rfl, rfl⟩)
theorem pure_of {t h f d : Int} (hx : pureB t h f d = true) : d = 1 ∧ -400 ≤ t ∧ t ≤ 400 ∧ -400 ≤ h ∧ h ≤ 400 ∧ -400 ≤ f ∧ f ≤ 400 := by
  unfold pureB at hx
  simp at hx
  have := okI_nums4 hx.1
  omega
/-- Three blocks of four numbers. -/
def TripC (n m : Nat) (t h f d : Int) (w : World) : Prop := Four n t h f d w ∧ Four m (-19) 12 0 1 w ∧ Four (m + 1) (-4) 4 (-1) 1 w
theorem tripC_keep {W w : World} {n m : Nat} {t h f d : Int} (hb : Below W.heap.size W w) (hp : TripC n m t h f d W) : TripC n m t h f d w := ⟨four_keep hb hp.1, four_keep hb hp.2.1, four_keep hb hp.2.2⟩
theorem tripC_drew {w : World} {n m : Nat} {t h f d : Int} (hp : TripC n m t h f d w) : TripC n m t h f d w.drew := hp
theorem tripC_cells {w : World} {n m : Nat} {t h f d : Int} (hp : TripC n m t h f d w) : w.cell? ⟨n, 0, none⟩ = some (.int .i64 t) ∧ w.cell? ⟨n, 1, none⟩ = some (.int .i64 h) ∧ w.cell? ⟨n, 2, none⟩ = some (.int .i64 f) ∧ w.cell? ⟨n, 3, none⟩ = some (.int .i64 d) ∧ w.cell? ⟨m, 0, none⟩ = some (.int .i64 (-19)) ∧ w.cell? ⟨m, 1, none⟩ = some (.int .i64 12) ∧ w.cell? ⟨m, 2, none⟩ = some (.int .i64 0) ∧ w.cell? ⟨m, 3, none⟩ = some (.int .i64 1) ∧ w.cell? ⟨m + 1, 0, none⟩ = some (.int .i64 (-4)) ∧ w.cell? ⟨m + 1, 1, none⟩ = some (.int .i64 4) ∧ w.cell? ⟨m + 1, 2, none⟩ = some (.int .i64 (-1)) ∧ w.cell? ⟨m + 1, 3, none⟩ = some (.int .i64 1) := by
  obtain ⟨⟨_, a0, a1, a2, a3⟩, ⟨_, b0, b1, b2, b3⟩, ⟨_, c0, c1, c2, c3⟩⟩ := hp
  exact ⟨a0, a1, a2, a3, b0, b1, b2, b3, c0, c1, c2, c3⟩
end Go.Proofs.Ytneblpplkidkfaa
