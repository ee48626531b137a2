/- A block of three ints (a map), without any Go text. -/
import Derived.Test.YthbjndaemmaoaaaDoorToneWalks
import Derived.Test.YthbjndaemmaoaaaDoorMapMath
namespace Go.Proofs.YthbjndaemmaoaaaDoor
open Go.RowKit Go.Joins
set_option linter.unusedVariables false
/-- The value of a map. -/
abbrev mapV (a b c : Int) : Value := .agg #[.int .i64 a, .int .i64 b, .int .i64 c]
/-- A map lies at block m. -/
def Tri (m : Nat) (p q r : Int) (w : World) : Prop := m < w.heap.size ∧ w.cell? ⟨m, 0, none⟩ = some (.int .i64 p) ∧ w.cell? ⟨m, 1, none⟩ = some (.int .i64 q) ∧ w.cell? ⟨m, 2, none⟩ = some (.int .i64 r)
theorem tri_alloc {w : World} {p q r : Int} {t : TypeId} : Tri w.heap.size p q r (w.alloc (.cells #[.int .i64 p, .int .i64 q, .int .i64 r] t)) :=
  ⟨by simp, by simp [go_sem], by simp [go_sem], by simp [go_sem]⟩
theorem tri_keep {W w : World} {m : Nat} {p q r : Int} (hb : Below W.heap.size W w) (h : Tri m p q r W) : Tri m p q r w :=
  ⟨Nat.lt_of_lt_of_le h.1 hb.size, (hb.cell h.1).trans h.2.1, (hb.cell h.1).trans h.2.2.1, (hb.cell h.1).trans h.2.2.2⟩
theorem tri_set {w : World} {m : Nat} {p q r p' q' r' : Int} (h : Tri m p q r w) :
    Tri m p' q' r' (((w.setCell ⟨m, 0, none⟩ (.int .i64 p')).setCell ⟨m, 1, none⟩ (.int .i64 q')).setCell ⟨m, 2, none⟩ (.int .i64 r')) := by
  obtain ⟨hm, z0, z1, z2⟩ := h
  exact ⟨by simpa using hm, by simp [go_sem, z0], by simp [go_sem, z1], by simp [go_sem, z2]⟩
theorem tri_other {w : World} {n m : Nat} {p q r : Int} {v0 v1 v2 : Value} (hn : n ≠ m) (h : Tri n p q r w) :
    Tri n p q r (((w.setCell ⟨m, 0, none⟩ v0).setCell ⟨m, 1, none⟩ v1).setCell ⟨m, 2, none⟩ v2) := by
  obtain ⟨hm, z0, z1, z2⟩ := h
  have k : ∀ i j : Nat, (⟨m, j, none⟩ : Addr) ≠ ⟨n, i, none⟩ := fun i j e => hn (by injection e with e1; exact e1.symm)
  have c : ∀ i, (((w.setCell ⟨m, 0, none⟩ v0).setCell ⟨m, 1, none⟩ v1).setCell ⟨m, 2, none⟩ v2).cell? ⟨n, i, none⟩ = w.cell? ⟨n, i, none⟩ := fun i => by
    rw [World.cell?_setCell_other _ _ _ _ (k i 2), World.cell?_setCell_other _ _ _ _ (k i 1), World.cell?_setCell_other _ _ _ _ (k i 0)]
  exact ⟨by simpa using hm, (c 0).trans z0, (c 1).trans z1, (c 2).trans z2⟩
theorem tri_al {w : World} {m : Nat} {p q r : Int} {o : Obj} (h : Tri m p q r w) : Tri m p q r (w.alloc o) := tri_keep ((Below.refl _ _).alloc (Nat.le_refl _) o) h
theorem below_set3 {w w' : World} {B m : Nat} {v0 v1 v2 : Value} (hm : B ≤ m) (h : Below B w w') : Below B w (((w'.setCell ⟨m, 0, none⟩ v0).setCell ⟨m, 1, none⟩ v1).setCell ⟨m, 2, none⟩ v2) :=
  ((h.setCell hm _).setCell hm _).setCell hm _
end Go.Proofs.YthbjndaemmaoaaaDoor
/- Contracts of laws.toMap, laws.eqMap, spec.MapOk, impl.isPure. -/
namespace Go.Proofs.YthbjndaemmaoaaaDoor
open Go.RowKit Go.Joins
set_option linter.unusedVariables false
/-- An interval is valid with Root 1. -/
def pure9 (a b c d : Int) : Bool := okI a b c d && (d == 1)
end Go.Proofs.YthbjndaemmaoaaaDoor
