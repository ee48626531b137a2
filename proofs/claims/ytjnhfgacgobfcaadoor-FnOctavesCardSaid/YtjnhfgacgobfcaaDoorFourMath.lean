/- A block of four ints (a struct of four fields), without any Go text. -/
import Derived.WalkKit
import Derived.Below
import Derived.OneCell
import Derived.Laws.OwnMore
namespace Go.Proofs.YtjnhfgacgobfcaaDoor
open Go.RowKit
set_option linter.unusedVariables false
/-- An interval lies at block m. -/
def Four (m : Nat) (p q r s : Int) (w : World) : Prop := m < w.heap.size ∧ w.cell? ⟨m, 0, none⟩ = some (.int .i64 p) ∧ w.cell? ⟨m, 1, none⟩ = some (.int .i64 q) ∧ w.cell? ⟨m, 2, none⟩ = some (.int .i64 r) ∧ w.cell? ⟨m, 3, none⟩ = some (.int .i64 s)
theorem four_alloc {w : World} {p q r s : Int} {t : TypeId} : Four w.heap.size p q r s (w.alloc (.cells #[.int .i64 p, .int .i64 q, .int .i64 r, .int .i64 s] t)) :=
  ⟨by simp, by simp [go_sem], by simp [go_sem], by simp [go_sem], by simp [go_sem]⟩
theorem four_keep {W w : World} {m : Nat} {p q r s : Int} (hb : Below W.heap.size W w) (h : Four m p q r s W) : Four m p q r s w :=
  ⟨Nat.lt_of_lt_of_le h.1 hb.size, (hb.cell h.1).trans h.2.1, (hb.cell h.1).trans h.2.2.1, (hb.cell h.1).trans h.2.2.2.1, (hb.cell h.1).trans h.2.2.2.2⟩
theorem four_set {w : World} {m : Nat} {p q r s p' q' r' s' : Int} (h : Four m p q r s w) :
    Four m p' q' r' s' ((((w.setCell ⟨m, 0, none⟩ (.int .i64 p')).setCell ⟨m, 1, none⟩ (.int .i64 q')).setCell ⟨m, 2, none⟩ (.int .i64 r')).setCell ⟨m, 3, none⟩ (.int .i64 s')) := by
  obtain ⟨hm, z0, z1, z2, z3⟩ := h
  exact ⟨by simpa using hm, by simp [go_sem, z0], by simp [go_sem, z1], by simp [go_sem, z2], by simp [go_sem, z3]⟩
theorem four_other {w : World} {n m : Nat} {p q r s : Int} {v0 v1 v2 v3 : Value} (hn : n ≠ m) (h : Four n p q r s w) :
    Four n p q r s ((((w.setCell ⟨m, 0, none⟩ v0).setCell ⟨m, 1, none⟩ v1).setCell ⟨m, 2, none⟩ v2).setCell ⟨m, 3, none⟩ v3) := by
  obtain ⟨hm, z0, z1, z2, z3⟩ := h
  have k : ∀ i j : Nat, (⟨m, j, none⟩ : Addr) ≠ ⟨n, i, none⟩ := fun i j e => hn (by injection e with e1; exact e1.symm)
  have c : ∀ i, ((((w.setCell ⟨m, 0, none⟩ v0).setCell ⟨m, 1, none⟩ v1).setCell ⟨m, 2, none⟩ v2).setCell ⟨m, 3, none⟩ v3).cell? ⟨n, i, none⟩ = w.cell? ⟨n, i, none⟩ := fun i => by
    rw [World.cell?_setCell_other _ _ _ _ (k i 3), World.cell?_setCell_other _ _ _ _ (k i 2), World.cell?_setCell_other _ _ _ _ (k i 1), World.cell?_setCell_other _ _ _ _ (k i 0)]
  exact ⟨by simpa using hm, (c 0).trans z0, (c 1).trans z1, (c 2).trans z2, (c 3).trans z3⟩
theorem four_drewF {w : World} {m : Nat} {p q r s : Int} (h : Four m p q r s w) : Four m p q r s w.drew := h
theorem four_cellsF {w : World} {m : Nat} {p q r s : Int} (h : Four m p q r s w) : w.cell? ⟨m, 0, none⟩ = some (.int .i64 p) ∧ w.cell? ⟨m, 1, none⟩ = some (.int .i64 q) ∧ w.cell? ⟨m, 2, none⟩ = some (.int .i64 r) ∧ w.cell? ⟨m, 3, none⟩ = some (.int .i64 s) := h.2
theorem four_alF {w : World} {m : Nat} {p q r s : Int} {o : Obj} (h : Four m p q r s w) : Four m p q r s (w.alloc o) := four_keep ((Below.refl _ _).alloc (Nat.le_refl _) o) h
theorem eightF {w : World} {m n : Nat} {p q r s p' q' r' s' : Int} (h : Four m p q r s w) (k : Four n p' q' r' s' w) : w.cell? ⟨m, 0, none⟩ = some (.int .i64 p) ∧ w.cell? ⟨m, 1, none⟩ = some (.int .i64 q) ∧ w.cell? ⟨m, 2, none⟩ = some (.int .i64 r) ∧ w.cell? ⟨m, 3, none⟩ = some (.int .i64 s) ∧ w.cell? ⟨n, 0, none⟩ = some (.int .i64 p') ∧ w.cell? ⟨n, 1, none⟩ = some (.int .i64 q') ∧ w.cell? ⟨n, 2, none⟩ = some (.int .i64 r') ∧ w.cell? ⟨n, 3, none⟩ = some (.int .i64 s') :=
  ⟨h.2.1, h.2.2.1, h.2.2.2.1, h.2.2.2.2, k.2⟩
/-- A call behind others: what the walk knows is said of the world W. -/
theorem calls_fromF {P : Program} {k : FuncId} {args : Array Value} {W w : World} {v : Value} (h : Below W.heap.size W w) (hk : Calls P k args w fun e w' => e = .returned v ∧ Below w.heap.size w w') :
    Calls P k args w fun e w' => e = .returned v ∧ Below W.heap.size W w' :=
  hk.mono fun _ _ ⟨he, hb⟩ => ⟨he, h.trans (hb.mono h.size)⟩
end Go.Proofs.YtjnhfgacgobfcaaDoor
