/- Contracts of spec.l03Interval and spec.DrawIntervals. -/
import Derived.Test.YtppbcjpabmllnaaCurWalks
import Derived.Test.YtppbcjpabmllnaaToneWalks
import Derived.Test.YtppbcjpabmllnaaNumBase
namespace Go.Proofs.Ytppbcjpabmllnaa
open Go.RowKit Go.Joins
set_option linter.unusedVariables false
theorem heap_cells4 {w : World} {n : Nat} {x y z u : Value} {T : TypeId} (h : w.heap[n]? = some (.cells #[x, y, z, u] T (0, 0))) :
    w.cell? ⟨n, 0, none⟩ = some x ∧ w.cell? ⟨n, 1, none⟩ = some y ∧ w.cell? ⟨n, 2, none⟩ = some z ∧ w.cell? ⟨n, 3, none⟩ = some u ∧ ∀ o, w.frozen? ⟨n, o, none⟩ = false :=
  ⟨by rw [cell_of_row w n 0 _ T _ h]; rfl, by rw [cell_of_row w n 1 _ T _ h]; rfl, by rw [cell_of_row w n 2 _ T _ h]; rfl, by rw [cell_of_row w n 3 _ T _ h]; rfl, fun o => frozen_of_row w n o _ T h⟩
theorem Cur.setOther {T : TypeId} {W : World} {a : Option Addr} {len cap : Nat} {zs : List Int} {b : Nat} {w : World} (h : Cur T W a len cap zs b w) {n : Nat} (hn : n ≠ b) (hW : W.heap.size ≤ n) (j : Nat) (v : Value) : Cur T W a len cap zs b (w.setCell ⟨n, j, none⟩ v) := by
  obtain ⟨i, x, hi, hb⟩ := h.cells
  exact ⟨h.row, h.below.setCell (p := ⟨n, j, none⟩) hW v, h.ge, i, x, hi, by rw [Below.heap_setCell _ _ _ _ (fun e => hn e.symm)]; exact hb⟩
theorem grown_setNew {w w' : World} {r : Option Nat} (h : w.grownBy w' r) {n : Nat} (hn : w.heap.size ≤ n) (j : Nat) (v : Value) : w.grownBy (w'.setCell ⟨n, j, none⟩ v) r :=
  ⟨h.os, h.tape, h.output, by have := h.size; simpa using this, fun k hk hne => by rw [Below.heap_setCell _ _ _ _ (fun e => by have : k = n := e; omega)]; exact h.block k hk hne⟩
theorem heap_new3a (w : World) (o1 o2 o3 : Obj) : (((w.alloc o1).alloc o2).alloc o3).heap[w.heap.size]? = some o1 :=
  (Below.heap_alloc _ o3 _ (by simp; omega)).trans ((Below.heap_alloc _ o2 _ (by simp)).trans (heap_alloc_new w o1))
theorem heap_new3b (w : World) (o1 o2 o3 : Obj) : (((w.alloc o1).alloc o2).alloc o3).heap[w.heap.size + 1]? = some o2 := by
  have h := (Below.heap_alloc ((w.alloc o1).alloc o2) o3 (w.alloc o1).heap.size (by simp)).trans (heap_alloc_new (w.alloc o1) o2)
  simpa using h
theorem heap_new3c (w : World) (o1 o2 o3 : Obj) : (((w.alloc o1).alloc o2).alloc o3).heap[w.heap.size + 2]? = some o3 := by
  have h := heap_alloc_new ((w.alloc o1).alloc o2) o3
  simpa using h
theorem row_below3 {W : World} {k : IntKind} {a : Option Addr} {len cap : Nat} {zs : List Int} (h : IsRow k W a len cap zs) {o1 o2 o3 : Obj} : IsRow k (((W.alloc o1).alloc o2).alloc o3) a len cap zs := h.below (below_alloc3 W _ _ _)
theorem below_set4x {w w' : World} {B m : Nat} {v0 v1 v2 v3 : Value} (hm : B ≤ m) (h : Below B w w') : Below B w ((((w'.setCell ⟨m, 0, none⟩ v0).setCell ⟨m, 1, none⟩ v1).setCell ⟨m, 2, none⟩ v2).setCell ⟨m, 3, none⟩ v3) :=
  (((h.setCell hm _).setCell hm _).setCell hm _).setCell hm _
/-- A drawn interval's numbers. -/
def TI (a b c d : Int) : Prop := 1 ≤ d ∧ d ≤ 12 ∧ -12 ≤ a ∧ a ≤ 12 ∧ -6 ≤ b ∧ b ≤ 6 ∧ -3 ≤ c ∧ c ≤ 3
theorem ti_loose {a b c d : Int} (h : TI a b c d) : 1 ≤ d ∧ d ≤ 12 ∧ -100 ≤ a ∧ a ≤ 100 ∧ -100 ≤ b ∧ b ≤ 100 ∧ -100 ≤ c ∧ c ≤ 100 := by
  obtain ⟨h1, h2, h3, h4, h5, h6, h7, h8⟩ := h
  exact ⟨h1, h2, by omega, by omega, by omega, by omega, by omega, by omega⟩
def DrawnTone (T : TypeId) (W : World) (a : Option Addr) (len cap : Nat) (zs : List Int) (b : Nat) (w : World) (e : Ending) (w' : World) : Prop :=
  ∃ p q r s : Int, TI p q r s ∧ e = .returned (ivV p q r s) ∧ Cur T W a len cap zs b w' ∧ w.grownBy w' (some b)
/-- Three drawn intervals. -/
def DrawnTones (w : World) (e : Ending) (w' : World) : Prop :=
  ∃ a b c d a' b' c' d' a'' b'' c'' d'' : Int, TI a b c d ∧ TI a' b' c' d' ∧ TI a'' b'' c'' d'' ∧ e = .returned (.tuple #[ivV a b c d, ivV a' b' c' d', ivV a'' b'' c'' d'']) ∧ Below w.heap.size w w'
end Go.Proofs.Ytppbcjpabmllnaa
