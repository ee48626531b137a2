/- Contract of spec.l01PickInt. -/
import Derived.Test.YtjnhfgacgobfcaaDoorCurWalks
namespace Go.Proofs.YtjnhfgacgobfcaaDoor
open Go.RowKit
set_option linter.unusedVariables false
theorem pickInt_any {W : World} {a : Option Addr} {len cap : Nat} {zs : List Int} {b : Nat} {w : World} (hc : Cur 49 W a len cap zs b w) (L m cp : Nat) (xs : List Int) (t : TypeId) (hm : xs.length = m) (h0 : 0 < m) (hm' : m ≤ 1000) (hL : L ≠ b)
    (hcs : w.heap[L]? = some (.cells (xs.map (Value.int .i64)).toArray t (0, 0))) :
    Calls Tryd.prog 26 #[.pointer (some ⟨b, 0, none⟩), .slice (some ⟨L, 0, none⟩) m cp] w (Drawn 49 W a len cap zs b w fun v => v ∈ xs) := by
  have HM := Lib.hid hm
  have HCS := Lib.hid hcs
  clear hm hcs
  go_enter Tryd.func26, Tryd.ntmps26
  go_wp2_with fail
  refine (below_any hc _).mono ?_
  rintro e w1 ⟨x, ⟨hx0, _, hx1⟩, rfl, hc1, hg1⟩
  obtain ⟨j, rfl⟩ := Int.eq_ofNat_of_zero_le hx0
  have hj : j < m := by have := hx1 (by omega); omega
  have hq : (j : Int) < m := by omega
  clear hx0 hx1
  have hcell : w1.cell? ⟨L, j, none⟩ = some (.int .i64 (xs.getD j 0)) := by
    have e1 : w1.heap[L]? = some (.cells (xs.map (Value.int .i64)).toArray t (0, 0)) := (hg1.block L (lt_of_block HCS.out) (by simpa using hL)).trans HCS.out
    rw [cell_of_row w1 L j _ t _ e1]
    have hl := HM.out
    simp [List.getElem?_eq_getElem (show j < xs.length by omega)]
  have hmem : xs.getD j 0 ∈ xs := by
    have hl := HM.out
    rw [List.getD_eq_getElem?_getD, List.getElem?_eq_getElem (by omega)]; exact List.getElem_mem _
  generalize xs.getD j 0 = v at hcell hmem
  go_wp2_with fail
  go_ret
  exact ⟨v, hmem, rfl, hc1, hg1⟩
def InI64 (v : Int) : Prop := -9223372036854775808 ≤ v ∧ v ≤ 9223372036854775807
theorem grown_alloc_first {w w' : World} {o : Obj} {r : Option Nat} (h : (w.alloc o).grownBy w' r) : w.grownBy w' r :=
  ⟨h.os, h.tape, h.output, Nat.le_trans (by simp) h.size, fun k hk hne => (h.block k (by simp; omega) hne).trans (Below.heap_alloc w o k hk)⟩
theorem Cur.alloc {T : TypeId} {W : World} {a : Option Addr} {len cap : Nat} {zs : List Int} {b : Nat} {w : World} (h : Cur T W a len cap zs b w) (o : Obj) : Cur T W a len cap zs b (w.alloc o) := by
  obtain ⟨i, x, hi, hb⟩ := h.cells
  exact ⟨h.row, h.below.alloc (Nat.le_trans h.ge (Nat.le_of_lt h.lt)) o, h.ge, i, x, hi, by rw [Below.heap_alloc w o b h.lt]; exact hb⟩
end Go.Proofs.YtjnhfgacgobfcaaDoor
