/- Contracts of spec.l01PickInt and spec.l01Number. -/
import Derived.Test.YthkhoocnkjdabaaDoorCurWalks
namespace Go.Proofs.YthkhoocnkjdabaaDoor
open Go.RowKit
set_option linter.unusedVariables false
theorem pickInt_any {W : World} {a : Option Addr} {len cap : Nat} {zs : List Int} {b : Nat} {w : World} (hc : Cur 49 W a len cap zs b w) (L m cp : Nat) (xs : List Int) (t : TypeId) (hm : xs.length = m) (h0 : 0 < m) (hm' : m ≤ 1000) (hL : L ≠ b)
    (hcs : w.heap[L]? = some (.cells (xs.map (Value.int .i64)).toArray t (0, 0))) :
    Calls Tryd.prog 32 #[.pointer (some ⟨b, 0, none⟩), .slice (some ⟨L, 0, none⟩) m cp] w (Drawn 49 W a len cap zs b w fun v => v ∈ xs) := by
  have HM := Lib.hid hm
  have HCS := Lib.hid hcs
  clear hm hcs
  go_enter Tryd.func32, Tryd.ntmps32
  go_wp2_with fail
  refine (below_any hc _).mono ?_
  rintro e w1 ⟨x, ⟨hx0, _, hx1⟩, rfl, hc1, hg1⟩
  obtain ⟨j, rfl⟩ := Int.eq_ofNat_of_zero_le hx0
  have hj : j < m := by have := hx1 (by omega); omega
  have hq : (j : Int) < m := by omega
  clear hx0 hx1
  have hcell : w1.cell? ⟨L, j, none⟩ = some (.int .i64 (xs.getD j 0)) := by
    have e1 : w1.heap[L]? = some (.cells (xs.map (Value.int .i64)).toArray t (0, 0)) := (hg1.block L (lt_of_block HCS.out) (by simpa using hL)).trans HCS.out
    rw [cell_of_row w1 L j _ t _ e1]
    have hl := HM.out
    simp [List.getElem?_eq_getElem (show j < xs.length by omega)]
  have hmem : xs.getD j 0 ∈ xs := by
    have hl := HM.out
    rw [List.getD_eq_getElem?_getD, List.getElem?_eq_getElem (by omega)]; exact List.getElem_mem _
  generalize xs.getD j 0 = v at hcell hmem
  go_wp2_with fail
  go_ret
  exact ⟨v, hmem, rfl, hc1, hg1⟩
def InI64 (v : Int) : Prop := -9223372036854775808 ≤ v ∧ v ≤ 9223372036854775807
theorem grown_alloc_first {w w' : World} {o : Obj} {r : Option Nat} (h : (w.alloc o).grownBy w' r) : w.grownBy w' r :=
  ⟨h.os, h.tape, h.output, Nat.le_trans (by simp) h.size, fun k hk hne => (h.block k (by simp; omega) hne).trans (Below.heap_alloc w o k hk)⟩
theorem Cur.alloc {T : TypeId} {W : World} {a : Option Addr} {len cap : Nat} {zs : List Int} {b : Nat} {w : World} (h : Cur T W a len cap zs b w) (o : Obj) : Cur T W a len cap zs b (w.alloc o) := by
  obtain ⟨i, x, hi, hb⟩ := h.cells
  exact ⟨h.row, h.below.alloc (Nat.le_trans h.ge (Nat.le_of_lt h.lt)) o, h.ge, i, x, hi, by rw [Below.heap_alloc w o b h.lt]; exact hb⟩
set_option maxHeartbeats 400000 in
theorem number_any {W : World} {a : Option Addr} {len cap : Nat} {zs : List Int} {b : Nat} {w : World} (hc : Cur 49 W a len cap zs b w) :
    Calls Tryd.prog 26 #[.pointer (some ⟨b, 0, none⟩)] w (Drawn 49 W a len cap zs b w InI64) := by
  go_enter Tryd.func26, Tryd.ntmps26
  go_wp2_with fail
  refine (below_any hc _).mono ?_
  rintro e w1 ⟨x, ⟨hx0, _, hx1⟩, rfl, hc1, hg1⟩
  have hx2 := hx1 (by omega)
  clear hx1
  rcases (show x = 0 ∨ x = 1 ∨ 1 < x from by omega) with h | h | h
  · have t1 : (x == 0) = true := by simp; omega
    clear h hx0 hx2
    have hne : w1.heap.size ≠ b := by have := hc1.lt; omega
    go_wp2_with fail
    refine (pickInt_any (hc1.alloc _) w1.heap.size 10 10 [-1, 0, 127, 128, 16383, 16384, 1000000000, 1000000001, 9223372036854775807, -9223372036854775808] 3 rfl (by omega) (by omega) hne (heap_alloc_new w1 _)).mono ?_
    rintro e w2 ⟨v, hv, rfl, hc2, hg2⟩
    go_wp2_with fail
    go_ret
    refine ⟨v, ?_, rfl, hc2, grown_trans hg1 (grown_alloc_first hg2)⟩
    unfold InI64
    simp only [List.mem_cons, List.not_mem_nil, or_false] at hv
    omega
  · have t1 : (x == 0) = false := by simp; omega
    have t2 : (x == 1) = true := by simp; omega
    clear h hx0 hx2
    go_wp2_with fail
    refine (below_any hc1 _).mono ?_
    rintro e w2 ⟨y, ⟨hy0, _, hy1⟩, rfl, hc2, hg2⟩
    have hy2 := hy1 (by omega)
    clear hy1
    go_wp2_with fail
    go_ret
    exact ⟨y, by unfold InI64; omega, rfl, hc2, grown_trans hg1 hg2⟩
  · have t1 : (x == 0) = false := by simp; omega
    have t2 : (x == 1) = false := by simp; omega
    clear h hx0 hx2
    go_wp2_with fail
    refine (below_any hc1 _).mono ?_
    rintro e w2 ⟨y, ⟨hy0, _, hy1⟩, rfl, hc2, hg2⟩
    have hy2 := hy1 (by omega)
    clear hy1
    go_wp2_with fail
    go_ret
    exact ⟨y, by unfold InI64; omega, rfl, hc2, grown_trans hg1 hg2⟩
end Go.Proofs.YthkhoocnkjdabaaDoor
