/- Contract of spec.l04Times: a large number, multiplied by a power in place. -/
import Derived.Test.YtfkimbpohlllkaaBigWalks
namespace Go.Proofs.Ytfkimbpohlllkaa
open Go.RowKit
set_option linter.unusedVariables false
theorem intCs_set (out : List Int) (xs : List Int) (j : Nat) (y : Int) (h : j < xs.length) (ho : out.length = j) : (intCs (out ++ xs.drop j)).set j (.int .i64 y) = intCs ((out ++ [y]) ++ xs.drop (j + 1)) := by
  have e1 : xs.drop j = xs[j] :: xs.drop (j + 1) := List.drop_eq_getElem_cons h
  rw [e1]
  unfold intCs
  have e3 : j - (List.map (Value.int .i64) out).length = 0 := by simp; omega
  rw [List.map_append, List.set_append_right _ _ (by simp; omega), e3, List.map_cons, List.set_cons_zero, List.map_append, List.map_append, List.map_cons, List.map_nil, List.append_assoc, List.singleton_append]
theorem getD_app (out xs : List Int) (j : Nat) (h : j < xs.length) (ho : out.length = j) : (out ++ xs.drop j).getD j 0 = xs.getD j 0 := by
  subst ho
  rw [List.getD_eq_getElem?_getD, List.getD_eq_getElem?_getD, List.getElem?_append_right (Nat.le_refl _), Nat.sub_self, List.getElem?_drop, Nat.add_zero]
theorem ofB_ne (n : Nat) (h : 1 ≤ n) : 0 < (ofB n).length := by rw [ofB_pos n (by omega)]; simp
/-- The groups, multiplied once. -/
theorem step_carry {N V : Nat} {out : List Int} {c : Int} (hN : 1 ≤ N) (hs : N ≤ 5) (h : GTo (N : Int) (ofB V) out (ofB V).length c) (hc : 0 < c) : out ++ [c] = ofB (V * N) := by
  rw [← mulG_times N V hN, ← gTo_end h, ofB_small _ (by have := h.2.2.1; omega) (by omega)]
  congr 2
  omega
theorem step_none {N V : Nat} {out : List Int} {c : Int} (hN : 1 ≤ N) (h : GTo (N : Int) (ofB V) out (ofB V).length c) (hc : ¬ 0 < c) : out = ofB (V * N) := by
  rw [← mulG_times N V hN, ← gTo_end h, show c.toNat = 0 from by omega, ofB_zero, List.append_nil]
end Go.Proofs.Ytfkimbpohlllkaa
