/- Contract of spec.l04Times: a large number, multiplied by a power in place. -/
import Derived.Test.YtneblpplkidkfaaBigWalks
import Derived.Test.YtneblpplkidkfaaSignImpl
namespace Go.Proofs.Ytneblpplkidkfaa
open Go.RowKit
set_option linter.unusedVariables false
theorem intCs_set (out : List Int) (xs : List Int) (j : Nat) (y : Int) (h : j < xs.length) (ho : out.length = j) : (intCs (out ++ xs.drop j)).set j (.int .i64 y) = intCs ((out ++ [y]) ++ xs.drop (j + 1)) := by
  have e1 : xs.drop j = xs[j] :: xs.drop (j + 1) := List.drop_eq_getElem_cons h
  rw [e1]
  unfold intCs
  have e3 : j - (List.map (Value.int .i64) out).length = 0 := by simp; omega
  rw [List.map_append, List.set_append_right _ _ (by simp; omega), e3, List.map_cons, List.set_cons_zero, List.map_append, List.map_append, List.map_cons, List.map_nil, List.append_assoc, List.singleton_append]
theorem getD_app (out xs : List Int) (j : Nat) (h : j < xs.length) (ho : out.length = j) : (out ++ xs.drop j).getD j 0 = xs.getD j 0 := by
  subst ho
  rw [List.getD_eq_getElem?_getD, List.getD_eq_getElem?_getD, List.getElem?_append_right (Nat.le_refl _), Nat.sub_self, List.getElem?_drop, Nat.add_zero]
theorem ofB_ne (n : Nat) (h : 1 ≤ n) : 0 < (ofB n).length := by rw [ofB_pos n (by omega)]; simp
/-- The groups, multiplied once. -/
theorem step_carry {N V : Nat} {out : List Int} {c : Int} (hN : 1 ≤ N) (hs : N ≤ 5) (h : GTo (N : Int) (ofB V) out (ofB V).length c) (hc : 0 < c) : out ++ [c] = ofB (V * N) := by
  rw [← mulG_times N V hN, ← gTo_end h, ofB_small _ (by have := h.2.2.1; omega) (by omega)]
  congr 2
  omega
theorem step_none {N V : Nat} {out : List Int} {c : Int} (hN : 1 ≤ N) (h : GTo (N : Int) (ofB V) out (ofB V).length c) (hc : ¬ 0 < c) : out = ofB (V * N) := by
  rw [← mulG_times N V hN, ← gTo_end h, show c.toNat = 0 from by omega, ofB_zero, List.append_nil]
end Go.Proofs.Ytneblpplkidkfaa
/- Contracts of spec.l04Compare and spec.l04Sign. -/
namespace Go.Proofs.Ytneblpplkidkfaa
open Go.RowKit
set_option linter.unusedVariables false
/-- max(a, 0). -/
def mx (a : Int) : Int := max a 0
theorem mx_run (ats : Array TypeId) (ty : TypeId) (a : Int) : Builtin.max_ ats ty #[.int .i64 a, .int .i64 0] = pure (.int .i64 (mx a)) := by
  have e : mx a = if (0 : Int) > a then 0 else a := by unfold mx; split <;> omega
  rw [e]
  simp [Builtin.max_, Builtin.max2]
theorem mx_bd {a : Int} (h : a ≤ 10000) : 0 ≤ mx a ∧ mx a ≤ 20000 := by unfold mx; omega
theorem mx_nat (a : Int) : (mx a).toNat = a.toNat := by unfold mx; omega
theorem pw2_len {x : Int} (h : x ≤ 10000) : ∀ k, k ≤ (mx x).toNat → (ofB (1 * 2 ^ k)).length ≤ 1000000 := fun k hk => by
  have := mx_bd h; have := pw_groups k 0 0; rw [pw2]; omega
theorem pw3_len {x y : Int} (h : x ≤ 10000) (h' : y ≤ 10000) : ∀ k, k ≤ (mx y).toNat → (ofB (pw x.toNat 0 0 * 3 ^ k)).length ≤ 1000000 := fun k hk => by
  have := mx_bd h'; have := pw_groups x.toNat k 0; rw [pw3]; omega
theorem pw5_len {x y z : Int} (h : x ≤ 10000) (h' : y ≤ 10000) (h'' : z ≤ 10000) : ∀ k, k ≤ (mx z).toNat → (ofB (pw x.toNat y.toNat 0 * 5 ^ k)).length ≤ 1000000 := fun k hk => by
  have := mx_bd h''; have := pw_groups x.toNat y.toNat k; rw [pw5]; omega
theorem quot_one (x : Int) : x.tdiv 1 = x := Int.tdiv_one x
end Go.Proofs.Ytneblpplkidkfaa
