/- Contracts of spec.l04Compare and spec.l04Sign. -/
import Derived.Test.YtfkimbpohlllkaaSPowsWalks
import Derived.Test.YtfkimbpohlllkaaSignImpl
namespace Go.Proofs.Ytfkimbpohlllkaa
open Go.RowKit
set_option linter.unusedVariables false
/-- max(a, 0). -/
def mx (a : Int) : Int := max a 0
theorem mx_run (ats : Array TypeId) (ty : TypeId) (a : Int) : Builtin.max_ ats ty #[.int .i64 a, .int .i64 0] = pure (.int .i64 (mx a)) := by
  have e : mx a = if (0 : Int) > a then 0 else a := by unfold mx; split <;> omega
  rw [e]
  simp [Builtin.max_, Builtin.max2]
theorem mx_bd {a : Int} (h : a ≤ 10000) : 0 ≤ mx a ∧ mx a ≤ 20000 := by unfold mx; omega
theorem mx_nat (a : Int) : (mx a).toNat = a.toNat := by unfold mx; omega
theorem pw2_len {x : Int} (h : x ≤ 10000) : ∀ k, k ≤ (mx x).toNat → (ofB (1 * 2 ^ k)).length ≤ 1000000 := fun k hk => by
  have := mx_bd h; have := pw_groups k 0 0; rw [pw2]; omega
theorem pw3_len {x y : Int} (h : x ≤ 10000) (h' : y ≤ 10000) : ∀ k, k ≤ (mx y).toNat → (ofB (pw x.toNat 0 0 * 3 ^ k)).length ≤ 1000000 := fun k hk => by
  have := mx_bd h'; have := pw_groups x.toNat k 0; rw [pw3]; omega
theorem pw5_len {x y z : Int} (h : x ≤ 10000) (h' : y ≤ 10000) (h'' : z ≤ 10000) : ∀ k, k ≤ (mx z).toNat → (ofB (pw x.toNat y.toNat 0 * 5 ^ k)).length ≤ 1000000 := fun k hk => by
  have := mx_bd h''; have := pw_groups x.toNat y.toNat k; rw [pw5]; omega
theorem quot_one (x : Int) : x.tdiv 1 = x := Int.tdiv_one x
end Go.Proofs.Ytfkimbpohlllkaa
