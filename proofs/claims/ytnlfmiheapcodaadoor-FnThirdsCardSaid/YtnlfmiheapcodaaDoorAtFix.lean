/- laws.at with one answer in every world behind. -/
import Derived.Test.YtnlfmiheapcodaaDoorAtWalks
namespace Go.Proofs.YtnlfmiheapcodaaDoor
open Go.RowKit
set_option linter.unusedVariables false
/-- laws.at has one answer in every world behind. -/
theorem at_fix {w : World} {a : Option Addr} {len cap : Nat} {zs : List Int} (hr : IsRow .u8 w a len cap zs) (hl : len ≤ 1048576) (i : Nat) (hi : i ≤ 1000) :
    ∃ u : Nat, u ≤ 255 ∧ ∀ X, Below w.heap.size w X → Calls Tryd.prog 12 #[.slice a len cap, .int .i64 (i : Int)] X fun e w' => e = .returned (.int .i64 (u : Int)) ∧ X = w' := by
  by_cases h0 : len = 0
  · subst h0
    refine ⟨0, by omega, fun X _ => ?_⟩
    clear hr
    go_enter Tryd.func12, Tryd.ntmps12
    go_wp2
    go_ret
    exact ⟨rfl, rfl⟩
  · obtain ⟨j, hj⟩ : ∃ j : Nat, ((i : Int) * 5 + 1) % (len : Int) = (j : Int) := ⟨(i * 5 + 1) % len, by push_cast; rfl⟩
    have hjl : j < len := by have h1 := Int.emod_lt_of_pos ((i : Int) * 5 + 1) (show (0 : Int) < (len : Int) by omega); omega
    have hjq : (j : Int) < len := by omega
    obtain ⟨g, off, z, rfl, hg, z0, z1, hz⟩ := row_byte hr j hjl
    obtain ⟨u, rfl⟩ := Int.eq_ofNat_of_zero_le z0
    refine ⟨u, by omega, fun X hX => ?_⟩
    have hz' := (hX.cell (p := ⟨g, off + j, none⟩) hg).trans hz
    have t0 : ((len : Int) == 0) = false := by simp; omega
    have hm : ((i : Int) * 5 + 1).tmod (len : Int) = (j : Int) := by rw [Int.tmod_eq_emod_of_nonneg (by omega)]; exact hj
    have q1 : IntKind.i64.wrap (u : Int) = (u : Int) := IntWalk.i64_in _ ⟨by omega, by omega⟩
    clear hr hz hX
    go_enter Tryd.func12, Tryd.ntmps12
    go_wp2
    go_ret
    exact ⟨rfl, rfl⟩
end Go.Proofs.YtnlfmiheapcodaaDoor
