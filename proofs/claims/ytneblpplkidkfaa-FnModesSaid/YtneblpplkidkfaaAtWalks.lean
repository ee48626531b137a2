/- Contracts of laws.big, laws.at and laws.btoi; laws.at with one answer in every world behind. -/
import Derived.Test.YtneblpplkidkfaaProg
import Derived.Test.YtneblpplkidkfaaCurWalks
import Derived.Test.YtneblpplkidkfaaNumBase
import Derived.WalkKit
import Derived.Lib.Hide
namespace Go.Proofs.Ytneblpplkidkfaa
open Go.RowKit
set_option linter.unusedVariables false
theorem bigA_any (a : Option Addr) (len cap : Nat) (w : World) (h : len ≤ 9223372036854775807) : Calls Try.prog 8 #[.slice a len cap] w fun e w' => e = .returned (.bool (decide (1048576 < (len : Int)))) ∧ w = w' := by
  go_enter Try.func8, Try.ntmps8
  go_wp2
  go_ret
  exact ⟨rfl, rfl⟩
def AtPost (w : World) (e : Ending) (w' : World) : Prop := ∃ u : Nat, u ≤ 255 ∧ e = .returned (.int .i64 (u : Int)) ∧ w = w'
theorem at_any {w : World} {a : Option Addr} {len cap : Nat} {zs : List Int} (hr : IsRow .u8 w a len cap zs) (hl : len ≤ 1048576) (i : Nat) (hi : i ≤ 1000) : Calls Try.prog 10 #[.slice a len cap, .int .i64 (i : Int)] w (AtPost w) := by
  by_cases h0 : len = 0
  · subst h0
    clear hr
    go_enter Try.func10, Try.ntmps10
    go_wp2
    go_ret
    exact ⟨0, by omega, rfl, rfl⟩
  · obtain ⟨j, hj⟩ : ∃ j : Nat, ((i : Int) * 5 + 1) % (len : Int) = (j : Int) := ⟨(i * 5 + 1) % len, by push_cast; rfl⟩
    have hjl : j < len := by have h1 := Int.emod_lt_of_pos ((i : Int) * 5 + 1) (show (0 : Int) < (len : Int) by omega); omega
    have hjq : (j : Int) < len := by omega
    obtain ⟨g, off, z, rfl, hg, z0, z1, hz⟩ := row_byte hr j hjl
    have t0 : ((len : Int) == 0) = false := by simp; omega
    have hm : ((i : Int) * 5 + 1).tmod (len : Int) = (j : Int) := by rw [Int.tmod_eq_emod_of_nonneg (by omega)]; exact hj
    have q1 : IntKind.i64.wrap z = z := IntWalk.i64_in _ ⟨by omega, by omega⟩
    clear hr
    go_enter Try.func10, Try.ntmps10
    go_wp2
    go_ret
    obtain ⟨u, rfl⟩ := Int.eq_ofNat_of_zero_le z0
    exact ⟨u, by omega, rfl, rfl⟩
/-- laws.at has one answer in every world behind. -/
theorem at_fix {w : World} {a : Option Addr} {len cap : Nat} {zs : List Int} (hr : IsRow .u8 w a len cap zs) (hl : len ≤ 1048576) (i : Nat) (hi : i ≤ 1000) :
    ∃ u : Nat, u ≤ 255 ∧ ∀ X, Below w.heap.size w X → Calls Try.prog 10 #[.slice a len cap, .int .i64 (i : Int)] X fun e w' => e = .returned (.int .i64 (u : Int)) ∧ X = w' := by
  by_cases h0 : len = 0
  · subst h0
    refine ⟨0, by omega, fun X _ => ?_⟩
    clear hr
    go_enter Try.func10, Try.ntmps10
    go_wp2
    go_ret
    exact ⟨rfl, rfl⟩
  · obtain ⟨j, hj⟩ : ∃ j : Nat, ((i : Int) * 5 + 1) % (len : Int) = (j : Int) := ⟨(i * 5 + 1) % len, by push_cast; rfl⟩
    have hjl : j < len := by have h1 := Int.emod_lt_of_pos ((i : Int) * 5 + 1) (show (0 : Int) < (len : Int) by omega); omega
    have hjq : (j : Int) < len := by omega
    obtain ⟨g, off, z, rfl, hg, z0, z1, hz⟩ := row_byte hr j hjl
    obtain ⟨u, rfl⟩ := Int.eq_ofNat_of_zero_le z0
    refine ⟨u, by omega, fun X hX => ?_⟩
    have hz' := (hX.cell (p := ⟨g, off + j, none⟩) hg).trans hz
    have t0 : ((len : Int) == 0) = false := by simp; omega
    have hm : ((i : Int) * 5 + 1).tmod (len : Int) = (j : Int) := by rw [Int.tmod_eq_emod_of_nonneg (by omega)]; exact hj
    have q1 : IntKind.i64.wrap (u : Int) = (u : Int) := IntWalk.i64_in _ ⟨by omega, by omega⟩
    clear hr hz hX
    go_enter Try.func10, Try.ntmps10
    go_wp2
    go_ret
    exact ⟨rfl, rfl⟩
end Go.Proofs.Ytneblpplkidkfaa
/- Contract of laws.big. -/
namespace Go.Proofs.Ytneblpplkidkfaa
open Go.RowKit
set_option linter.unusedVariables false
theorem bigW_any (a : Option Addr) (len cap : Nat) (w : World) (h : len ≤ 9223372036854775807) : Calls Try.prog 8 #[.slice a len cap] w fun e w' => e = .returned (.bool (decide (1048576 < (len : Int)))) ∧ w = w' := by
  go_enter Try.func8, Try.ntmps8
  go_wp2
  go_ret
  exact ⟨rfl, rfl⟩
end Go.Proofs.Ytneblpplkidkfaa
