/- Contracts of the functions that draw from a cursor: spec.l01Byte, l01Below, l01Once, l01New. -/
import Derived.Test.YtjnhfgacgobfcaaDoorProg
import Derived.Test.YtjnhfgacgobfcaaDoorCurMath
import Derived.WalkKit
import Derived.Below
import Derived.Lib.Hide
import Derived.Deep.QuietTactic
import Derived.BigQuiet
namespace Go.Proofs.YtjnhfgacgobfcaaDoor
open Go.RowKit
set_option linter.unusedVariables false
set_option maxHeartbeats 400000 in
theorem byte_any {W : World} {a : Option Addr} {len cap : Nat} {zs : List Int} {b : Nat} {w : World} (hc : Cur 49 W a len cap zs b w) :
    Calls Tryd.prog 33 #[.pointer (some ⟨b, 0, none⟩)] w (Drawn 49 W a len cap zs b w fun n => 0 ≤ n ∧ n ≤ 255) := by
  obtain ⟨i, h, hi, hb⟩ := hc.cells
  obtain ⟨c0, c1, c2, f1, f2⟩ := cur_cells hb
  have hlen := hc.len_le
  have HB := Lib.hid hb
  have HC := Lib.hid hc
  clear hb hc
  by_cases hlt : i < len
  · obtain ⟨g, off, z, rfl, hg, z0, z1, hz⟩ := HC.out.byte i hlt
    have hne : ¬ g = b := by have := HC.out.ge; omega
    have hz' : w.cell? ⟨g, off + i, none⟩ = some (.int .u8 z) := (HC.out.below.cell (p := ⟨g, off + i, none⟩) hg).trans hz
    have q1 : IntKind.i64.wrap z = z := IntWalk.i64_in _ ⟨by omega, by omega⟩
    have q2 : (i : Int) < len := by omega
    clear hz hg
    go_enter Tryd.func33, Tryd.ntmps33
    go_wp2_with fail
    go_quiet (fail)
    go_wp2_with fail
    go_quiet (fail)
    go_wp2_with fail
    go_quiet (fail)
    go_wp2_with fail
    go_ret
    have k1 := HC.out.set2 hi HB.out (wrap64 (wrap64 (h * 6364136223846793005) + 1442695040888963407))
    exact ⟨_, and_bd _ 255 (by omega), rfl, (k1.1.drewN _).set1 hlt k1.2, grown_set (grown_drewN (grown_set (World.grownBy.refl _ _) 2 _) _) 1 _⟩
  · go_enter Tryd.func33, Tryd.ntmps33
    go_wp2_with fail
    go_quiet (fail)
    go_wp2_with fail
    go_quiet (fail)
    go_wp2_with fail
    go_ret
    have k1 := HC.out.set2 hi HB.out (wrap64 (wrap64 (h * 6364136223846793005) + 1442695040888963407))
    exact ⟨_, and_bd _ 255 (by omega), rfl, (k1.1.drewN _).drewN _, grown_drewN (grown_drewN (grown_set (World.grownBy.refl _ _) 2 _) _) _⟩
def BelowOf (n : Int) (v : Int) : Prop := 0 ≤ v ∧ (n ≤ 0 → v = 0) ∧ (0 < n → v < n)
theorem below_any {W : World} {a : Option Addr} {len cap : Nat} {zs : List Int} {b : Nat} {w : World} (hc : Cur 49 W a len cap zs b w) (n : Int) :
    Calls Tryd.prog 25 #[.pointer (some ⟨b, 0, none⟩), .int .i64 n] w (Drawn 49 W a len cap zs b w (BelowOf n)) := by
  rcases (show n ≤ 0 ∨ (0 < n ∧ n ≤ 256) ∨ 256 < n from by omega) with h | ⟨h, h2⟩ | h
  · go_enter Tryd.func25, Tryd.ntmps25
    go_wp2_with fail
    go_ret
    exact ⟨0, ⟨by omega, fun _ => rfl, fun h' => by omega⟩, rfl, hc, World.grownBy.refl _ _⟩
  · have hne : (n == 0) = false := by simp; omega
    go_enter Tryd.func25, Tryd.ntmps25
    go_wp2_with fail
    refine (byte_any hc).mono ?_
    rintro e w1 ⟨x, ⟨hx, hx'⟩, rfl, hc1, hg1⟩
    go_wp2_with fail
    go_ret
    exact ⟨x % n, ⟨Int.emod_nonneg _ (by omega), fun h' => by omega, fun h' => Int.emod_lt_of_pos _ h'⟩, rfl, hc1, hg1⟩
  · have hne : (n == 0) = false := by simp; omega
    go_enter Tryd.func25, Tryd.ntmps25
    go_wp2_with fail
    refine (byte_any hc).mono ?_
    rintro e w1 ⟨x, ⟨hx, hx'⟩, rfl, hc1, hg1⟩
    go_wp2_with fail
    refine (byte_any hc1).mono ?_
    rintro e w2 ⟨y, ⟨hy, hy'⟩, rfl, hc2, hg2⟩
    go_wp2_with fail
    refine (byte_any hc2).mono ?_
    rintro e w3 ⟨z, ⟨hz, hz'⟩, rfl, hc3, hg3⟩
    go_wp2_with fail
    refine (byte_any hc3).mono ?_
    rintro e w4 ⟨u, ⟨hu, hu'⟩, rfl, hc4, hg4⟩
    go_wp2_with fail
    go_ret
    exact ⟨(x * 16777216 + y * 65536 + z * 256 + u) % n, ⟨Int.emod_nonneg _ (by omega), fun h' => by omega, fun h' => Int.emod_lt_of_pos _ h'⟩, rfl, hc4, grown_trans (grown_trans (grown_trans hg1 hg2) hg3) hg4⟩
/-- What l01New leaves: a cursor in a new block. -/
def NewCur (T : TypeId) (W : World) (a : Option Addr) (len cap : Nat) (zs : List Int) (e : Ending) (w' : World) : Prop :=
  ∃ b : Nat, e = .returned (.pointer (some ⟨b, 0, none⟩)) ∧ Cur T W a len cap zs b w'
set_option maxHeartbeats 400000 in
theorem new_any {W : World} {a : Option Addr} {len cap : Nat} {zs : List Int} (hr : IsRow .u8 W a len cap zs) :
    Calls Tryd.prog 16 #[.slice a len cap] W (NewCur 49 W a len cap zs) := by
  have hlen : len ≤ 9223372036854775807 := by
    rcases hr with ⟨_, h1, _⟩ | ⟨x, _, h1, h2, _⟩
    · omega
    · unfold maxLen at h2; omega
  have HR := Lib.hid hr
  clear hr
  go_enter Tryd.func16, Tryd.ntmps16
  go_wp2
  go_loop [3, 4] (fun h i => ∃ k : Nat, ∃ x : Int, k ≤ len ∧ k ≤ 4000 ∧ i = .int .i64 k ∧ h = .int .i64 x) (fun _ i => len - (intOf i).toNat)
  case atStart => exact ⟨0, _, Nat.zero_le _, by omega, rfl, rfl⟩
  case round =>
    obtain ⟨k, x, hk, hk', rfl, rfl⟩ := hrel
    by_cases hlt : k < len
    · by_cases hlt' : k < 4000
      · obtain ⟨g, off, z, rfl, hg, z0, z1, hz⟩ := row_byte HR.out k hlt
        have q1 : IntKind.i64.wrap z = z := IntWalk.i64_in _ ⟨by omega, by omega⟩
        have q2 : (k : Int) < len := by omega
        have q3 : (k : Int) < 4000 := by omega
        go_wp2
        go_round
        case rel => exact ⟨k + 1, _, by omega, by omega, by go_num, rfl⟩
        case measure => simp [intOf]; omega
      · have q2 : (k : Int) < len := by omega
        have q3 : ¬ (k : Int) < 4000 := by omega
        go_wp2
        go_ret
        exact ⟨_, rfl, HR.out, (Below.refl _ _).alloc (Nat.le_refl _) _, Nat.le_refl _, 0, x, Nat.zero_le _, heap_alloc_new W _⟩
    · have q2 : ¬ (k : Int) < len := by omega
      go_wp2
      go_ret
      exact ⟨_, rfl, HR.out, (Below.refl _ _).alloc (Nat.le_refl _) _, Nat.le_refl _, 0, x, Nat.zero_le _, heap_alloc_new W _⟩
end Go.Proofs.YtjnhfgacgobfcaaDoor
