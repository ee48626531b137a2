/- Contract of slices.swapRangeCmpFunc at intervals. -/
import Derived.Test.YtdnlebijmiaclabDoorSortBase
import Derived.BigRegion
namespace Go.Proofs.YtdnlebijmiaclabDoor
open Go.RowKit Go.Joins
set_option linter.unusedVariables false
set_option maxRecDepth 100000 in
set_option maxHeartbeats 2000000 in
theorem swapRange_run {w0 : World} {B g cap n : Nat} {f : Nat → Iv} (fv : Value) (a b m : Nat) (hab : a + m ≤ b) (hb : b + m ≤ n) (hn : n ≤ 1000000) (W : World) (h : Srt w0 B g cap n f W) :
    Calls Tryd.prog 101 #[.slice (some ⟨g, 0, none⟩) n cap, .int .i64 a, .int .i64 b, .int .i64 m, fv] W fun e w' => e = .returned (.tuple #[]) ∧ Srt w0 B g cap n (swR a b m f) w' := by
  have HS := Lib.hid h
  clear h
  go_enter Tryd.func101, Tryd.ntmps101
  go_wp2
  go_loopw [10] (fun i wr => ∃ k : Nat, k ≤ m ∧ i = .int .i64 (k : Int) ∧ Srt w0 B g cap n (swR a b k f) wr) (fun i _ => m - (intOf i).toNat)
  case atStart => exact ⟨0, Nat.zero_le _, rfl, by rw [swR_zero]; exact HS.out⟩
  case round =>
    obtain ⟨k, hk, rfl, hr⟩ := hrel
    have HR := Lib.hid hr
    by_cases hlt : k < m
    · have q1 : (k : Int) < m := by omega
      have e1 : IntKind.i64.wrap ((a : Int) + k) = ((a + k : Nat) : Int) := by rw [IntWalk.i64_in _ (by omega)]; omega
      have e2 : IntKind.i64.wrap ((b : Int) + k) = ((b + k : Nat) : Int) := by rw [IntWalk.i64_in _ (by omega)]; omega
      have hi : a + k < n := by omega
      have q2 : (a : Int) + k < n := by omega
      have q3 : (b : Int) + k < n := by omega
      have q4 : (0 : Int) ≤ (a : Int) + k := by omega
      have q5 : (0 : Int) ≤ (b : Int) + k := by omega
      have t2 : ((a : Int) + k).toNat = a + k := by omega
      have t3 : ((b : Int) + k).toNat = b + k := by omega
      have hj : b + k < n := by omega
      obtain ⟨x0, x1, x2, x3⟩ := hr.drew.cells hi
      obtain ⟨y0, y1, y2, y3⟩ := hr.drew.cells hj
      have fz := hr.free
      obtain ⟨x4, x5, x6, x7⟩ := hr.cells hi
      obtain ⟨y4, y5, y6, y7⟩ := hr.cells hj
      clear hr
      go_wp2_with fail
      go_region
      obtain ⟨X, hX, hS⟩ := swapped HR.out hi hj
      rw [← hX]
      have HX := Lib.hid hS
      clear hX hS x0 x1 x2 x3 y0 y1 y2 y3 x4 x5 x6 x7 y4 y5 y6 y7 fz
      go_wp2_with fail
      go_roundw
      case rel => exact ⟨k + 1, by omega, by go_num, by rw [← swR_step f (show a + k < b by omega)]; exact HX.out⟩
      case measure => simp [intOf]; omega
    · have q1 : ¬ (k : Int) < m := by omega
      have e : k = m := by omega
      subst e
      clear hr
      go_wp2_with fail
      go_end0
      exact ⟨rfl, HR.out⟩
end Go.Proofs.YtdnlebijmiaclabDoor
