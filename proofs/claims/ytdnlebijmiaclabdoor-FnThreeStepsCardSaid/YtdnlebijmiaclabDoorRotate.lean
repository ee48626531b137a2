/- Contract of slices.rotateCmpFunc at intervals. -/
import Derived.Test.YtdnlebijmiaclabDoorSwapRange
namespace Go.Proofs.YtdnlebijmiaclabDoor
open Go.RowKit Go.Joins
set_option linter.unusedVariables false
theorem swapRange_at {w0 : World} {B g cap n : Nat} {f : Nat → Iv} (fv : Value) (a b m : Nat) {x y z : Int} (hx : x = (a : Int)) (hy : y = (b : Int)) (hz : z = (m : Int)) (hab : a + m ≤ b) (hb : b + m ≤ n) (hn : n ≤ 1000000) (W : World) (h : Srt w0 B g cap n f W) :
    Calls Tryd.prog 101 #[.slice (some ⟨g, 0, none⟩) n cap, .int .i64 x, .int .i64 y, .int .i64 z, fv] W fun e w' => e = .returned (.tuple #[]) ∧ Srt w0 B g cap n (swR a b m f) w' := by
  subst hx hy hz
  exact swapRange_run fv a b m hab hb hn W h
set_option maxRecDepth 100000 in
set_option maxHeartbeats 2000000 in
theorem rotate_run {w0 : World} {B g cap n : Nat} {f : Nat → Iv} (fv : Value) (a m b : Nat) (ham : a < m) (hmb : m < b) (hb : b ≤ n) (hn : n ≤ 1000000) (W : World) (h : Srt w0 B g cap n f W) :
    Calls Tryd.prog 100 #[.slice (some ⟨g, 0, none⟩) n cap, .int .i64 a, .int .i64 m, .int .i64 b, fv] W fun e w' => e = .returned (.tuple #[]) ∧ Srt w0 B g cap n (rotF a m b f) w' := by
  have HS := Lib.hid h
  clear h
  have q1 : IntKind.i64.wrap ((m : Int) - a) = (m : Int) - a := IntWalk.i64_in _ (by omega)
  have q2 : IntKind.i64.wrap ((b : Int) - m) = (b : Int) - m := IntWalk.i64_in _ (by omega)
  go_enter Tryd.func100, Tryd.ntmps100
  go_wp2
  clear q1 q2
  go_loopw [10, 11] (fun x y wr => ∃ (i j : Nat) (f' : Nat → Iv), x = .int .i64 (i : Int) ∧ y = .int .i64 (j : Int) ∧ 0 < i ∧ 0 < j ∧ i ≤ m ∧ m + j ≤ n ∧ rotF (m - i) m (m + j) f' = rotF a m b f ∧ Srt w0 B g cap n f' wr) (fun x y _ => (intOf x).toNat + (intOf y).toNat)
  case atStart => exact ⟨m - a, b - m, f, by go_num, by go_num, by omega, by omega, by omega, by omega, by rw [show m - (m - a) = a by omega, show m + (b - m) = b by omega], HS.out⟩
  case round =>
    obtain ⟨i, j, f', rfl, rfl, hi, hj, him, hjn, hro, hr⟩ := hrel
    have HR := Lib.hid hr
    have RO := Lib.hid hro
    clear hr hro
    have s1 : IntKind.i64.wrap ((m : Int) - i) = (m : Int) - i := IntWalk.i64_in _ (by omega)
    by_cases heq : i = j
    · subst heq
      go_wp2_with fail
      refine (swapRange_at fv (m - i) m i (by omega) rfl rfl (by omega) (by omega) hn _ HR.out).mono ?_
      rintro e w1 ⟨rfl, h1⟩
      have H1 := Lib.hid h1
      clear h1
      go_wp2_with fail
      go_end0
      exact ⟨rfl, by rw [← RO.out, ← rot_eq f' him]; exact H1.out⟩
    · have hne : ¬ (i : Int) = j := by omega
      by_cases hgt : j < i
      · have k1 : (j : Int) < i := by omega
        have s2 : IntKind.i64.wrap ((i : Int) - j) = (i : Int) - j := IntWalk.i64_in _ (by omega)
        go_wp2_with fail
        refine (swapRange_at fv (m - i) m j (by omega) rfl rfl (by omega) (by omega) hn _ HR.out).mono ?_
        rintro e w1 ⟨rfl, h1⟩
        have H1 := Lib.hid h1
        clear h1
        go_wp2_with fail
        go_roundw
        case rel => exact ⟨i - j, j, swR (m - i) m j f', by go_num, rfl, by omega, hj, by omega, hjn, by rw [rot_gt f' him hgt]; exact RO.out, H1.out⟩
        case measure => simp [intOf]; omega
      · have k1 : ¬ (j : Int) < i := by omega
        have s2 : IntKind.i64.wrap ((j : Int) - i) = (j : Int) - i := IntWalk.i64_in _ (by omega)
        have s3 : IntKind.i64.wrap ((m : Int) + j) = (m : Int) + j := IntWalk.i64_in _ (by omega)
        have s4 : IntKind.i64.wrap ((m : Int) + j - i) = (m : Int) + j - i := IntWalk.i64_in _ (by omega)
        go_wp2_with fail
        refine (swapRange_at fv (m - i) (m + j - i) i (by omega) (by omega) rfl (by omega) (by omega) hn _ HR.out).mono ?_
        rintro e w1 ⟨rfl, h1⟩
        have H1 := Lib.hid h1
        clear h1
        go_wp2_with fail
        go_roundw
        case rel => exact ⟨i, j - i, swR (m - i) (m + j - i) i f', rfl, by go_num, hi, by omega, him, by omega, by rw [rot_lt f' him (by omega)]; exact RO.out, H1.out⟩
        case measure => simp [intOf]; omega
end Go.Proofs.YtdnlebijmiaclabDoor
