/- Contract of slices.insertionSortCmpFunc at intervals. -/
import Derived.Test.YtdnlebijmiaclabDoorSortBase
import Derived.BigRegion
import Derived.Deep.RegionWith
namespace Go.Proofs.YtdnlebijmiaclabDoor
open Go.RowKit Go.Joins
set_option linter.unusedVariables false
set_option maxRecDepth 100000 in
set_option maxHeartbeats 4000000 in
theorem insertion_run {A : Addr} {key : Iv → Int} {w0 : World} {B g cap n : Nat} {f : Nat → Iv} (hs : SenAt A w0) (hB : 0 < B) (a b : Nat) (hab : a ≤ b) (hb : b ≤ n) (hn : n ≤ 1000000) (hk : Keyd key n f) (W : World) (h : Srt w0 B g cap n f W) :
    Calls Tryd.prog 98 #[.slice (some ⟨g, 0, none⟩) n cap, .int .i64 a, .int .i64 b, .func (.func 17) #[] #[]] W fun e w' => e = .returned (.tuple #[]) ∧ ∃ f', MV a b f f' ∧ AscF key a b f' ∧ Srt w0 B g cap n f' w' := by
  have HS := Lib.hid h
  have SE := Lib.hid hs
  have HK := Lib.hid hk
  have HB := Lib.hid hB
  have q1 : IntKind.i64.wrap ((a : Int) + 1) = (a : Int) + 1 := IntWalk.i64_in _ (by omega)
  clear h hs hk hB
  go_enter Tryd.func98, Tryd.ntmps98
  go_wp2
  clear q1
  go_loopw [8] (fun x wr => ∃ (i : Nat) (f1 : Nat → Iv), x = .int .i64 (i : Int) ∧ a + 1 ≤ i ∧ i ≤ b + 1 ∧ Hid (MV a b f f1) ∧ Hid (AscF key a (min i b) f1) ∧ Hid (Srt w0 B g cap n f1 wr)) (fun x _ => b + 1 - (intOf x).toNat)
  case atStart => exact ⟨a + 1, f, by go_num, by omega, by omega, MV.refl _ _ _, AscF.one _ _ _ _ (by omega), HS.out⟩
  case round =>
    obtain ⟨i, f1, rfl, hai, hib, V1, A1, HR⟩ := hrel
    by_cases hlt : i < b
    · have k1 : (i : Int) < b := by omega
      go_wp2
      go_loopw [9] (fun y wr => ∃ (j : Nat), y = .int .i64 (j : Int) ∧ a ≤ j ∧ j ≤ i ∧ Hid (j = i ∨ key (f1 i) ≤ key (f1 j)) ∧ Hid (Srt w0 B g cap n (rotF j i (i + 1) f1) wr)) (fun y _ => (intOf y).toNat)
      case atStart => exact ⟨i, rfl, by omega, Nat.le_refl _, Or.inl rfl, by show Srt w0 B g cap n (rotF i i (i + 1) f1) _; rw [rot_left]; exact HR.out⟩
      case round =>
        obtain ⟨j, rfl, haj, hji, C1, HJ⟩ := hrel
        by_cases hja : a < j
        · obtain ⟨p, rfl⟩ : ∃ p, j = p + 1 := ⟨j - 1, by omega⟩
          have e1 : rotF (p + 1) i (i + 1) f1 (p + 1) = f1 i := by unfold rotF; rw [if_pos (by omega)]; congr 1; omega
          have e2 : rotF (p + 1) i (i + 1) f1 p = f1 p := by unfold rotF; rw [if_neg (by omega), if_neg (by omega)]
          have r2 := HJ.out.two (i := p + 1) (j := p) (by omega) (by omega)
          rw [e1, e2] at r2
          have R2 := Lib.hid r2
          obtain ⟨X, hX⟩ : ∃ X, X = f1 i := ⟨_, rfl⟩
          obtain ⟨Y, hY⟩ : ∃ X, X = f1 p := ⟨_, rfl⟩
          obtain ⟨C, hC⟩ : ∃ C, C = cmpV X Y := ⟨_, rfl⟩
          have PK : CmpP A X.two X.three X.five X.root Y.two Y.three Y.five Y.root C := by rw [hC]; exact cmpP A X Y
          have KY := Lib.hid ((HK.out.mv V1.out hb) i p (by omega) (by omega))
          rw [← hX, ← hY, ← hC] at KY
          rw [← hX, ← hY] at R2
          have SJ := Lib.hid (HJ.out.sen SE.out HB.out)
          have t0 : ((p : Int) + 1).toNat = p + 1 := by omega
          have t1 : (0 : Int) ≤ (p : Int) + 1 := by omega
          have t2 : (p : Int) + 1 < n := by omega
          have t3 : (p : Int) < n := by omega
          have t4 : IntKind.i64.wrap (p : Int) = (p : Int) := IntWalk.i64_in _ (by omega)
          have t5 : (a : Int) < (p : Int) + 1 := by omega
          have HX := Lib.hid hX
          have HY := Lib.hid hY
          clear r2 e1 e2 hC hX hY
          by_cases hc : C < 0
          · go_wp2_with fail
            go_region_held3 (fun w' => w'.cell? ⟨g, (p + 1) * 4, none⟩ = some (.int .i64 X.two) ∧ w'.cell? ⟨g, (p + 1) * 4 + 1, none⟩ = some (.int .i64 X.three) ∧ w'.cell? ⟨g, (p + 1) * 4 + 2, none⟩ = some (.int .i64 X.five) ∧ w'.cell? ⟨g, (p + 1) * 4 + 3, none⟩ = some (.int .i64 X.root) ∧ w'.cell? ⟨g, p * 4, none⟩ = some (.int .i64 Y.two) ∧ w'.cell? ⟨g, p * 4 + 1, none⟩ = some (.int .i64 Y.three) ∧ w'.cell? ⟨g, p * 4 + 2, none⟩ = some (.int .i64 Y.five) ∧ w'.cell? ⟨g, p * 4 + 3, none⟩ = some (.int .i64 Y.root)) (with_reducible first | exact row2_cells (row2_drew R2.out) | exact row2_cells (row2_keep (by assumption) R2.out) | exact row2_cells R2.out)
              (first
                | (go_at_call 17; refine (calls_fromS (W := wr) (by with_reducible first | assumption | exact (Below.refl _ _).drew) (cmpP_run (by with_reducible assumption) _ (senAt_below SJ.out (by with_reducible first | assumption | exact (Below.refl _ _).drew)))).mono ?_; rintro e9 w1 ⟨rfl, hb1⟩))
            have S1 := Lib.hid (HJ.out.below hb1)
            clear hb1
            obtain ⟨x0, x1, x2, x3⟩ := S1.out.drew.cells (i := p + 1) (by omega)
            obtain ⟨y0, y1, y2, y3⟩ := S1.out.drew.cells (i := p) (by omega)
            obtain ⟨x4, x5, x6, x7⟩ := S1.out.cells (i := p + 1) (by omega)
            obtain ⟨y4, y5, y6, y7⟩ := S1.out.cells (i := p) (by omega)
            have fz := S1.out.free
            go_wp2_with fail
            go_region
            obtain ⟨Z, hZ, hS⟩ := swapped S1.out (i := p + 1) (j := p) (by omega) (by omega)
            rw [← hZ]
            have HZ := Lib.hid hS
            clear hZ hS x0 x1 x2 x3 y0 y1 y2 y3 x4 x5 x6 x7 y4 y5 y6 y7 fz
            go_wp2_with fail
            go_roundw
            case rel => exact ⟨p, by go_num, by omega, by omega, Or.inr (Int.le_of_lt (by rw [← HX.out, ← HY.out]; exact KY.out.1 hc)), by show Srt w0 B g cap n (rotF p i (i + 1) f1) _; rw [← down_step f1 hji]; exact HZ.out⟩
            case measure => simp [intOf]
          · go_wp2_with fail
            go_region_held3 (fun w' => w'.cell? ⟨g, (p + 1) * 4, none⟩ = some (.int .i64 X.two) ∧ w'.cell? ⟨g, (p + 1) * 4 + 1, none⟩ = some (.int .i64 X.three) ∧ w'.cell? ⟨g, (p + 1) * 4 + 2, none⟩ = some (.int .i64 X.five) ∧ w'.cell? ⟨g, (p + 1) * 4 + 3, none⟩ = some (.int .i64 X.root) ∧ w'.cell? ⟨g, p * 4, none⟩ = some (.int .i64 Y.two) ∧ w'.cell? ⟨g, p * 4 + 1, none⟩ = some (.int .i64 Y.three) ∧ w'.cell? ⟨g, p * 4 + 2, none⟩ = some (.int .i64 Y.five) ∧ w'.cell? ⟨g, p * 4 + 3, none⟩ = some (.int .i64 Y.root)) (with_reducible first | exact row2_cells (row2_drew R2.out) | exact row2_cells (row2_keep (by assumption) R2.out) | exact row2_cells R2.out)
              (first
                | (go_at_call 17; refine (calls_fromS (W := wr) (by with_reducible first | assumption | exact (Below.refl _ _).drew) (cmpP_run (by with_reducible assumption) _ (senAt_below SJ.out (by with_reducible first | assumption | exact (Below.refl _ _).drew)))).mono ?_; rintro e9 w1 ⟨rfl, hb1⟩))
            have S1 := Lib.hid (HJ.out.below hb1)
            clear hb1
            go_wp2_with fail
            go_roundw
            case rel =>
              have A2 : AscF key a (i + 1) (rotF (p + 1) i (i + 1) f1) := by
                have A3 := A1.out
                rw [Nat.min_eq_left (by omega)] at A3
                refine asc_down A3 haj hji (Or.inr ?_) C1.out
                rw [Nat.add_sub_cancel, ← HY.out, ← HX.out]
                have := KY.out
                omega
              exact ⟨i + 1, rotF (p + 1) i (i + 1) f1, by go_num, by omega, by omega, V1.out.trans ((mv_rot f1 hji (Nat.le_succ i)).mono haj (by omega)), by show AscF _ _ _ _; rw [Nat.min_eq_left (by omega)]; exact A2, S1.out⟩
            case measure => simp [intOf]; omega
        · have t5 : ¬ (a : Int) < (j : Int) := by omega
          have t6 : decide ((j : Int) > (a : Int)) = false := decide_eq_false (by omega)
          have S1 := Lib.hid HJ.out.drew
          go_wp2_with fail
          go_region
          go_wp2_with fail
          go_roundw
          case rel =>
            have A2 : AscF key a (i + 1) (rotF j i (i + 1) f1) := by
              have A3 := A1.out
              rw [Nat.min_eq_left (by omega)] at A3
              exact asc_down A3 haj hji (Or.inl (by omega)) C1.out
            exact ⟨i + 1, rotF j i (i + 1) f1, by go_num, by omega, by omega, V1.out.trans ((mv_rot f1 hji (Nat.le_succ i)).mono haj (by omega)), by show AscF _ _ _ _; rw [Nat.min_eq_left (by omega)]; exact A2, S1.out⟩
          case measure => simp [intOf]; omega
    · have k1 : ¬ (i : Int) < b := by omega
      go_wp2_with fail
      go_end0
      refine ⟨rfl, f1, V1.out, ?_, HR.out⟩
      have A3 := A1.out
      rw [Nat.min_eq_right (by omega)] at A3
      exact A3
end Go.Proofs.YtdnlebijmiaclabDoor
