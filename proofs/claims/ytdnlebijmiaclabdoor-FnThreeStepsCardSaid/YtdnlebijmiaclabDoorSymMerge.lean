/- Contract of slices.symMergeCmpFunc at intervals: two ascending parts, one behind the other, become one. -/
import Derived.Test.YtdnlebijmiaclabDoorInsertion
import Derived.Test.YtdnlebijmiaclabDoorRotate
import Derived.BigRegion
import Derived.Deep.RegionWith
import Derived.Deep.DeepCutAuto
import Derived.Deep.LoopGhost
namespace Go.Proofs.YtdnlebijmiaclabDoor
open Go.RowKit Go.Joins
set_option linter.unusedVariables false
/-- What a merge leaves. -/
def Merged (key : Iv → Int) (w0 : World) (B g cap n a b : Nat) (f : Nat → Iv) (e : Ending) (w' : World) : Prop := e = .returned (.tuple #[]) ∧ ∃ f', MV a b f f' ∧ AscF key a b f' ∧ Srt w0 B g cap n f' w'
set_option maxRecDepth 100000 in
set_option maxHeartbeats 4000000 in
/-- The first part is one element. -/
theorem symMerge_one {A : Addr} {key : Iv → Int} {w0 : World} {B g cap n : Nat} {f : Nat → Iv} (hs : SenAt A w0) (hB : 0 < B) (a b : Nat) (hab : a + 1 < b) (hb : b ≤ n) (hn : n ≤ 1000000) (hk : Keyd key n f) (h2 : AscF key (a + 1) b f) (W : World) (h : Srt w0 B g cap n f W) :
    Calls Tryd.prog 99 #[.slice (some ⟨g, 0, none⟩) n cap, .int .i64 (a : Int), .int .i64 ((a + 1 : Nat) : Int), .int .i64 (b : Int), .func (.func 17) #[] #[]] W (Merged key w0 B g cap n a b f) := by
  have HS := Lib.hid h
  have SE := Lib.hid hs
  have HK := Lib.hid hk
  have HB := Lib.hid hB
  have H2 := Lib.hid h2
  have c1 : IntKind.i64.wrap ((a : Int) + 1 - a) = 1 := by rw [IntWalk.i64_in _ (by omega)]; omega
  have c2 : (a : Int) + 1 - a = 1 := by omega
  clear h hs hk hB h2
  go_enter Tryd.func99, Tryd.ntmps99
  go_wp2_with fail
  clear c1 c2
  go_loopg [10, 11] (b - (a + 1)) (fun gk x y wr => ∃ (i j : Nat), x = .int .i64 (i : Int) ∧ y = .int .i64 (j : Int) ∧ j - i ≤ gk ∧ a + 1 ≤ i ∧ i ≤ j ∧ j ≤ b ∧ Hid (i = a + 1 ∨ key (f (i - 1)) ≤ key (f a)) ∧ Hid (j = b ∨ key (f a) ≤ key (f j)) ∧ Hid (Srt w0 B g cap n f wr))
  case atStart => exact ⟨a + 1, b, by go_num, rfl, Nat.le_refl _, Nat.le_refl _, by omega, Nat.le_refl _, Or.inl rfl, Or.inl rfl, HS.out⟩
  case round =>
    obtain ⟨i, j, rfl, rfl, hgk, hai, hij, hjb, C1, C2, HR⟩ := hrel
    by_cases hlt : i < j
    · have k1 : (i : Int) < j := by omega
      obtain ⟨h, hh⟩ : ∃ h, h = (i + j) / 2 := ⟨_, rfl⟩
      have eh : ((i : Int) + (j : Int)) / 2 = (h : Int) := by omega
      have hh1 : i ≤ h := by omega
      have hh2 : h < j := by omega
      clear hh
      have t1 : (h : Int) < n := by omega
      have t2 : (a : Int) < n := by omega
      have r2 := HR.out.two (i := h) (j := a) (by omega) (by omega)
      have KY := Lib.hid (HK.out (h) (a) (by omega) (by omega))
      obtain ⟨X, hX⟩ : ∃ X, X = f (h) := ⟨_, rfl⟩
      obtain ⟨Y, hY⟩ : ∃ X, X = f (a) := ⟨_, rfl⟩
      obtain ⟨C, hC⟩ : ∃ C, C = cmpV X Y := ⟨_, rfl⟩
      have PK : CmpP A X.two X.three X.five X.root Y.two Y.three Y.five Y.root C := by rw [hC]; exact cmpP A X Y
      rw [← hX, ← hY, ← hC] at KY
      rw [← hX, ← hY] at r2
      have R2 := Lib.hid r2
      have SJ := Lib.hid (HR.out.sen SE.out HB.out)
      have HX := Lib.hid hX
      have HY := Lib.hid hY
      clear r2 hC hX hY
      by_cases hc : C < 0
      · go_wp2_with fail
        go_region_held3 (fun w' => w'.cell? ⟨g, h * 4, none⟩ = some (.int .i64 X.two) ∧ w'.cell? ⟨g, h * 4 + 1, none⟩ = some (.int .i64 X.three) ∧ w'.cell? ⟨g, h * 4 + 2, none⟩ = some (.int .i64 X.five) ∧ w'.cell? ⟨g, h * 4 + 3, none⟩ = some (.int .i64 X.root) ∧ w'.cell? ⟨g, a * 4, none⟩ = some (.int .i64 Y.two) ∧ w'.cell? ⟨g, a * 4 + 1, none⟩ = some (.int .i64 Y.three) ∧ w'.cell? ⟨g, a * 4 + 2, none⟩ = some (.int .i64 Y.five) ∧ w'.cell? ⟨g, a * 4 + 3, none⟩ = some (.int .i64 Y.root)) (with_reducible first | exact row2_cells (row2_drew R2.out) | exact row2_cells (row2_keep (by assumption) R2.out) | exact row2_cells R2.out)
          (first
            | (go_at_call 17; refine (calls_fromS (W := wr) (by with_reducible first | assumption | exact (Below.refl _ _).drew) (cmpP_run (by with_reducible assumption) _ (senAt_below SJ.out (by with_reducible first | assumption | exact (Below.refl _ _).drew)))).mono ?_; rintro e9 w1 ⟨rfl, hb1⟩))
        have S1 := Lib.hid (HR.out.below hb1)
        clear hb1
        go_wp2_with fail
        go_roundg (j - (h + 1))
        case measure => omega
        case rel => exact ⟨h + 1, j, by go_num, rfl, Nat.le_refl _, by omega, by omega, hjb, Or.inr (by rw [Nat.add_sub_cancel, ← HX.out, ← HY.out]; exact Int.le_of_lt (KY.out.1 hc)), C2, S1.out⟩
      · go_wp2_with fail
        go_region_held3 (fun w' => w'.cell? ⟨g, h * 4, none⟩ = some (.int .i64 X.two) ∧ w'.cell? ⟨g, h * 4 + 1, none⟩ = some (.int .i64 X.three) ∧ w'.cell? ⟨g, h * 4 + 2, none⟩ = some (.int .i64 X.five) ∧ w'.cell? ⟨g, h * 4 + 3, none⟩ = some (.int .i64 X.root) ∧ w'.cell? ⟨g, a * 4, none⟩ = some (.int .i64 Y.two) ∧ w'.cell? ⟨g, a * 4 + 1, none⟩ = some (.int .i64 Y.three) ∧ w'.cell? ⟨g, a * 4 + 2, none⟩ = some (.int .i64 Y.five) ∧ w'.cell? ⟨g, a * 4 + 3, none⟩ = some (.int .i64 Y.root)) (with_reducible first | exact row2_cells (row2_drew R2.out) | exact row2_cells (row2_keep (by assumption) R2.out) | exact row2_cells R2.out)
          (first
            | (go_at_call 17; refine (calls_fromS (W := wr) (by with_reducible first | assumption | exact (Below.refl _ _).drew) (cmpP_run (by with_reducible assumption) _ (senAt_below SJ.out (by with_reducible first | assumption | exact (Below.refl _ _).drew)))).mono ?_; rintro e9 w1 ⟨rfl, hb1⟩))
        have S1 := Lib.hid (HR.out.below hb1)
        clear hb1
        go_wp2_with fail
        go_roundg (h - i)
        case measure => omega
        case rel => exact ⟨i, h, rfl, rfl, Nat.le_refl _, hai, by omega, by omega, C1, Or.inr (by rw [← HX.out, ← HY.out]; have := KY.out; omega), S1.out⟩
    · have k1 : ¬ (i : Int) < j := by omega
      have e : j = i := by omega
      subst e
      have k2 : IntKind.i64.wrap ((j : Int) - 1) = (j : Int) - 1 := IntWalk.i64_in _ (by omega)
      go_wp2_with fail
      go_loopw [13] (fun x wr => ∃ (k : Nat), x = .int .i64 (k : Int) ∧ a ≤ k ∧ k + 1 ≤ j ∧ Hid (Srt w0 B g cap n (rotF a (a + 1) (k + 1) f) wr)) (fun x _ => j - (intOf x).toNat)
      case atStart => exact ⟨a, rfl, Nat.le_refl _, by omega, by show Srt w0 B g cap n (rotF a (a + 1) (a + 1) f) _; rw [rot_right]; exact HR.out⟩
      case round =>
        obtain ⟨k, rfl, hak, hkj, S1⟩ := hrel
        by_cases hlt2 : k + 1 < j
        · have k3 : (k : Int) < (j : Int) - 1 := by omega
          have k4 : (k : Int) + 1 < n := by omega
          have k5 : (k : Int) < n := by omega
          have k6 : ((k : Int) + 1).toNat = k + 1 := by omega
          have k7 : (0 : Int) ≤ (k : Int) + 1 := by omega
          obtain ⟨x0, x1, x2, x3⟩ := S1.out.drew.cells (i := k) (by omega)
          obtain ⟨y0, y1, y2, y3⟩ := S1.out.drew.cells (i := k + 1) (by omega)
          obtain ⟨x4, x5, x6, x7⟩ := S1.out.cells (i := k) (by omega)
          obtain ⟨y4, y5, y6, y7⟩ := S1.out.cells (i := k + 1) (by omega)
          have fz := S1.out.free
          go_wp2_with fail
          go_region
          obtain ⟨Z, hZ, hS⟩ := swapped S1.out (i := k) (j := k + 1) (by omega) (by omega)
          rw [← hZ]
          have HZ := Lib.hid hS
          clear hZ hS x0 x1 x2 x3 y0 y1 y2 y3 x4 x5 x6 x7 y4 y5 y6 y7 fz
          go_wp2_with fail
          go_roundw
          case rel => exact ⟨k + 1, by go_num, by omega, by omega, by show Srt w0 B g cap n (rotF a (a + 1) (k + 1 + 1) f) _; rw [← up_step f hak]; exact HZ.out⟩
          case measure => simp [intOf]; omega
        · have k3 : ¬ (k : Int) < (j : Int) - 1 := by omega
          go_wp2_with fail
          go_end0
          exact ⟨rfl, rotF a (a + 1) j f, (mv_rot f (Nat.le_succ a) hai).mono (Nat.le_refl _) hjb, asc_up H2.out hai hjb C1.out C2.out, by rw [show j = k + 1 by omega]; exact S1.out⟩
set_option maxRecDepth 100000 in
set_option maxHeartbeats 4000000 in
/-- The second part is one element. -/
theorem symMerge_last {A : Addr} {key : Iv → Int} {w0 : World} {B g cap n : Nat} {f : Nat → Iv} (hs : SenAt A w0) (hB : 0 < B) (a m : Nat) (ham : a + 1 < m) (hb : m + 1 ≤ n) (hn : n ≤ 1000000) (hk : Keyd key n f) (h1 : AscF key a m f) (W : World) (h : Srt w0 B g cap n f W) :
    Calls Tryd.prog 99 #[.slice (some ⟨g, 0, none⟩) n cap, .int .i64 (a : Int), .int .i64 (m : Int), .int .i64 ((m + 1 : Nat) : Int), .func (.func 17) #[] #[]] W (Merged key w0 B g cap n a (m + 1) f) := by
  have HS := Lib.hid h
  have SE := Lib.hid hs
  have HK := Lib.hid hk
  have HB := Lib.hid hB
  have H1 := Lib.hid h1
  have c0 : IntKind.i64.wrap ((m : Int) - a) = (m : Int) - a := IntWalk.i64_in _ (by omega)
  have c1 : IntKind.i64.wrap ((m : Int) + 1 - m) = 1 := by rw [IntWalk.i64_in _ (by omega)]; omega
  have c2 : (m : Int) + 1 - m = 1 := by omega
  have c3 : ((m : Int) - a == 1) = false := by simp; omega
  clear h hs hk hB h1
  go_enter Tryd.func99, Tryd.ntmps99
  go_wp2_with fail
  clear c0 c1 c2 c3
  go_loopg [14, 15] (m - a) (fun gk x y wr => ∃ (i j : Nat), x = .int .i64 (i : Int) ∧ y = .int .i64 (j : Int) ∧ j - i ≤ gk ∧ a ≤ i ∧ i ≤ j ∧ j ≤ m ∧ Hid (i = a ∨ key (f (i - 1)) ≤ key (f m)) ∧ Hid (j = m ∨ key (f m) ≤ key (f j)) ∧ Hid (Srt w0 B g cap n f wr))
  case atStart => exact ⟨a, m, rfl, rfl, Nat.le_refl _, Nat.le_refl _, by omega, Nat.le_refl _, Or.inl rfl, Or.inl rfl, HS.out⟩
  case round =>
    obtain ⟨i, j, rfl, rfl, hgk, hai, hij, hjb, C1, C2, HR⟩ := hrel
    by_cases hlt : i < j
    · have k1 : (i : Int) < j := by omega
      obtain ⟨h, hh⟩ : ∃ h, h = (i + j) / 2 := ⟨_, rfl⟩
      have eh : ((i : Int) + (j : Int)) / 2 = (h : Int) := by omega
      have hh1 : i ≤ h := by omega
      have hh2 : h < j := by omega
      clear hh
      have t1 : (h : Int) < n := by omega
      have t2 : (m : Int) < n := by omega
      have r2 := HR.out.two (i := m) (j := h) (by omega) (by omega)
      have KY := Lib.hid (HK.out (m) (h) (by omega) (by omega))
      obtain ⟨X, hX⟩ : ∃ X, X = f (m) := ⟨_, rfl⟩
      obtain ⟨Y, hY⟩ : ∃ X, X = f (h) := ⟨_, rfl⟩
      obtain ⟨C, hC⟩ : ∃ C, C = cmpV X Y := ⟨_, rfl⟩
      have PK : CmpP A X.two X.three X.five X.root Y.two Y.three Y.five Y.root C := by rw [hC]; exact cmpP A X Y
      rw [← hX, ← hY, ← hC] at KY
      rw [← hX, ← hY] at r2
      have R2 := Lib.hid r2
      have SJ := Lib.hid (HR.out.sen SE.out HB.out)
      have HX := Lib.hid hX
      have HY := Lib.hid hY
      clear r2 hC hX hY
      by_cases hc : C < 0
      · have hc2 : decide (C < 0) = true := decide_eq_true hc
        go_wp2_with fail
        go_region_held3 (fun w' => w'.cell? ⟨g, m * 4, none⟩ = some (.int .i64 X.two) ∧ w'.cell? ⟨g, m * 4 + 1, none⟩ = some (.int .i64 X.three) ∧ w'.cell? ⟨g, m * 4 + 2, none⟩ = some (.int .i64 X.five) ∧ w'.cell? ⟨g, m * 4 + 3, none⟩ = some (.int .i64 X.root) ∧ w'.cell? ⟨g, h * 4, none⟩ = some (.int .i64 Y.two) ∧ w'.cell? ⟨g, h * 4 + 1, none⟩ = some (.int .i64 Y.three) ∧ w'.cell? ⟨g, h * 4 + 2, none⟩ = some (.int .i64 Y.five) ∧ w'.cell? ⟨g, h * 4 + 3, none⟩ = some (.int .i64 Y.root)) (with_reducible first | exact row2_cells (row2_drew R2.out) | exact row2_cells (row2_keep (by assumption) R2.out) | exact row2_cells R2.out)
          (first
            | (go_at_call 17; refine (calls_fromS (W := wr) (by with_reducible first | assumption | exact (Below.refl _ _).drew) (cmpP_run (by with_reducible assumption) _ (senAt_below SJ.out (by with_reducible first | assumption | exact (Below.refl _ _).drew)))).mono ?_; rintro e9 w1 ⟨rfl, hb1⟩))
        have S1 := Lib.hid (HR.out.below hb1)
        clear hb1
        go_wp2_with fail
        go_roundg (h - i)
        case measure => omega
        case rel => exact ⟨i, h, rfl, rfl, Nat.le_refl _, hai, by omega, by omega, C1, Or.inr (by rw [← HX.out, ← HY.out]; exact Int.le_of_lt (KY.out.1 hc)), S1.out⟩
      · have hc2 : decide (C < 0) = false := decide_eq_false (by omega)
        go_wp2_with fail
        go_region_held3 (fun w' => w'.cell? ⟨g, m * 4, none⟩ = some (.int .i64 X.two) ∧ w'.cell? ⟨g, m * 4 + 1, none⟩ = some (.int .i64 X.three) ∧ w'.cell? ⟨g, m * 4 + 2, none⟩ = some (.int .i64 X.five) ∧ w'.cell? ⟨g, m * 4 + 3, none⟩ = some (.int .i64 X.root) ∧ w'.cell? ⟨g, h * 4, none⟩ = some (.int .i64 Y.two) ∧ w'.cell? ⟨g, h * 4 + 1, none⟩ = some (.int .i64 Y.three) ∧ w'.cell? ⟨g, h * 4 + 2, none⟩ = some (.int .i64 Y.five) ∧ w'.cell? ⟨g, h * 4 + 3, none⟩ = some (.int .i64 Y.root)) (with_reducible first | exact row2_cells (row2_drew R2.out) | exact row2_cells (row2_keep (by assumption) R2.out) | exact row2_cells R2.out)
          (first
            | (go_at_call 17; refine (calls_fromS (W := wr) (by with_reducible first | assumption | exact (Below.refl _ _).drew) (cmpP_run (by with_reducible assumption) _ (senAt_below SJ.out (by with_reducible first | assumption | exact (Below.refl _ _).drew)))).mono ?_; rintro e9 w1 ⟨rfl, hb1⟩))
        have S1 := Lib.hid (HR.out.below hb1)
        clear hb1
        go_wp2_with fail
        go_roundg (j - (h + 1))
        case measure => omega
        case rel => exact ⟨h + 1, j, by go_num, rfl, Nat.le_refl _, by omega, by omega, hjb, Or.inr (by rw [Nat.add_sub_cancel, ← HX.out, ← HY.out]; have := KY.out; omega), C2, S1.out⟩
    · have k1 : ¬ (i : Int) < j := by omega
      have e : j = i := by omega
      subst e
      go_wp2_with fail
      go_loopw [17] (fun x wr => ∃ (k : Nat), x = .int .i64 (k : Int) ∧ j ≤ k ∧ k ≤ m ∧ Hid (Srt w0 B g cap n (rotF k m (m + 1) f) wr)) (fun x _ => (intOf x).toNat)
      case atStart => exact ⟨m, rfl, hjb, Nat.le_refl _, by show Srt w0 B g cap n (rotF m m (m + 1) f) _; rw [rot_left]; exact HR.out⟩
      case round =>
        obtain ⟨k, rfl, hjk, hkm, S1⟩ := hrel
        by_cases hlt2 : j < k
        · obtain ⟨p, rfl⟩ : ∃ p, k = p + 1 := ⟨k - 1, by omega⟩
          have k3 : (j : Int) < (p : Int) + 1 := by omega
          have k4 : (p : Int) + 1 < n := by omega
          have k5 : (p : Int) < n := by omega
          have k6 : ((p : Int) + 1).toNat = p + 1 := by omega
          have k7 : (0 : Int) ≤ (p : Int) + 1 := by omega
          have k8 : IntKind.i64.wrap (p : Int) = (p : Int) := IntWalk.i64_in _ (by omega)
          obtain ⟨x0, x1, x2, x3⟩ := S1.out.drew.cells (i := p + 1) (by omega)
          obtain ⟨y0, y1, y2, y3⟩ := S1.out.drew.cells (i := p) (by omega)
          obtain ⟨x4, x5, x6, x7⟩ := S1.out.cells (i := p + 1) (by omega)
          obtain ⟨y4, y5, y6, y7⟩ := S1.out.cells (i := p) (by omega)
          have fz := S1.out.free
          go_wp2_with fail
          go_region
          obtain ⟨Z, hZ, hS⟩ := swapped S1.out (i := p + 1) (j := p) (by omega) (by omega)
          rw [← hZ]
          have HZ := Lib.hid hS
          clear hZ hS x0 x1 x2 x3 y0 y1 y2 y3 x4 x5 x6 x7 y4 y5 y6 y7 fz
          go_wp2_with fail
          go_roundw
          case rel => exact ⟨p, by go_num, by omega, by omega, by show Srt w0 B g cap n (rotF p m (m + 1) f) _; rw [← down_step f hkm]; exact HZ.out⟩
          case measure => simp [intOf]
        · have k3 : ¬ (j : Int) < (k : Int) := by omega
          go_wp2_with fail
          go_end0
          exact ⟨rfl, rotF j m (m + 1) f, (mv_rot f hjb (Nat.le_succ m)).mono hai (Nat.le_refl _), asc_down H1.out hai hjb C1.out C2.out, by rw [show j = k by omega]; exact S1.out⟩
end Go.Proofs.YtdnlebijmiaclabDoor
