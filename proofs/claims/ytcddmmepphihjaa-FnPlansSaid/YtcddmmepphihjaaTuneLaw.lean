/- Contracts of spec.IsNarrow, spec.KindText and spec.DrawTuning; the walks of the exact laws of P18 and of FnTuned over the program's contracts. -/
import Derived.Test.YtcddmmepphihjaaSTune
import Derived.Test.YtcddmmepphihjaaCurWalks
import Derived.Test.YtcddmmepphihjaaAtWalks
namespace Go.Proofs.Ytcddmmepphihjaa
open Go.RowKit Go.Joins
set_option linter.unusedVariables false
theorem heardV_pos {a t k : Int} (h : ¬ heardV a t k ≤ 0) : FineOk a ∧ FineOk t ∧ 1 ≤ k ∧ k ≤ 4 := by
  by_cases q : FineOk a ∧ FineOk t ∧ 1 ≤ k ∧ k ≤ 4
  · exact q
  · rw [heardV_no q] at h; omega
set_option maxHeartbeats 1000000 in
theorem narrow_spec (a t k : Int) (w : World) : Calls Try.prog 24 #[.int .i64 a, .int .i64 t, .int .i64 k] w fun e w' => e = .returned (.bool (narB a t k)) ∧ Below w.heap.size w w' := by
  have HS := Lib.hid (heard18_spec a t k w)
  obtain ⟨h, hh⟩ : ∃ h, h = heardV a t k := ⟨_, rfl⟩
  rw [← hh] at HS
  have R : narB a t k = decide (0 < h ∧ k ≤ 2 ∧ 2 * k * t < 3 * a) := by rw [hh]; rfl
  have HR := Lib.hid R
  clear R
  by_cases h0 : h ≤ 0
  · have HH := Lib.hid h0
    clear hh
    go_enter Try.func24, Try.ntmps24
    go_wp2_with fail
    refine HS.out.mono ?_
    rintro e w1 ⟨rfl, b1⟩
    go_wp2_with fail
    go_ret
    exact ⟨ret_boolT (by rw [HR.out, decide_eq_false (fun q => by have := q.1; have := HH.out; omega)]), b1⟩
  · obtain ⟨f1, f2, f3, f4⟩ := heardV_pos (a := a) (t := t) (k := k) (by rw [← hh]; exact h0)
    have F := Lib.hid (And.intro f1 f2)
    have HH := Lib.hid h0
    clear hh f1 f2
    by_cases k2 : 2 < k
    · have K2 := Lib.hid k2
      go_enter Try.func24, Try.ntmps24
      go_wp2_with fail
      refine HS.out.mono ?_
      rintro e w1 ⟨rfl, b1⟩
      go_wp2_with fail
      go_ret
      exact ⟨ret_boolT (by rw [HR.out, decide_eq_false (fun q => by have := q.2.1; have := K2.out; omega)]), b1⟩
    · obtain ⟨⟨u1, u2⟩, u3, u4⟩ := F.out
      rcases (show k = 1 ∨ k = 2 from by omega) with rfl | rfl
      all_goals
        clear k2 f3 f4
        go_enter Try.func24, Try.ntmps24
        go_wp2_with fail
        refine HS.out.mono ?_
        rintro e w1 ⟨rfl, b1⟩
        go_wp2_with fail
        go_ret
        refine ⟨ret_boolT ?_, b1⟩
        rw [HR.out]
        refine Bool.eq_iff_iff.2 ?_
        simp only [decide_eq_true_eq]
        have := HH.out
        omega
/-- The name of a kind. -/
def kindS (k : Int) : ByteArray := if k = 1 then ⟨#[102, 105, 102, 116, 104]⟩ else if k = 2 then ⟨#[102, 111, 117, 114, 116, 104]⟩ else if k = 3 then ⟨#[117, 112]⟩ else if k = 4 then ⟨#[100, 111, 119, 110]⟩ else ⟨#[]⟩
def TunImpl : Prop := ∀ (a k b : Int) (w : World), Calls Try.prog 13 #[.int .i64 a, .int .i64 k, .int .i64 b] w fun e w' => e = .returned (.int .i64 (tunV a k b)) ∧ Below w.heap.size w w'
def HdImpl : Prop := ∀ (a t k : Int) (w : World), Calls Try.prog 14 #[.int .i64 a, .int .i64 t, .int .i64 k] w fun e w' => e = .returned (.int .i64 (heardV a t k)) ∧ Below w.heap.size w w'
def NarImpl : Prop := ∀ (a t k : Int) (w : World), Calls Try.prog 15 #[.int .i64 a, .int .i64 t, .int .i64 k] w fun e w' => e = .returned (.bool (narB a t k)) ∧ Below w.heap.size w w'
set_option maxHeartbeats 1000000 in
theorem walk_NarrowBy (NI : NarImpl) (a t k : Int) (w : World) : Calls Try.prog 5 #[.int .i64 a, .int .i64 t, .int .i64 k] w fun e w' => e = .returned (.bool true) ∧ Below w.heap.size w w' := by
  have CS := Lib.hid (fun w => narrow_spec a t k w)
  have CP := Lib.hid (fun w => NI a t k w)
  generalize narB a t k = n at CS CP
  cases n
  all_goals
    go_enter Try.func5, Try.ntmps5
    go_wp2_with fail
    refine (CS.out _).mono ?_
    rintro e w1 ⟨rfl, b1⟩
    go_wp2_with fail
    refine (CP.out _).mono ?_
    rintro e w2 ⟨rfl, b2⟩
    go_wp2_with fail
    go_ret
    exact ⟨rfl, b1.trans (b2.mono b1.size)⟩
def DrawnTune (w : World) (e : Ending) (w' : World) : Prop := ∃ a k b : Int, (100000 ≤ a ∧ a ≤ 599999) ∧ (k = 1 ∨ k = 2) ∧ (0 ≤ b ∧ b ≤ 2999) ∧ e = .returned (.tuple #[.int .i64 a, .int .i64 k, .int .i64 b]) ∧ Below w.heap.size w w'
set_option maxHeartbeats 1000000 in
theorem drawTuning_any {W : World} {a : Option Addr} {len cap : Nat} {zs : List Int} (hr : IsRow .u8 W a len cap zs) : Calls Try.prog 12 #[.slice a len cap] W (DrawnTune W) := by
  have HR := Lib.hid hr
  clear hr
  go_enter Try.func12, Try.ntmps12
  go_wp2_with fail
  refine (new_any HR.out).mono ?_
  rintro e w1 ⟨b, rfl, hc1⟩
  have HC1 := Lib.hid hc1
  clear hc1
  go_wp2_with fail
  refine (below_any HC1.out _).mono ?_
  rintro e w2 ⟨x, hx, rfl, hc2, _⟩
  have x0 : 0 ≤ x ∧ x < 500000 := ⟨hx.1, hx.2.2 (by omega)⟩
  obtain ⟨x1, x2⟩ := x0
  have HC2 := Lib.hid hc2
  clear hx hc2 HC1
  go_wp2_with fail
  refine (below_any HC2.out _).mono ?_
  rintro e w3 ⟨y, hy, rfl, hc3, _⟩
  have y0 : 0 ≤ y ∧ y < 2 := ⟨hy.1, hy.2.2 (by omega)⟩
  obtain ⟨y1, y2⟩ := y0
  have HC3 := Lib.hid hc3
  clear hy hc3 HC2
  go_wp2_with fail
  refine (below_any HC3.out _).mono ?_
  rintro e w4 ⟨z, hz, rfl, hc4, _⟩
  have z0 : 0 ≤ z ∧ z < 3000 := ⟨hz.1, hz.2.2 (by omega)⟩
  obtain ⟨z1, z2⟩ := z0
  have HB := Lib.hid hc4.below
  clear hz hc4 HC3
  go_wp2_with fail
  refine bodyPost_ret (v := .tuple #[.int .i64 (100000 + x), .int .i64 (1 + y), .int .i64 z]) (by simp [results, Try.results12, go_sem]) rfl ⟨_, _, _, ⟨by omega, by omega⟩, by omega, ⟨by omega, by omega⟩, rfl, HB.out⟩
end Go.Proofs.Ytcddmmepphihjaa
