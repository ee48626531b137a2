/- Contract of spec.ClosingBeats. -/
import Derived.Test.YtcddmmepphihjaaSRunPlan
namespace Go.Proofs.Ytcddmmepphihjaa
open Go.RowKit Go.Joins
set_option linter.unusedVariables false
/-- A run of all eleven steps. -/
theorem run_all {s : Int} {xs : List Iv} (h : RunOk s xs) (hn : xs.length = 11) : ∃ P, P = pitK s xs 11 ∧ (FineOk s ∧ FineOk P) ∧ closV s xs = max (3 * P - 4 * s) (4 * s - 3 * P) := by
  refine ⟨_, rfl, ⟨h.1.2, ?_⟩, if_pos ⟨h, hn⟩⟩
  rcases pitK_fine (xs := xs) h.1.2 11 with q | q
  · exact absurd q (h.2 10 (by omega))
  · exact q
theorem clos_wrap {P s : Int} (u1 : 1 ≤ s) (u2 : s ≤ 10000000) (u3 : 1 ≤ P) (u4 : P ≤ 10000000) :
    (if IntKind.i64.wrap (IntKind.i64.wrap (3 * P) - IntKind.i64.wrap (4 * s)) < IntKind.i64.wrap (IntKind.i64.wrap (4 * s) - IntKind.i64.wrap (3 * P)) then IntKind.i64.wrap (IntKind.i64.wrap (4 * s) - IntKind.i64.wrap (3 * P)) else IntKind.i64.wrap (IntKind.i64.wrap (3 * P) - IntKind.i64.wrap (4 * s))) = max (3 * P - 4 * s) (4 * s - 3 * P) := by
  rw [IntWalk.i64_in (3 * P) (by omega), IntWalk.i64_in (4 * s) (by omega), IntWalk.i64_in (3 * P - 4 * s) (by omega), IntWalk.i64_in (4 * s - 3 * P) (by omega)]
  split <;> omega
theorem run_part {s : Int} {xs : List Iv} (hn : ¬ xs.length = 11) : closV s xs = -1 := if_neg (fun q => hn q.2)
theorem run_none {s : Int} {xs : List Iv} (hr : ¬ RunOk s xs) : closV s xs = -1 := if_neg (fun q => hr q.1)
/-- Two numbers of one row. -/
def TwoP (g : Nat) (x y : Int) (w : World) : Prop := w.cell? ⟨g, 11, none⟩ = some (.int .i64 x) ∧ w.cell? ⟨g, 0, none⟩ = some (.int .i64 y)
set_option maxRecDepth 100000 in
set_option maxHeartbeats 8000000 in
theorem closing_spec (s : Int) (w : World) (b : Nat) (e : TypeId) (v : Value) (xs : List Iv) (hl : xs.length ≤ 2000000) (h : w.ownsRow b e 4 v xs.length (ivCs xs)) :
    Calls Try.prog 37 #[.int .i64 s, v] w fun en w' => en = .returned (.int .i64 (closV s xs)) ∧ Below w.heap.size w w' := by
  have RP := Lib.hid (runPlan_spec s w b e v xs hl h)
  clear hl h
  by_cases hr : RunOk s xs
  · have hn11 : xs.length ≤ 11 := hr.1.1.1
    obtain ⟨rl, rb⟩ := run_yes hr
    rw [rl, rb] at RP
    clear rl rb
    have HP := Lib.hid (pitL_len s xs xs.length)
    have A0 := Lib.hid (pitL_at s xs xs.length (j := 0) (by omega))
    have A11 := Lib.hid (pitL_at s xs xs.length (j := 11) (by omega))
    by_cases hn : xs.length = 11
    · obtain ⟨P, hP, ⟨⟨u1, u2⟩, u3, u4⟩, hV⟩ := run_all hr hn
      have HV := Lib.hid hV
      have W := Lib.hid (clos_wrap u1 u2 u3 u4)
      have A1 : Hid ((pitL s xs xs.length).getD 11 0 = P) := Lib.hid (by rw [A11.out, hP]; exact if_pos (by omega))
      have A2 : Hid ((pitL s xs xs.length).getD 0 0 = s) := Lib.hid (by rw [A0.out]; exact if_pos (by omega))
      clear hr hn hP hV A0 A11 hn11
      go_enter Try.func37, Try.ntmps37
      go_wp2_with fail
      refine RP.out.mono ?_
      rintro e1 w1 ⟨v1, rfl, ho, hb⟩
      rw [HP.out] at ho
      obtain ⟨g, c, rfl, _, lg⟩ := own_pos ho (by omega)
      have c1 := own_icell ho 11 (by omega)
      have c2 := own_icell ho 0 (by omega)
      rw [A1.out] at c1
      rw [A2.out] at c2
      have e0 : (P == 0) = false := by simp; omega
      have TP : Hid (TwoP g P s w1) := Lib.hid ⟨c1, c2⟩
      have HB := Lib.hid hb
      clear ho hb lg RP HP A1 A2
      go_upto_region 4 with fail
      clear c1 c2
      go_region_held3 (fun w' => w'.cell? ⟨g, 11, none⟩ = some (.int .i64 P) ∧ w'.cell? ⟨g, 0, none⟩ = some (.int .i64 s)) (exact (TP.out : TwoP g P s w1)) (fail)
      all_goals
        rw [W.out]
        go_wp2_with fail
        go_ret
        exact ⟨ret_int HV.out.symm, HB.out.drew⟩
    · have hV := run_part (s := s) hn
      have HV := Lib.hid hV
      have A1 : Hid ((pitL s xs xs.length).getD 11 0 = 0) := Lib.hid (by rw [A11.out]; exact if_neg (by omega))
      clear hr hn hV A0 A11 hn11
      go_enter Try.func37, Try.ntmps37
      go_wp2_with fail
      refine RP.out.mono ?_
      rintro e1 w1 ⟨v1, rfl, ho, hb⟩
      rw [HP.out] at ho
      obtain ⟨g, c, rfl, _, lg⟩ := own_pos ho (by omega)
      have c1 := own_icell ho 11 (by omega)
      rw [A1.out] at c1
      have HB := Lib.hid hb
      clear ho hb lg RP HP A1
      go_wp2_with fail
      go_ret
      exact ⟨ret_int HV.out.symm, HB.out⟩
  · obtain ⟨rl, rb⟩ := run_no hr
    have HV := Lib.hid (run_none hr)
    rw [rl, rb] at RP
    clear rl rb hr
    go_enter Try.func37, Try.ntmps37
    go_wp2_with fail
    refine RP.out.mono ?_
    rintro e1 w1 ⟨v1, rfl, ho, hb⟩
    go_wp2_with fail
    go_ret
    exact ⟨ret_int HV.out.symm, hb⟩
end Go.Proofs.Ytcddmmepphihjaa
