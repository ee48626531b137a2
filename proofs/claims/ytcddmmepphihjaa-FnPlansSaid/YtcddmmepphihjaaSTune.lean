/- Contracts of spec.l18Pitch, spec.TunedPitch, spec.BeatsHeard and spec.IsNarrow. -/
import Derived.Deep.DeepCutAuto
import Derived.Test.YtcddmmepphihjaaToneWalks
import Derived.Test.YtcddmmepphihjaaTuneMath
namespace Go.Proofs.Ytcddmmepphihjaa
open Go.RowKit Go.Joins
set_option linter.unusedVariables false
theorem fine_any (n : Int) (w : World) : Calls Try.prog 51 #[.int .i64 n] w fun e w' => e = .returned (.bool (decide (FineOk n))) ∧ w = w' := by
  go_enter Try.func51, Try.ntmps51
  go_wp2_with fail
  refine (inT_any _ _ _ _).mono ?_
  rintro e w1 ⟨rfl, rfl⟩
  go_wp2_with fail
  go_ret
  exact ⟨ret_boolT (by rw [← Bool.decide_and]; rfl), rfl⟩
theorem wrap_in18 {x : Int} (h : -9223372036854775808 ≤ x ∧ x ≤ 9223372036854775807) : wrap64 x = x := by unfold wrap64; omega
theorem fine_at {n : Int} {b : Bool} (h : decide (FineOk n) = b) (w : World) : Calls Try.prog 51 #[.int .i64 n] w fun e w' => e = .returned (.bool b) ∧ w = w' := h ▸ fine_any n w
theorem in_at {n lo hi : Int} {b : Bool} (h : decide (lo ≤ n ∧ n ≤ hi) = b) (w : World) : Calls Try.prog 48 #[.int .i64 n, .int .i64 lo, .int .i64 hi] w fun e w' => e = .returned (.bool b) ∧ w = w' := h ▸ inT_any n lo hi w
set_option maxHeartbeats 4000000 in
theorem tuned_spec (a k b : Int) (w : World) : Calls Try.prog 52 #[.int .i64 a, .int .i64 k, .int .i64 b] w fun e w' => e = .returned (.int .i64 (tunV a k b)) ∧ w = w' := by
  by_cases h1 : FineOk a
  · have H1 := Lib.hid (decide_eq_true h1)
    by_cases h2 : 0 ≤ b ∧ b ≤ 100000
    · have H2 := Lib.hid (decide_eq_true h2)
      obtain ⟨n, hn⟩ : ∃ n, n = tunN a k b := ⟨_, rfl⟩
      have HN := Lib.hid hn
      obtain ⟨m, hm⟩ : ∃ m, m = FineOk n := ⟨_, rfl⟩
      have u1 := h1.1
      have u2 := h1.2
      have RY := Lib.hid (fun q => tunV_yes h1 h2 hn q)
      have RN := Lib.hid (fun q => tunV_no3 hn q)
      clear hm m
      by_cases k1 : k = 1
      · subst k1
        obtain ⟨X, hX⟩ : ∃ X, X = 3 * a - b := ⟨_, rfl⟩
        have v1 : wrap64 (3 * a - b) = X := by rw [hX]; exact wrap_in18 (by omega)
        by_cases hx : 0 < X
        ·
          have HV : n = X / 2 := by rw [HN.out]; unfold tunN; rw [if_pos rfl, Int.max_eq_right (by omega), hX]
          have v2 : X / 2 = n := HV.symm
          have hXb : X ≤ 30000000 := by omega
          clear hX
          have nb := Lib.hid (show 0 ≤ n ∧ n ≤ 30000000 from by omega)
          obtain ⟨n0, n1⟩ := nb.out
          by_cases hf : FineOk n
          ·
            have H3 := Lib.hid (decide_eq_true hf)
            have R := Lib.hid (RY.out hf)
            clear hf RY RN hn h1 h2 HN HV
            go_enter Try.func52, Try.ntmps52
            go_wp2_with fail
            refine (fine_at H1.out _).mono ?_
            rintro e1 w1 ⟨rfl, rfl⟩
            go_wp2_with fail
            refine (in_at H2.out _).mono ?_
            rintro e1 w1 ⟨rfl, rfl⟩
            go_wp2_with fail
            refine (fine_at H3.out _).mono ?_
            rintro e1 w1 ⟨rfl, rfl⟩
            go_wp2_with fail
            go_ret
            exact ⟨ret_int R.out.symm, rfl⟩
          ·
            have H3 := Lib.hid (decide_eq_false hf)
            have R := Lib.hid (RN.out hf)
            clear hf RY RN hn h1 h2 HN HV
            go_enter Try.func52, Try.ntmps52
            go_wp2_with fail
            refine (fine_at H1.out _).mono ?_
            rintro e1 w1 ⟨rfl, rfl⟩
            go_wp2_with fail
            refine (in_at H2.out _).mono ?_
            rintro e1 w1 ⟨rfl, rfl⟩
            go_wp2_with fail
            refine (fine_at H3.out _).mono ?_
            rintro e1 w1 ⟨rfl, rfl⟩
            go_wp2_with fail
            go_ret
            exact ⟨ret_int R.out.symm, rfl⟩
        ·
          have HV : n = 0 := by rw [HN.out]; unfold tunN; rw [if_pos rfl, Int.max_eq_left (by omega)]; rfl
          clear hX
          subst HV
          have hf : ¬ FineOk 0 := by decide
          have H3 := Lib.hid (decide_eq_false hf)
          have R := Lib.hid (RN.out hf)
          clear hf RY RN hn h1 h2 HN
          go_enter Try.func52, Try.ntmps52
          go_wp2_with fail
          refine (fine_at H1.out _).mono ?_
          rintro e1 w1 ⟨rfl, rfl⟩
          go_wp2_with fail
          refine (in_at H2.out _).mono ?_
          rintro e1 w1 ⟨rfl, rfl⟩
          go_wp2_with fail
          refine (fine_at H3.out _).mono ?_
          rintro e1 w1 ⟨rfl, rfl⟩
          go_wp2_with fail
          go_ret
          exact ⟨ret_int R.out.symm, rfl⟩
      by_cases k2 : k = 2
      · subst k2
        obtain ⟨X, hX⟩ : ∃ X, X = 3 * a - b := ⟨_, rfl⟩
        have v1 : wrap64 (3 * a - b) = X := by rw [hX]; exact wrap_in18 (by omega)
        by_cases hx : 0 < X
        ·
          have HV : n = X / 4 := by rw [HN.out]; unfold tunN; rw [if_neg (by omega), if_pos rfl, Int.max_eq_right (by omega), hX]
          have v2 : X / 4 = n := HV.symm
          have hXb : X ≤ 30000000 := by omega
          clear hX
          have nb := Lib.hid (show 0 ≤ n ∧ n ≤ 30000000 from by omega)
          obtain ⟨n0, n1⟩ := nb.out
          by_cases hf : FineOk n
          ·
            have H3 := Lib.hid (decide_eq_true hf)
            have R := Lib.hid (RY.out hf)
            clear hf RY RN hn h1 h2 HN HV
            go_enter Try.func52, Try.ntmps52
            go_wp2_with fail
            refine (fine_at H1.out _).mono ?_
            rintro e1 w1 ⟨rfl, rfl⟩
            go_wp2_with fail
            refine (in_at H2.out _).mono ?_
            rintro e1 w1 ⟨rfl, rfl⟩
            go_wp2_with fail
            refine (fine_at H3.out _).mono ?_
            rintro e1 w1 ⟨rfl, rfl⟩
            go_wp2_with fail
            go_ret
            exact ⟨ret_int R.out.symm, rfl⟩
          ·
            have H3 := Lib.hid (decide_eq_false hf)
            have R := Lib.hid (RN.out hf)
            clear hf RY RN hn h1 h2 HN HV
            go_enter Try.func52, Try.ntmps52
            go_wp2_with fail
            refine (fine_at H1.out _).mono ?_
            rintro e1 w1 ⟨rfl, rfl⟩
            go_wp2_with fail
            refine (in_at H2.out _).mono ?_
            rintro e1 w1 ⟨rfl, rfl⟩
            go_wp2_with fail
            refine (fine_at H3.out _).mono ?_
            rintro e1 w1 ⟨rfl, rfl⟩
            go_wp2_with fail
            go_ret
            exact ⟨ret_int R.out.symm, rfl⟩
        ·
          have HV : n = 0 := by rw [HN.out]; unfold tunN; rw [if_neg (by omega), if_pos rfl, Int.max_eq_left (by omega)]; rfl
          clear hX
          subst HV
          have hf : ¬ FineOk 0 := by decide
          have H3 := Lib.hid (decide_eq_false hf)
          have R := Lib.hid (RN.out hf)
          clear hf RY RN hn h1 h2 HN
          go_enter Try.func52, Try.ntmps52
          go_wp2_with fail
          refine (fine_at H1.out _).mono ?_
          rintro e1 w1 ⟨rfl, rfl⟩
          go_wp2_with fail
          refine (in_at H2.out _).mono ?_
          rintro e1 w1 ⟨rfl, rfl⟩
          go_wp2_with fail
          refine (fine_at H3.out _).mono ?_
          rintro e1 w1 ⟨rfl, rfl⟩
          go_wp2_with fail
          go_ret
          exact ⟨ret_int R.out.symm, rfl⟩
      have e1 : (k == 1) = false := by simpa using k1
      have e2 : (k == 2) = false := by simpa using k2
      by_cases b0 : b = 0
      · subst b0
        by_cases k3 : k = 3
        · subst k3
          have HV : n = 2 * a := by rw [HN.out]; unfold tunN; rw [if_neg (by omega), if_neg (by omega), if_pos ⟨rfl, rfl⟩]
          have v2 : 2 * a = n := HV.symm
          clear k1 k2 e1 e2
          have nb := Lib.hid (show 0 ≤ n ∧ n ≤ 30000000 from by omega)
          obtain ⟨n0, n1⟩ := nb.out
          by_cases hf : FineOk n
          ·
            have H3 := Lib.hid (decide_eq_true hf)
            have R := Lib.hid (RY.out hf)
            clear hf RY RN hn h1 h2 HN HV
            go_enter Try.func52, Try.ntmps52
            go_wp2_with fail
            refine (fine_at H1.out _).mono ?_
            rintro e1 w1 ⟨rfl, rfl⟩
            go_wp2_with fail
            refine (in_at H2.out _).mono ?_
            rintro e1 w1 ⟨rfl, rfl⟩
            go_wp2_with fail
            refine (fine_at H3.out _).mono ?_
            rintro e1 w1 ⟨rfl, rfl⟩
            go_wp2_with fail
            go_ret
            exact ⟨ret_int R.out.symm, rfl⟩
          ·
            have H3 := Lib.hid (decide_eq_false hf)
            have R := Lib.hid (RN.out hf)
            clear hf RY RN hn h1 h2 HN HV
            go_enter Try.func52, Try.ntmps52
            go_wp2_with fail
            refine (fine_at H1.out _).mono ?_
            rintro e1 w1 ⟨rfl, rfl⟩
            go_wp2_with fail
            refine (in_at H2.out _).mono ?_
            rintro e1 w1 ⟨rfl, rfl⟩
            go_wp2_with fail
            refine (fine_at H3.out _).mono ?_
            rintro e1 w1 ⟨rfl, rfl⟩
            go_wp2_with fail
            go_ret
            exact ⟨ret_int R.out.symm, rfl⟩
        by_cases k4 : k = 4
        · subst k4
          have HV : n = a / 2 := by rw [HN.out]; unfold tunN; rw [if_neg (by omega), if_neg (by omega), if_neg (by omega), if_pos ⟨rfl, rfl⟩]
          have v2 : a / 2 = n := HV.symm
          clear k1 k2 k3 e1 e2
          have nb := Lib.hid (show 0 ≤ n ∧ n ≤ 30000000 from by omega)
          obtain ⟨n0, n1⟩ := nb.out
          by_cases hf : FineOk n
          ·
            have H3 := Lib.hid (decide_eq_true hf)
            have R := Lib.hid (RY.out hf)
            clear hf RY RN hn h1 h2 HN HV
            go_enter Try.func52, Try.ntmps52
            go_wp2_with fail
            refine (fine_at H1.out _).mono ?_
            rintro e1 w1 ⟨rfl, rfl⟩
            go_wp2_with fail
            refine (in_at H2.out _).mono ?_
            rintro e1 w1 ⟨rfl, rfl⟩
            go_wp2_with fail
            refine (fine_at H3.out _).mono ?_
            rintro e1 w1 ⟨rfl, rfl⟩
            go_wp2_with fail
            go_ret
            exact ⟨ret_int R.out.symm, rfl⟩
          ·
            have H3 := Lib.hid (decide_eq_false hf)
            have R := Lib.hid (RN.out hf)
            clear hf RY RN hn h1 h2 HN HV
            go_enter Try.func52, Try.ntmps52
            go_wp2_with fail
            refine (fine_at H1.out _).mono ?_
            rintro e1 w1 ⟨rfl, rfl⟩
            go_wp2_with fail
            refine (in_at H2.out _).mono ?_
            rintro e1 w1 ⟨rfl, rfl⟩
            go_wp2_with fail
            refine (fine_at H3.out _).mono ?_
            rintro e1 w1 ⟨rfl, rfl⟩
            go_wp2_with fail
            go_ret
            exact ⟨ret_int R.out.symm, rfl⟩
        have e3 : (k == 3) = false := by simpa using k3
        have e4 : (k == 4) = false := by simpa using k4
        have HV : n = 0 := by rw [HN.out]; unfold tunN; rw [if_neg k1, if_neg k2, if_neg (fun q => k3 q.1), if_neg (fun q => k4 q.1)]
        subst HV
        have hf : ¬ FineOk 0 := by decide
        have H3 := Lib.hid (decide_eq_false hf)
        have R := Lib.hid (RN.out hf)
        clear hf RY RN hn h1 h2 HN
        go_enter Try.func52, Try.ntmps52
        go_wp2_with fail
        refine (fine_at H1.out _).mono ?_
        rintro e1 w1 ⟨rfl, rfl⟩
        go_wp2_with fail
        refine (in_at H2.out _).mono ?_
        rintro e1 w1 ⟨rfl, rfl⟩
        go_wp2_with fail
        refine (fine_at H3.out _).mono ?_
        rintro e1 w1 ⟨rfl, rfl⟩
        go_wp2_with fail
        go_ret
        exact ⟨ret_int R.out.symm, rfl⟩
      · have e0 : (b == 0) = false := by simpa using b0
        have HV : n = 0 := by rw [HN.out]; unfold tunN; rw [if_neg k1, if_neg k2, if_neg (fun q => b0 q.2), if_neg (fun q => b0 q.2)]
        have hf : ¬ FineOk 0 := by decide
        subst HV
        have H3 := Lib.hid (decide_eq_false hf)
        have R := Lib.hid (RN.out hf)
        clear hf RY RN hn h1 h2 HN k1 k2
        by_cases k3 : k = 3
        · subst k3
          clear e1 e2
          go_enter Try.func52, Try.ntmps52
          go_wp2_with fail
          refine (fine_at H1.out _).mono ?_
          rintro e1 w1 ⟨rfl, rfl⟩
          go_wp2_with fail
          refine (in_at H2.out _).mono ?_
          rintro e1 w1 ⟨rfl, rfl⟩
          go_wp2_with fail
          refine (fine_at H3.out _).mono ?_
          rintro e1 w1 ⟨rfl, rfl⟩
          go_wp2_with fail
          go_ret
          exact ⟨ret_int R.out.symm, rfl⟩
        by_cases k4 : k = 4
        · subst k4
          clear e1 e2 k3
          go_enter Try.func52, Try.ntmps52
          go_wp2_with fail
          refine (fine_at H1.out _).mono ?_
          rintro e1 w1 ⟨rfl, rfl⟩
          go_wp2_with fail
          refine (in_at H2.out _).mono ?_
          rintro e1 w1 ⟨rfl, rfl⟩
          go_wp2_with fail
          refine (fine_at H3.out _).mono ?_
          rintro e1 w1 ⟨rfl, rfl⟩
          go_wp2_with fail
          go_ret
          exact ⟨ret_int R.out.symm, rfl⟩
        have e3 : (k == 3) = false := by simpa using k3
        have e4 : (k == 4) = false := by simpa using k4
        go_enter Try.func52, Try.ntmps52
        go_wp2_with fail
        refine (fine_at H1.out _).mono ?_
        rintro e1 w1 ⟨rfl, rfl⟩
        go_wp2_with fail
        refine (in_at H2.out _).mono ?_
        rintro e1 w1 ⟨rfl, rfl⟩
        go_wp2_with fail
        refine (fine_at H3.out _).mono ?_
        rintro e1 w1 ⟨rfl, rfl⟩
        go_wp2_with fail
        go_ret
        exact ⟨ret_int R.out.symm, rfl⟩
    · have H2 := Lib.hid (decide_eq_false h2)
      have R := Lib.hid (tunV_no2 (a := a) (k := k) h2)
      clear h2 h1
      go_enter Try.func52, Try.ntmps52
      go_wp2_with fail
      refine (fine_at H1.out _).mono ?_
      rintro e1 w1 ⟨rfl, rfl⟩
      go_wp2_with fail
      refine (in_at H2.out _).mono ?_
      rintro e1 w1 ⟨rfl, rfl⟩
      go_wp2_with fail
      go_ret
      exact ⟨ret_int R.out.symm, rfl⟩
  · have H1 := Lib.hid (decide_eq_false h1)
    have R := Lib.hid (tunV_no1 (k := k) (b := b) h1)
    clear h1
    go_enter Try.func52, Try.ntmps52
    go_wp2_with fail
    refine (fine_at H1.out _).mono ?_
    rintro e1 w1 ⟨rfl, rfl⟩
    go_wp2_with fail
    go_ret
    exact ⟨ret_int R.out.symm, rfl⟩
set_option maxHeartbeats 4000000 in
theorem heard18_spec (a t k : Int) (w : World) : Calls Try.prog 47 #[.int .i64 a, .int .i64 t, .int .i64 k] w fun e w' => e = .returned (.int .i64 (heardV a t k)) ∧ Below w.heap.size w w' := by
  by_cases h1 : FineOk a
  · have H1 := Lib.hid (decide_eq_true h1)
    by_cases h2 : FineOk t
    · have H2 := Lib.hid (decide_eq_true h2)
      by_cases h3 : 1 ≤ k ∧ k ≤ 4
      · have H3 := Lib.hid (decide_eq_true h3)
        have R : heardV a t k = max (hdA k * a - hdB k * t) (hdB k * t - hdA k * a) := if_pos ⟨h1, h2, h3⟩
        obtain ⟨u1, u2⟩ := h1
        obtain ⟨u3, u4⟩ := h2
        rcases (show k = 1 ∨ k = 2 ∨ k = 3 ∨ k = 4 from by omega) with rfl | rfl | rfl | rfl
        · have R2 : heardV a t 1 = max (3 * a - 2 * t) (2 * t - 3 * a) := by rw [R]; simp [hdA, hdB]
          have HR := Lib.hid R2
          clear R R2 h3
          go_enter Try.func47, Try.ntmps47
          go_wp2_with fail
          refine (fine_at H1.out _).mono ?_
          rintro e1 w1 ⟨rfl, rfl⟩
          go_wp2_with fail
          refine (fine_at H2.out _).mono ?_
          rintro e1 w1 ⟨rfl, rfl⟩
          go_wp2_with fail
          refine (in_at H3.out _).mono ?_
          rintro e1 w1 ⟨rfl, rfl⟩
          go_wp2_with fail
          all_goals
            go_ret
            exact ⟨ret_int (by rw [HR.out]; (try split) <;> (try unfold wrap64 at *) <;> omega), below_alloc2 _ _ _⟩
        · have R2 : heardV a t 2 = max (3 * a - 4 * t) (4 * t - 3 * a) := by rw [R]; simp [hdA, hdB]
          have HR := Lib.hid R2
          clear R R2 h3
          go_enter Try.func47, Try.ntmps47
          go_wp2_with fail
          refine (fine_at H1.out _).mono ?_
          rintro e1 w1 ⟨rfl, rfl⟩
          go_wp2_with fail
          refine (fine_at H2.out _).mono ?_
          rintro e1 w1 ⟨rfl, rfl⟩
          go_wp2_with fail
          refine (in_at H3.out _).mono ?_
          rintro e1 w1 ⟨rfl, rfl⟩
          go_wp2_with fail
          all_goals
            go_ret
            exact ⟨ret_int (by rw [HR.out]; (try split) <;> (try unfold wrap64 at *) <;> omega), below_alloc2 _ _ _⟩
        · have R2 : heardV a t 3 = max (2 * a - t) (t - 2 * a) := by rw [R]; simp [hdA, hdB]
          have HR := Lib.hid R2
          clear R R2 h3
          go_enter Try.func47, Try.ntmps47
          go_wp2_with fail
          refine (fine_at H1.out _).mono ?_
          rintro e1 w1 ⟨rfl, rfl⟩
          go_wp2_with fail
          refine (fine_at H2.out _).mono ?_
          rintro e1 w1 ⟨rfl, rfl⟩
          go_wp2_with fail
          refine (in_at H3.out _).mono ?_
          rintro e1 w1 ⟨rfl, rfl⟩
          go_wp2_with fail
          all_goals
            go_ret
            exact ⟨ret_int (by rw [HR.out]; (try split) <;> (try unfold wrap64 at *) <;> omega), below_alloc2 _ _ _⟩
        · have R2 : heardV a t 4 = max (a - 2 * t) (2 * t - a) := by rw [R]; simp [hdA, hdB]
          have HR := Lib.hid R2
          clear R R2 h3
          go_enter Try.func47, Try.ntmps47
          go_wp2_with fail
          refine (fine_at H1.out _).mono ?_
          rintro e1 w1 ⟨rfl, rfl⟩
          go_wp2_with fail
          refine (fine_at H2.out _).mono ?_
          rintro e1 w1 ⟨rfl, rfl⟩
          go_wp2_with fail
          refine (in_at H3.out _).mono ?_
          rintro e1 w1 ⟨rfl, rfl⟩
          go_wp2_with fail
          all_goals
            go_ret
            exact ⟨ret_int (by rw [HR.out]; (try split) <;> (try unfold wrap64 at *) <;> omega), below_alloc2 _ _ _⟩
      · have H3 := Lib.hid (decide_eq_false h3)
        have R := Lib.hid (heardV_no (a := a) (t := t) (k := k) (fun q => h3 q.2.2))
        clear h1 h2 h3
        go_enter Try.func47, Try.ntmps47
        go_wp2_with fail
        refine (fine_at H1.out _).mono ?_
        rintro e1 w1 ⟨rfl, rfl⟩
        go_wp2_with fail
        refine (fine_at H2.out _).mono ?_
        rintro e1 w1 ⟨rfl, rfl⟩
        go_wp2_with fail
        refine (in_at H3.out _).mono ?_
        rintro e1 w1 ⟨rfl, rfl⟩
        go_wp2_with fail
        go_ret
        exact ⟨ret_int R.out.symm, Below.refl _ _⟩
    · have H2 := Lib.hid (decide_eq_false h2)
      have R := Lib.hid (heardV_no (a := a) (t := t) (k := k) (fun q => h2 q.2.1))
      clear h1 h2
      go_enter Try.func47, Try.ntmps47
      go_wp2_with fail
      refine (fine_at H1.out _).mono ?_
      rintro e1 w1 ⟨rfl, rfl⟩
      go_wp2_with fail
      refine (fine_at H2.out _).mono ?_
      rintro e1 w1 ⟨rfl, rfl⟩
      go_wp2_with fail
      go_ret
      exact ⟨ret_int R.out.symm, Below.refl _ _⟩
  · have H1 := Lib.hid (decide_eq_false h1)
    have R := Lib.hid (heardV_no (a := a) (t := t) (k := k) (fun q => h1 q.1))
    clear h1
    go_enter Try.func47, Try.ntmps47
    go_wp2_with fail
    refine (fine_at H1.out _).mono ?_
    rintro e1 w1 ⟨rfl, rfl⟩
    go_wp2_with fail
    go_ret
    exact ⟨ret_int R.out.symm, Below.refl _ _⟩
end Go.Proofs.Ytcddmmepphihjaa
