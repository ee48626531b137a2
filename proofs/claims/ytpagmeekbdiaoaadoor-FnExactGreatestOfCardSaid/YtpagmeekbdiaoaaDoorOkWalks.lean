/- Contracts of spec.l01In, spec.BigOk and impl.BigOk, and the walk of laws.FnExactBigOk. -/
import Derived.Test.YtpagmeekbdiaoaaDoorEqInts
import Derived.Test.YtpagmeekbdiaoaaDoorBigMath
namespace Go.Proofs.YtpagmeekbdiaoaaDoor
open Go.RowKit
set_option linter.unusedVariables false
theorem in_any (n lo hi : Int) (w : World) : Calls Tryd.prog 65 #[.int .i64 n, .int .i64 lo, .int .i64 hi] w fun e w' => e = .returned (.bool (decide (lo ≤ n ∧ n ≤ hi))) ∧ w = w' := by
  by_cases h1 : lo ≤ n
  · by_cases h2 : n ≤ hi
    · have R := Lib.hid (And.intro h1 h2)
      go_enter Tryd.func65, Tryd.ntmps65
      go_wp2
      go_ret
      exact ⟨ret_bool (decide_eq_true R.out).symm, rfl⟩
    · have R := Lib.hid h2
      go_enter Tryd.func65, Tryd.ntmps65
      go_wp2
      go_ret
      exact ⟨ret_bool (decide_eq_false (fun h => by have := R.out; omega)).symm, rfl⟩
  · have R := Lib.hid h1
    go_enter Tryd.func65, Tryd.ntmps65
    go_wp2
    go_ret
    exact ⟨ret_bool (by have := R.out; simp; omega), rfl⟩
set_option maxHeartbeats 1000000 in
theorem sok_any (w : World) (b : Nat) (e : TypeId) (v : Value) (xs : List Int) (hx : xs.length ≤ 2000000) (h : w.ownsRow b e 1 v xs.length (intCs xs)) :
    Calls Tryd.prog 70 #[v] w fun e w' => e = .returned (.bool (decide (OkB xs))) ∧ w = w' := by
  obtain ⟨n, hn⟩ : ∃ n, n = xs.length := ⟨_, rfl⟩
  rw [← hn] at h hx
  have HN := Lib.hid hn
  clear hn
  rcases Nat.eq_zero_or_pos n with h0 | h0
  · obtain ⟨p1, c1, rfl⟩ := own_zero h h0
    have R : OkB xs := by rw [List.eq_nil_of_length_eq_zero (HN.out.symm.trans h0)]; decide
    have HR := Lib.hid R
    clear h h0 R
    go_enter Tryd.func70, Tryd.ntmps70
    go_wp2
    refine wp_loop_rounds 1 ?_
    rw [rounds_succ]
    go_wp2
    go_ret
    exact ⟨ret_bool (decide_eq_true HR.out).symm, rfl⟩
  · obtain ⟨g, c, rfl, _, _⟩ := own_pos h h0
    go_enter Tryd.func70, Tryd.ntmps70
    go_wp2
    go_loopw [3] (fun i wr => ∃ k : Nat, k ≤ n ∧ i = .int .i64 k ∧ (∀ j, j < k → 0 ≤ xs.getD j 0 ∧ xs.getD j 0 ≤ 9999) ∧ w = wr) (fun i _ => n - (intOf i).toNat)
    case atStart => exact ⟨0, Nat.zero_le _, rfl, fun j hj => by omega, rfl⟩
    case round =>
      obtain ⟨k, hk, rfl, hall, rfl⟩ := hrel
      have HA := Lib.hid hall
      clear hall
      by_cases hlt : k < n
      · have q1 := own_icell h k hlt
        have q3 : (k : Int) < n := by omega
        obtain ⟨x, hxk⟩ : ∃ x, x = xs.getD k 0 := ⟨_, rfl⟩
        rw [← hxk] at q1
        have HX := Lib.hid hxk
        clear hxk
        by_cases hin : 0 ≤ x ∧ x ≤ 9999
        · have d1 : decide (0 ≤ x ∧ x ≤ 9999) = true := decide_eq_true hin
          have HI := Lib.hid hin
          clear hin
          go_wp2_with (go_at_call 65; refine (in_any _ _ _ _).mono ?_; rintro e1 w1 ⟨rfl, rfl⟩; rw [d1])
          go_roundw
          case rel => exact ⟨k + 1, by omega, by go_num, fun j hj => by rcases (show j < k ∨ j = k from by omega) with h | h; exact HA.out j h; rw [h, ← HX.out]; exact HI.out, by trivial⟩
          case measure => simp [intOf]; omega
        · have d1 : decide (0 ≤ x ∧ x ≤ 9999) = false := decide_eq_false hin
          have HI := Lib.hid hin
          clear hin
          go_wp2_with (go_at_call 65; refine (in_any _ _ _ _).mono ?_; rintro e1 w1 ⟨rfl, rfl⟩; rw [d1])
          go_ret
          exact ⟨ret_bool (decide_eq_false (fun h => HI.out (by rw [HX.out]; exact h.2.1 k (by have := HN.out; omega)))).symm, by trivial⟩
      · have q3 : ¬ (k : Int) < n := by omega
        obtain rfl : k = n := by omega
        have q1 := own_icell h (k - 1) (by omega)
        have qi : ((k : Int) - 1).toNat = k - 1 := by omega
        have qj : (k : Int) - 1 < k := by omega
        have qk : 0 ≤ (k : Int) - 1 := by omega
        obtain ⟨x, hxk⟩ : ∃ x, x = xs.getD (k - 1) 0 := ⟨_, rfl⟩
        rw [← hxk] at q1
        have HX := Lib.hid hxk
        clear hxk
        have t0 : ((k : Int) == 0) = false := by simp; omega
        by_cases hl : k ≤ 120
        · have q4 : (k : Int) ≤ 120 := by omega
          by_cases hz : x = 0
          · have t1 : (x != 0) = false := by simp [hz]
            have HZ := Lib.hid hz
            clear hz
            go_wp2
            go_ret
            exact ⟨ret_bool (decide_eq_false (fun h => h.2.2 (by have := HN.out; omega) (by rw [← HN.out, ← HX.out]; exact HZ.out))).symm, by trivial⟩
          · have t1 : (x != 0) = true := by simp [hz]
            have HZ := Lib.hid hz
            clear hz
            go_wp2
            go_ret
            exact ⟨ret_bool (decide_eq_true ⟨by have := HN.out; omega, fun j hj => HA.out j (by have := HN.out; omega), fun _ => by rw [← HN.out, ← HX.out]; exact HZ.out⟩).symm, by trivial⟩
        · have q4 : ¬ (k : Int) ≤ 120 := by omega
          have HL := Lib.hid hl
          clear hl
          go_wp2
          go_ret
          exact ⟨ret_bool (decide_eq_false (fun h => HL.out (by have := h.1; have := HN.out; omega))).symm, by trivial⟩
set_option maxHeartbeats 1000000 in
theorem valid_any (w : World) (b : Nat) (e : TypeId) (v : Value) (xs : List Int) (hx : xs.length ≤ 2000000) (h : w.ownsRow b e 1 v xs.length (intCs xs)) :
    Calls Tryd.prog 42 #[v] w fun e w' => e = .returned (.bool (decide (OkB xs))) ∧ w = w' := by
  obtain ⟨n, hn⟩ : ∃ n, n = xs.length := ⟨_, rfl⟩
  rw [← hn] at h hx
  have HN := Lib.hid hn
  clear hn
  rcases Nat.eq_zero_or_pos n with h0 | h0
  · obtain ⟨p1, c1, rfl⟩ := own_zero h h0
    have R : OkB xs := by rw [List.eq_nil_of_length_eq_zero (HN.out.symm.trans h0)]; decide
    have HR := Lib.hid R
    clear h h0 R
    go_enter Tryd.func42, Tryd.ntmps42
    go_wp2
    refine wp_loop_rounds 1 ?_
    rw [rounds_succ]
    go_wp2
    go_ret
    exact ⟨ret_bool (decide_eq_true HR.out).symm, rfl⟩
  · obtain ⟨g, c, rfl, _, _⟩ := own_pos h h0
    by_cases hl : n ≤ 120
    · have q4 : ¬ (120 : Int) < n := by omega
      go_enter Tryd.func42, Tryd.ntmps42
      go_wp2
      go_loopw [4, 10] (fun _ i wr => ∃ k : Nat, k ≤ n ∧ i = .int .i64 k ∧ (∀ j, j < k → 0 ≤ xs.getD j 0 ∧ xs.getD j 0 ≤ 9999) ∧ w = wr) (fun _ i _ => n - (intOf i).toNat)
      case atStart => exact ⟨0, Nat.zero_le _, rfl, fun j hj => by omega, rfl⟩
      case round =>
        obtain ⟨k, hk, rfl, hall, rfl⟩ := hrel
        have HA := Lib.hid hall
        clear hall
        by_cases hlt : k < n
        · have q1 := own_icell h k hlt
          have q3 : (k : Int) < n := by omega
          obtain ⟨x, hxk⟩ : ∃ x, x = xs.getD k 0 := ⟨_, rfl⟩
          rw [← hxk] at q1
          have HX := Lib.hid hxk
          clear hxk
          rcases (show x < 0 ∨ 10000 ≤ x ∨ (0 ≤ x ∧ x ≤ 9999) from by omega) with hin | hin | hin
          · have HI := Lib.hid hin
            go_wp2
            go_ret
            exact ⟨ret_bool (decide_eq_false (fun h => by have := (h.2.1 k (by have := HN.out; omega)).1; rw [← HX.out] at this; have := HI.out; omega)).symm, by trivial⟩
          · have HI := Lib.hid hin
            go_wp2
            go_ret
            exact ⟨ret_bool (decide_eq_false (fun h => by have := (h.2.1 k (by have := HN.out; omega)).2; rw [← HX.out] at this; have := HI.out; omega)).symm, by trivial⟩
          · have HI := Lib.hid hin
            have p1 : ¬ x < 0 := by omega
            have p2 : ¬ 10000 ≤ x := by omega
            clear hin
            go_wp2
            go_roundw
            case rel => exact ⟨k + 1, by omega, by go_num, fun j hj => by rcases (show j < k ∨ j = k from by omega) with h | h; exact HA.out j h; rw [h, ← HX.out]; exact HI.out, by trivial⟩
            case measure => simp [intOf]; omega
        · have q3 : ¬ (k : Int) < n := by omega
          obtain rfl : k = n := by omega
          have q1 := own_icell h (k - 1) (by omega)
          have qi : ((k : Int) - 1).toNat = k - 1 := by omega
          have qj : (k : Int) - 1 < k := by omega
          have qk : 0 ≤ (k : Int) - 1 := by omega
          obtain ⟨x, hxk⟩ : ∃ x, x = xs.getD (k - 1) 0 := ⟨_, rfl⟩
          rw [← hxk] at q1
          have HX := Lib.hid hxk
          clear hxk
          have t0 : ((k : Int) == 0) = false := by simp; omega
          by_cases hz : x = 0
          · have t1 : (x != 0) = false := by simp [hz]
            have HZ := Lib.hid hz
            clear hz
            go_wp2
            go_ret
            exact ⟨ret_bool (decide_eq_false (fun h => h.2.2 (by have := HN.out; omega) (by rw [← HN.out, ← HX.out]; exact HZ.out))).symm, by trivial⟩
          · have t1 : (x != 0) = true := by simp [hz]
            have HZ := Lib.hid hz
            clear hz
            go_wp2
            go_ret
            exact ⟨ret_bool (decide_eq_true ⟨by have := HN.out; omega, fun j hj => HA.out j (by have := HN.out; omega), fun _ => by rw [← HN.out, ← HX.out]; exact HZ.out⟩).symm, by trivial⟩
    · have q4 : (120 : Int) < n := by omega
      have HL := Lib.hid hl
      clear hl
      go_enter Tryd.func42, Tryd.ntmps42
      go_wp2
      go_ret
      exact ⟨ret_bool (decide_eq_false (fun h => HL.out (by have := h.1; have := HN.out; omega))).symm, rfl⟩
theorem ok_any (w : World) (b : Nat) (e : TypeId) (v : Value) (xs : List Int) (hx : xs.length ≤ 2000000) (h : w.ownsRow b e 1 v xs.length (intCs xs)) :
    Calls Tryd.prog 19 #[v] w fun e w' => e = .returned (.bool (decide (OkB xs))) ∧ w = w' := by
  go_enter Tryd.func19, Tryd.ntmps19
  go_wp2_with fail
  refine (valid_any w b e v xs hx h).mono ?_
  rintro e w1 ⟨rfl, rfl⟩
  go_wp2_with fail
  go_ret
  exact ⟨rfl, rfl⟩
end Go.Proofs.YtpagmeekbdiaoaaDoor
