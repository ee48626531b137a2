/- Contracts of impl.PowerBig and spec.PowerBig. -/
import Derived.Test.YtpagmeekbdiaoaaSTimesWalks
namespace Go.Proofs.Ytpagmeekbdiaoaa
open Go.RowKit
set_option linter.unusedVariables false
theorem powR_no {b e : Int} (h : ¬ (1 ≤ b ∧ b ≤ 1000 ∧ 0 ≤ e ∧ e ≤ 2000)) : PowR b e = ([], false) := by unfold PowR; rw [if_neg h]
theorem powR_long {b : Int} {e k : Nat} (hk : k ≤ e) (h : powB b k = none) : PowR b e = ([], false) := by
  unfold PowR
  rw [Int.toNat_natCast, powB_none h e hk]
  split <;> rfl
theorem powR_yes {b : Int} {e : Nat} {xs : List Int} (h1 : 1 ≤ b) (h2 : b ≤ 1000) (h3 : e ≤ 2000) (h : powB b e = some xs) : PowR b e = (xs, true) := by
  unfold PowR
  rw [Int.toNat_natCast, h, if_pos (by omega)]
theorem powB_next {b : Int} {k : Nat} {xs : List Int} (h : powB b k = some xs) (hl : (timesB xs b).length ≤ 120) : powB b (k + 1) = some (timesB xs b) := by
  unfold powB; rw [h]; simp only; rw [if_pos hl]
theorem powB_over {b : Int} {k : Nat} {xs : List Int} (h : powB b k = some xs) (hl : ¬ (timesB xs b).length ≤ 120) : powB b (k + 1) = none := by
  unfold powB; rw [h]; simp only; rw [if_neg hl]
theorem one_lit (w : World) (T : TypeId) : (w.alloc (.cells #[.int .i64 1] T)).ownsRow w.heap.size T 1 (.slice (some ⟨w.heap.size, 0, none⟩) 1 1) ([1] : List Int).length (intCs [1]) :=
  World.ownsRow_lit w #[.int .i64 1] 1 (Nat.le_refl _) (by unfold maxLen; omega) rfl
theorem zero_lit2 (w : World) (o : Obj) (T : TypeId) : ((w.alloc o).alloc (.cells #[] T)).ownsRow w.heap.size T 1 (.slice (some ⟨w.heap.size + 1, 0, none⟩) 0 0) ([] : List Int).length (intCs []) := by
  have e : (w.alloc o).heap.size = w.heap.size + 1 := by simp
  have h := own_zero_lit (w.alloc o) T
  rw [e] at h
  exact own_lower h (by omega)
set_option maxHeartbeats 1500000 in
theorem power_any (w : World) (b e : Int) : Calls Try.prog 9 #[.int .i64 b, .int .i64 e] w (OwnPostB 3 (PowR b e).1 (PowR b e).2 w) := by
  rcases (show b < 1 ∨ (1 ≤ b ∧ 1000 < b) ∨ (1 ≤ b ∧ b ≤ 1000) from by omega) with h | h | h
  · have Y := Lib.hid (powR_no (b := b) (e := e) (by omega))
    go_enter Try.func9, Try.ntmps9
    go_wp2
    go_ret2
    exact ret_own Y.out (World.ownsRow_nil _ _ _ _) (Below.refl _ _)
  · have Y := Lib.hid (powR_no (b := b) (e := e) (by omega))
    obtain ⟨h1, h2⟩ := h
    have p1 : ¬ b < 1 := by omega
    go_enter Try.func9, Try.ntmps9
    go_wp2
    go_ret2
    exact ret_own Y.out (World.ownsRow_nil _ _ _ _) (Below.refl _ _)
  · obtain ⟨h1, h2⟩ := h
    have p1 : ¬ b < 1 := by omega
    have p2 : ¬ 1000 < b := by omega
    rcases (show e < 0 ∨ (0 ≤ e ∧ 2000 < e) ∨ (0 ≤ e ∧ e ≤ 2000) from by omega) with h | h | h
    · have Y := Lib.hid (powR_no (b := b) (e := e) (by omega))
      go_enter Try.func9, Try.ntmps9
      go_wp2
      go_ret2
      exact ret_own Y.out (World.ownsRow_nil _ _ _ _) (Below.refl _ _)
    · have Y := Lib.hid (powR_no (b := b) (e := e) (by omega))
      obtain ⟨h3, h4⟩ := h
      have p3 : ¬ e < 0 := by omega
      go_enter Try.func9, Try.ntmps9
      go_wp2
      go_ret2
      exact ret_own Y.out (World.ownsRow_nil _ _ _ _) (Below.refl _ _)
    · obtain ⟨h3, h4⟩ := h
      have p3 : ¬ e < 0 := by omega
      have p4 : ¬ 2000 < e := by omega
      obtain ⟨E, rfl⟩ := Int.eq_ofNat_of_zero_le h3
      go_enter Try.func9, Try.ntmps9
      go_wp2
      go_loopw [6, 23] (fun v i wr => ∃ (k : Nat) (xs : List Int), k ≤ E ∧ i = .int .i64 k ∧ powB b k = some xs ∧ wr.ownsRow w.heap.size 3 1 v xs.length (intCs xs) ∧ Below w.heap.size w wr) (fun _ i _ => E - (intOf i).toNat)
      case atStart => exact ⟨0, [1], Nat.zero_le _, rfl, rfl, one_lit _ _, (Below.refl _ _).alloc (Nat.le_refl _) _⟩
      case round =>
        obtain ⟨k, xs, hk, rfl, hp, hown, hb⟩ := hrel
        have HP := Lib.hid hp
        have HO := Lib.hid (powB_ok h1 h2 k xs hp)
        clear hp
        by_cases hlt : k < E
        · have q3 : (k : Int) < E := by omega
          go_wp2_with fail
          refine (times_any _ _ _ _ xs b HO.out (by omega) h2 hown).mono ?_
          rintro e1 w1 ⟨v1, rfl, o1, b1⟩
          have R1 := own_lower o1 hb.size
          have R2 := hb.trans (b1.mono hb.size)
          obtain ⟨p, c, rfl⟩ := slice_own o1
          clear o1 b1 hown hb
          obtain ⟨m, hm⟩ : ∃ m, m = (timesB xs b).length := ⟨_, rfl⟩
          have hm2 : m ≤ 121 := by have := timesB_len xs b; have := HO.out.1; omega
          rw [← hm] at R1 ⊢
          have HM := Lib.hid hm
          clear hm
          by_cases hl : m ≤ 120
          · have q : ¬ (120 : Int) < m := by omega
            have NX := Lib.hid (powB_next HP.out (by rw [← HM.out]; exact hl))
            go_wp2_with fail
            go_roundw
            case rel => exact ⟨k + 1, _, by omega, by go_num, NX.out, by rw [← HM.out]; exact R1, R2⟩
            case measure => simp [intOf]; omega
          · have q : (120 : Int) < m := by omega
            have Y := Lib.hid (powR_long (b := b) (e := E) (k := k + 1) (by omega) (powB_over HP.out (by rw [← HM.out]; exact hl)))
            clear hl
            go_wp2_with fail
            go_ret2
            exact ret_own Y.out (World.ownsRow_nil _ _ _ _) R2
        · have q3 : ¬ (k : Int) < E := by omega
          obtain rfl : k = E := by omega
          have Y := Lib.hid (powR_yes h1 h2 (by omega) HP.out)
          go_wp2_with fail
          go_ret2
          exact ret_own Y.out hown hb
set_option maxHeartbeats 1500000 in
theorem spower_any (w : World) (b e : Int) : Calls Try.prog 19 #[.int .i64 b, .int .i64 e] w (OwnPostB 3 (PowR b e).1 (PowR b e).2 w) := by
  have B0 : ∀ o, Below w.heap.size w (w.alloc o) := fun o => (Below.refl _ _).alloc (Nat.le_refl _) o
  by_cases hb : 1 ≤ b ∧ b ≤ 1000
  · have d1 : decide (1 ≤ b ∧ b ≤ 1000) = true := decide_eq_true hb
    by_cases he : 0 ≤ e ∧ e ≤ 2000
    · have d2 : decide (0 ≤ e ∧ e ≤ 2000) = true := decide_eq_true he
      obtain ⟨h1, h2⟩ := hb
      obtain ⟨h3, h4⟩ := he
      obtain ⟨E, rfl⟩ := Int.eq_ofNat_of_zero_le h3
      go_enter Try.func19, Try.ntmps19
      go_wp2_with (go_at_call 27; refine (in_any _ _ _ _).mono ?_; rintro e1 w1 ⟨rfl, rfl⟩; first | rw [d1] | rw [d2])
      go_loopw [6, 7, 8, 9] (fun v i _ _ wr => ∃ (k : Nat) (xs : List Int), k ≤ E ∧ i = .int .i64 k ∧ powB b k = some xs ∧ wr.ownsRow w.heap.size 3 1 v xs.length (intCs xs) ∧ Below w.heap.size w wr) (fun _ i _ _ _ => E - (intOf i).toNat)
      case atStart => exact ⟨0, [1], Nat.zero_le _, rfl, rfl, one_lit _ _, B0 _⟩
      case round =>
        obtain ⟨k, xs, hk, rfl, hp, hown, hb⟩ := hrel
        have HP := Lib.hid hp
        have HO := Lib.hid (powB_ok h1 h2 k xs hp)
        clear hp
        by_cases hlt : k < E
        · have q3 : (k : Int) < E := by omega
          go_wp2_with fail
          refine (stimesBig_any _ _ _ _ xs b (by have := HO.out.1; omega) hown).mono ?_
          rintro e1 w1 ⟨v1, rfl, o1, b1⟩
          have R1 := own_lower o1 hb.size
          have R2 := hb.trans (b1.mono hb.size)
          clear o1 b1 hown hb
          by_cases hl : (timesB xs b).length ≤ 120
          · have NX := Lib.hid (powB_next HP.out hl)
            have T := timesR_yes ⟨HO.out, by omega, h2⟩ hl
            rw [T] at R1 ⊢
            clear hl T
            go_wp2_with fail
            go_roundw
            case rel => exact ⟨k + 1, _, by omega, by go_num, NX.out, R1, R2⟩
            case measure => simp [intOf]; omega
          · have Y := Lib.hid (powR_long (b := b) (e := E) (k := k + 1) (by omega) (powB_over HP.out hl))
            have T := timesR_long (xs := xs) (n := b) hl
            rw [T]
            clear hl T R1
            go_wp2_with fail
            go_ret2
            exact ret_own Y.out (own_lower (own_zero_lit _ _) R2.size) (R2.alloc R2.size _)
        · have q3 : ¬ (k : Int) < E := by omega
          obtain rfl : k = E := by omega
          have Y := Lib.hid (powR_yes h1 h2 (by omega) HP.out)
          go_wp2_with fail
          go_ret2
          exact ret_own Y.out hown hb
    · have d2 : decide (0 ≤ e ∧ e ≤ 2000) = false := decide_eq_false he
      have Y := Lib.hid (powR_no (b := b) (e := e) (by omega))
      clear he hb
      go_enter Try.func19, Try.ntmps19
      go_wp2_with (go_at_call 27; refine (in_any _ _ _ _).mono ?_; rintro e1 w1 ⟨rfl, rfl⟩; first | rw [d1] | rw [d2])
      go_ret2
      exact ret_own Y.out (zero_lit2 w _ _) ((B0 _).alloc (B0 _).size _)
  · have d1 : decide (1 ≤ b ∧ b ≤ 1000) = false := decide_eq_false hb
    have Y := Lib.hid (powR_no (b := b) (e := e) (by omega))
    clear hb
    go_enter Try.func19, Try.ntmps19
    go_wp2_with (go_at_call 27; refine (in_any _ _ _ _).mono ?_; rintro e1 w1 ⟨rfl, rfl⟩; rw [d1])
    go_ret2
    exact ret_own Y.out (zero_lit2 w _ _) ((B0 _).alloc (B0 _).size _)
theorem powR_len (b e : Int) : (PowR b e).1.length ≤ 120 := by
  unfold PowR
  split
  · next h =>
    split
    · simp
    · next xs hx => exact (powB_ok h.1 h.2.1 _ xs hx).1
  · simp
end Go.Proofs.Ytpagmeekbdiaoaa
