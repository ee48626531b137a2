/- Contract of laws.has over a row of ints that the call owns. -/
import Derived.Test.YtelaihfjlkppiaaProg
import Derived.Test.YtelaihfjlkppiaaNumBase
import Derived.WalkKit
import Derived.Lib.Hide
import Derived.Deep.QuietTactic
import Derived.BigQuiet
namespace Go.Proofs.Ytelaihfjlkppiaa
open Go.RowKit
set_option linter.unusedVariables false
theorem ret_boolH {a b : Bool} (h : a = b) : Ending.returned (.bool a) = .returned (.bool b) := by rw [h]
set_option maxHeartbeats 400000 in
theorem has_any (w : World) (b : Nat) (e : TypeId) (v : Value) (xs : List Int) (x : Int) (hx : xs.length ≤ 2000000) (h : w.ownsRow b e 1 v xs.length (intCs xs)) :
    Calls Try.prog 16 #[v, .int .i64 x] w fun e w' => e = .returned (.bool (decide (x ∈ xs))) ∧ Below w.heap.size w w' := by
  obtain ⟨n, hn⟩ : ∃ n, n = xs.length := ⟨_, rfl⟩
  rw [← hn] at h hx
  have HN := Lib.hid hn
  clear hn
  rcases Nat.eq_zero_or_pos n with h0 | h0
  · obtain ⟨p1, c1, rfl⟩ := own_zero h h0
    have R : ¬ x ∈ xs := by rw [List.eq_nil_of_length_eq_zero (HN.out.symm.trans h0)]; exact List.not_mem_nil
    have HR := Lib.hid R
    clear h h0 R
    go_enter Try.func16, Try.ntmps16
    go_wp2
    refine wp_loop_rounds 1 ?_
    rw [rounds_succ]
    go_wp2
    go_ret
    exact ⟨ret_boolH (decide_eq_false HR.out).symm, Below.refl _ _⟩
  · obtain ⟨g1, c1, rfl, _, _⟩ := own_pos h h0
    go_enter Try.func16, Try.ntmps16
    go_wp2
    go_loopw [5] (fun i wr => ∃ k : Nat, k ≤ n ∧ i = .int .i64 k ∧ Hid (∀ j, j < k → xs.getD j 0 ≠ x) ∧ wr = w) (fun i _ => n - (intOf i).toNat)
    case atStart => exact ⟨0, Nat.zero_le _, rfl, Lib.hid (fun j hj => by omega), rfl⟩
    case round =>
      obtain ⟨k, hk, rfl, HA, rfl⟩ := hrel
      by_cases hlt : k < n
      · have q1 := own_icell h k hlt
        have q3 : (k : Int) < n := by omega
        obtain ⟨y, hyk⟩ : ∃ y, y = xs.getD k 0 := ⟨_, rfl⟩
        rw [← hyk] at q1
        have HY := Lib.hid hyk
        clear hyk
        by_cases hxy : y = x
        · have t1 : (y == x) = true := by simp [hxy]
          have HM : Hid (x ∈ xs) := Lib.hid (by
            have hl : k < xs.length := by have := HN.out; omega
            rw [← hxy, HY.out]
            simp [List.getD, List.getElem?_eq_getElem hl])
          clear hxy
          go_wp2_with fail
          try (go_quiet (fail); go_wp2_with fail)
          go_ret
          exact ⟨ret_boolH (decide_eq_true HM.out).symm, by first | exact Below.refl _ _ | exact ⟨rfl, rfl, rfl, Nat.le_refl _, fun _ _ => rfl⟩⟩
        · have t1 : (y == x) = false := by simp [hxy]
          have HXY := Lib.hid hxy
          clear hxy
          go_wp2_with fail
          try (go_quiet (fail); go_wp2_with fail)
          go_roundw
          case rel => exact ⟨k + 1, by omega, by go_num, Lib.hid (fun j hj => (show j < k ∨ j = k from by omega).elim (fun h => HA.out j h) (fun h => by rw [h, ← HY.out]; exact HXY.out)), by trivial⟩
          case measure => simp [intOf]; omega
      · have q3 : ¬ (k : Int) < n := by omega
        have hkn : k = n := by omega
        have HM : Hid (¬ x ∈ xs) := Lib.hid (fun hm => by
          obtain ⟨j, hj, e⟩ := List.getElem_of_mem hm
          have h1 := HA.out j (by have := HN.out; omega)
          apply h1
          rw [← e]
          simp [List.getD, List.getElem?_eq_getElem hj])
        go_wp2_with fail
        go_ret
        exact ⟨ret_boolH (decide_eq_false HM.out).symm, Below.refl _ _⟩
end Go.Proofs.Ytelaihfjlkppiaa
