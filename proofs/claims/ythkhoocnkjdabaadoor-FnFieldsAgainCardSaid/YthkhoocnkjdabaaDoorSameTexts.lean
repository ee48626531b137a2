/- Contract of laws.sameTexts over two slices of strings that the call owns. -/
import Derived.Test.YthkhoocnkjdabaaDoorProg
import Derived.Test.YthkhoocnkjdabaaDoorOwnStr
import Derived.Deep.QuietTactic
import Derived.BigQuiet
import Derived.Lib.Hide
namespace Go.Proofs.YthkhoocnkjdabaaDoor
open Go.RowKit
set_option linter.unusedVariables false
set_option maxHeartbeats 400000 in
theorem sameTexts_eq (w : World) (b1 b2 : Nat) (e1 e2 : TypeId) (v1 v2 : Value) (n : Nat) (xs : List ByteArray) (hn : xs.length = n) (hn' : n ≤ 1000000) (h1 : w.ownsRow b1 e1 1 v1 n (strCs xs)) (h2 : w.ownsRow b2 e2 1 v2 n (strCs xs)) :
    Calls Tryd.prog 17 #[v1, v2] w fun e w' => e = .returned (.bool true) ∧ Below w.heap.size w w' := by
  have HN := Lib.hid hn
  clear hn
  rcases Nat.eq_zero_or_pos n with h0 | h0
  · obtain ⟨p1, c1, rfl⟩ := own_zero h1 h0
    obtain ⟨p2, c2, rfl⟩ := own_zero h2 h0
    clear h1 h2 h0
    go_enter Tryd.func17, Tryd.ntmps17
    go_wp2
    refine wp_loop_rounds 1 ?_
    rw [rounds_succ]
    go_wp2
    go_ret
    exact ⟨rfl, Below.refl _ _⟩
  · obtain ⟨g1, c1, rfl, _, _⟩ := own_pos h1 h0
    obtain ⟨g2, c2, rfl, _, _⟩ := own_pos h2 h0
    have t0 : ((n : Int) != (n : Int)) = false := by simp
    go_enter Tryd.func17, Tryd.ntmps17
    go_wp2
    go_loopw [5] (fun i wr => ∃ k d : Nat, k ≤ n ∧ i = .int .i64 k ∧ wr = w.drewN d) (fun i _ => n - (intOf i).toNat)
    case atStart => exact ⟨0, 0, Nat.zero_le _, rfl, rfl⟩
    case round =>
      obtain ⟨k, d, hk, rfl, rfl⟩ := hrel
      by_cases hlt : k < n
      · have q1 := own_cell h1 HN.out k hlt
        have q2 := own_cell h2 HN.out k hlt
        have hl : k < xs.length := by have := HN.out; omega
        generalize xs[k] = s at q1 q2
        have q3 : (k : Int) < n := by omega
        go_wp2_with fail
        go_quiet (fail)
        go_wp2_with fail
        go_roundw
        case rel => exact ⟨k + 1, _, by omega, by go_num, rfl⟩
        case measure => simp [intOf]; omega
      · have q3 : ¬ (k : Int) < n := by omega
        go_wp2_with fail
        go_ret
        exact ⟨rfl, ⟨rfl, rfl, rfl, Nat.le_refl _, fun _ _ => rfl⟩⟩
end Go.Proofs.YthkhoocnkjdabaaDoor
