/- Contract of impl.ParseUint. -/
import Derived.Test.YthkhoocnkjdabaaDoorProg
import Derived.Test.YthkhoocnkjdabaaDoorParMath
import Derived.WalkKit
import Derived.Below
import Derived.Lib.Hide
import Derived.Outline
namespace Go.Proofs.YthkhoocnkjdabaaDoor
open Go.RowKit
set_option linter.unusedVariables false
set_option maxHeartbeats 400000 in
theorem parse_any (s : ByteArray) (w : World) (hs : s.size ≤ maxLen) : Calls Tryd.prog 13 #[.string s] w fun e w' => e = .returned (.tuple #[.int .i64 (parV s.data.toList).1, .bool (parV s.data.toList).2]) ∧ w = w' := by
  unfold maxLen at hs
  by_cases h0 : s.size = 0
  · have Hf := Lib.hid (parV_no (okU_not_canon (not_canon_nil s h0)))
    have t1 := tl_nil s h0
    clear h0
    go_enter Tryd.func13, Tryd.ntmps13
    go_wp2
    go_ret2
    exact ⟨ret_par Hf.out, rfl⟩
  · have hp : 0 < s.size := by omega
    have t1 := tl_ne s hp
    have t2 := tl_ne' s hp
    by_cases h1 : 1 < s.size ∧ s[0].toNat = 48
    · obtain ⟨h1, h2⟩ := h1
      have Hf := Lib.hid (parV_no (okU_not_canon (not_canon_of s h1 h2)))
      have t3 : ((s[0].toNat : Int) == 48) = true := by simp; omega
      clear h2 h0
      go_enter Tryd.func13, Tryd.ntmps13
      go_wp2
      go_ret2
      exact ⟨ret_par Hf.out, rfl⟩
    · have Hc := Lib.hid (canon_of s hp (by omega))
      have hst := parTo_zero s
      have hor : (¬ 1 < s.size) ∨ (1 < s.size ∧ ((s[0].toNat : Int) == 48) = false) := by
        rcases (show s.size = 1 ∨ (1 < s.size ∧ s[0].toNat ≠ 48) from by omega) with h2 | ⟨h2, h3⟩
        · left; omega
        · right; exact ⟨h2, by simp; omega⟩
      clear h1 h0
      rcases hor with h2 | ⟨h2, t3⟩
      all_goals
        go_enter Tryd.func13, Tryd.ntmps13
        go_wp2
        go_loop [4, 5] (fun x i => ∃ k n : Nat, k ≤ s.size ∧ n ≤ 1000000000 ∧ i = .int .i64 k ∧ x = .int .i64 n ∧ ParTo s k n) (fun _ i => s.size - (intOf i).toNat)
        case atStart => exact ⟨0, 0, Nat.zero_le _, by omega, rfl, rfl, hst⟩
        case round =>
          obtain ⟨k, n, hk, hn, rfl, rfl, hto⟩ := hrel
          clear hst
          by_cases hlt : k < s.size
          · rcases (show (s[k].toNat < 48 ∨ 57 < s[k].toNat) ∨ (48 ≤ s[k].toNat ∧ s[k].toNat ≤ 57) from by omega) with hd | hd
            · have Hf := Lib.hid (parV_no (parTo_bad hlt hd))
              rcases hd with hd | hd
              all_goals
                go_wp2
                go_ret2
                exact ⟨ret_par Hf.out, rfl⟩
            · have hto' := parTo_step hto hlt hd
              obtain ⟨hd1, hd2⟩ := hd
              have q1 : IntKind.u8.wrap ((s[k].toNat : Int) - 48) = (s[k].toNat : Int) - 48 := IntWalk.u8_in _ ⟨by omega, by omega⟩
              by_cases hov : 1000000000 < 10 * n + (s[k].toNat - 48)
              · have Hf := Lib.hid (parV_no (parTo_over hto' hov))
                have hov' : (1000000000 : Int) < (n : Int) * 10 + ((s[k].toNat : Int) - 48) := by omega
                go_wp2
                go_ret2
                exact ⟨ret_par Hf.out, rfl⟩
              · have hov' : ¬ (1000000000 : Int) < (n : Int) * 10 + ((s[k].toNat : Int) - 48) := by omega
                go_wp2
                go_round
                case rel => exact ⟨k + 1, 10 * n + (s[k].toNat - 48), by omega, by omega, by go_num, by go_num, hto'⟩
                case measure => simp [intOf]; omega
          · have Hf := Lib.hid (parTo_end hto (by omega) hn Hc.out)
            go_wp2
            go_ret2
            exact ⟨ret_par Hf.out, rfl⟩
end Go.Proofs.YthkhoocnkjdabaaDoor
