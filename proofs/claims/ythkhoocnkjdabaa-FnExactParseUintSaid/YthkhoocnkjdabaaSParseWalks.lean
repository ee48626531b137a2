/- Contract of spec.ParseUint. -/
import Derived.Test.YthkhoocnkjdabaaProg
import Derived.Test.YthkhoocnkjdabaaParMath
import Derived.Test.YthkhoocnkjdabaaSFormatWalks
import Derived.WalkKit
import Derived.Below
import Derived.Lib.Hide
import Derived.Outline
namespace Go.Proofs.Ythkhoocnkjdabaa
open Go.RowKit
set_option linter.unusedVariables false
set_option maxHeartbeats 400000 in
theorem sparse_any (s : ByteArray) (w : World) (hs : s.size ≤ maxLen) : Calls Try.prog 16 #[.string s] w fun e w' => e = .returned (.tuple #[.int .i64 (parV s.data.toList).1, .bool (parV s.data.toList).2]) ∧ Below w.heap.size w w' := by
  unfold maxLen at hs
  by_cases h0 : 10 < s.size
  · have Hf := Lib.hid (parV_no (par_long h0))
    go_enter Try.func16, Try.ntmps16
    go_wp2
    go_ret2
    exact ⟨ret_par Hf.out, Below.refl _ _⟩
  · have hst := parTo_zero s
    have h1 : s.size ≤ 10 := by omega
    go_enter Try.func16, Try.ntmps16
    go_wp2
    go_loop [4, 5] (fun x i => ∃ k n : Nat, k ≤ s.size ∧ n < 10000000000 ∧ i = .int .i64 k ∧ x = .int .i64 n ∧ ParTo s k n) (fun _ i => s.size - (intOf i).toNat)
    case atStart => exact ⟨0, 0, Nat.zero_le _, by omega, rfl, rfl, hst⟩
    case round =>
      obtain ⟨k, n, hk, hn, rfl, rfl, hto⟩ := hrel
      clear hst
      by_cases hlt : k < s.size
      · rcases (show (s[k].toNat < 48 ∨ 57 < s[k].toNat) ∨ (48 ≤ s[k].toNat ∧ s[k].toNat ≤ 57) from by omega) with hd | hd
        · have Hf := Lib.hid (parV_no (parTo_bad hlt hd))
          rcases hd with hd | hd
          all_goals
            go_wp2
            go_ret2
            exact ⟨ret_par Hf.out, Below.refl _ _⟩
        · have hto' := parTo_step hto hlt hd
          have hn' : 10 * n + (s[k].toNat - 48) < 10000000000 := by
            have h3 := parTo_lt hto'
            have h4 : 10 ^ (k + 1) ≤ 10 ^ 10 := Nat.pow_le_pow_right (by omega) (by omega)
            omega
          obtain ⟨hd1, hd2⟩ := hd
          have q1 : IntKind.i64.wrap (s[k].toNat : Int) = (s[k].toNat : Int) := IntWalk.i64_in _ ⟨by omega, by omega⟩
          go_wp2
          go_round
          case rel => exact ⟨k + 1, 10 * n + (s[k].toNat - 48), by omega, by omega, by go_num, by go_num, hto'⟩
          case measure => simp [intOf]; omega
      · by_cases hov : 1000000000 < n
        · have Hf := Lib.hid (parV_no (parTo_over hto hov))
          go_wp2
          go_ret2
          exact ⟨ret_par Hf.out, Below.refl _ _⟩
        · have hi := par_fmt hto (by omega)
          cases hc : canonB s.data.toList
          · have Hf := Lib.hid (parV_no (okU_not_canon hc))
            have hne : (Lib.itoa (n : Int) == s.toList) = false := by
              rw [beq_eq_false_iff_ne, Lib.itoa_nonneg, ByteArray.toList_eq]
              exact fun h => by rw [hi.1 h] at hc; cases hc
            clear hi hc
            go_wp2_with (go_at_call 31; refine (sformat_any _ (by omega) (by omega) _).mono ?_; rintro e w' ⟨rfl, hb⟩)
            go_ret2
            exact ⟨ret_par Hf.out, hb⟩
          · have Hf := Lib.hid (parTo_end hto (by omega) (by omega) hc)
            have hne : (Lib.itoa (n : Int) == s.toList) = true := by
              rw [beq_iff_eq, Lib.itoa_nonneg, ByteArray.toList_eq]
              exact hi.2 hc
            clear hi hc
            go_wp2_with (go_at_call 31; refine (sformat_any _ (by omega) (by omega) _).mono ?_; rintro e w' ⟨rfl, hb⟩)
            go_ret2
            exact ⟨ret_par Hf.out, hb⟩
end Go.Proofs.Ythkhoocnkjdabaa
