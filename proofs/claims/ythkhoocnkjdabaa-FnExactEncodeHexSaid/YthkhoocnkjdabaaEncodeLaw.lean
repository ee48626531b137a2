/- The walk of laws.FnExactEncodeHex over the two contracts. -/
import Derived.Test.YthkhoocnkjdabaaEncodeWalks
import Derived.Test.YthkhoocnkjdabaaSEncodeWalks
namespace Go.Proofs.Ythkhoocnkjdabaa
open Go.RowKit
set_option linter.unusedVariables false
theorem walk_FnExactEncodeHex (s : ByteArray) (hs : s.size ≤ maxLen) (w : World) :
    Calls Try.prog 4 #[.string s] w fun e w' => e = .returned (.bool true) ∧ Below w.heap.size w w' := by
  have hs' := hs
  unfold maxLen at hs'
  by_cases h1 : 1048576 < s.size
  · go_enter Try.func4, Try.ntmps4
    go_wp2_with fail
    go_ret
    exact ⟨rfl, Below.refl _ _⟩
  · by_cases h2 : 20000 < s.size
    · go_enter Try.func4, Try.ntmps4
      go_wp2_with fail
      refine (sencode_long _ _ h2 hs).mono ?_
      rintro e w' ⟨rfl, rfl⟩
      go_wp2_with fail
      refine (encode_long _ _ h2 hs).mono ?_
      rintro e w' ⟨rfl, rfl⟩
      go_wp2_with fail
      go_ret
      exact ⟨rfl, Below.refl _ _⟩
    · have h3 : s.size ≤ 20000 := by omega
      go_enter Try.func4, Try.ntmps4
      go_wp2_with fail
      refine (sencode_ok _ _ h3).mono ?_
      rintro e w1 ⟨rfl, hb1⟩
      go_wp2_with fail
      refine (encode_ok _ _ h3).mono ?_
      rintro e w2 ⟨rfl, hb2⟩
      go_wp2_with fail
      go_ret
      exact ⟨rfl, hb1.trans (hb2.mono hb1.size)⟩
end Go.Proofs.Ythkhoocnkjdabaa
