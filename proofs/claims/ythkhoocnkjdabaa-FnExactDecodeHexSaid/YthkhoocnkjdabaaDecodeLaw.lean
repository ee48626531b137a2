/- The walk of laws.FnExactDecodeHex over the two contracts. -/
import Derived.Test.YthkhoocnkjdabaaDecodeWalks
import Derived.Test.YthkhoocnkjdabaaSDecodeWalks
namespace Go.Proofs.Ythkhoocnkjdabaa
open Go.RowKit
set_option linter.unusedVariables false
theorem walk_FnExactDecodeHex (s : ByteArray) (hs : s.size ≤ maxLen) (w : World) :
    Calls Try.prog 5 #[.string s] w fun e w' => e = .returned (.bool true) ∧ Below w.heap.size w w' := by
  have hs' := hs
  unfold maxLen at hs'
  by_cases h1 : 1048576 < s.size
  · go_enter Try.func5, Try.ntmps5
    go_wp2_with fail
    go_ret
    exact ⟨rfl, Below.refl _ _⟩
  · go_enter Try.func5, Try.ntmps5
    go_wp2_with fail
    refine (sdecode_any _ _ hs).mono ?_
    rintro e w1 ⟨rfl, hb1⟩
    go_wp2_with fail
    refine (decode_any _ _ hs).mono ?_
    rintro e w2 ⟨rfl, hb2⟩
    go_wp2_with fail
    go_ret
    exact ⟨rfl, hb1.trans (hb2.mono hb1.size)⟩
end Go.Proofs.Ythkhoocnkjdabaa
