/-
  No cell of these rows narrows 'for every input' (looked for: loops, veiled, ifaces, maps, wideKeys, modest, calm, conditions, laid).
  DERIVED. THE GIVEN ROWS OF THIS SEAT. 7 by the template 'for every input the law returns true; each argument reads behind the call as it read before'; 0 by the template 'total and deterministic' (their statements: YtbklnlmijkclmaaTotals.lean).
  GIVEN WITH THE SEED: the statements are not yours to turn. If you find one false, say at which input.
  Laid BY PROGRAM, IN A SANDBOX (cutbox-rows.mjs): the forced cells as the released guide's own fill.sh prints them over the translation 90dd1f04c7e82268… (all of the seat's roots in one cut). By AI agents, Wed Nov 11 2026. No macro, syntax, notation, axiom, sorry.
-/
import Derived.Test.YtbklnlmijkclmaaChecked
import GoSem.Claim
import GoSem.ClaimJoined
import GoSem.ClaimMapViews
import Derived.JoinedTies
import Derived.KernelRfl
namespace Go.Proofs.Ytbklnlmijkclmaa
/- THE CELL 'sum', in the pinned program and in every row, IS THE sha256 OF THE DUMP (.gsa) THAT YtbklnlmijkclmaaProg.lean LOADS. Nothing in Lean hashes anything: it is a label: what it is worth is what the hold of that sum in a sandbox is worth. -/
noncomputable def Try.pinned : Pinned := { name := "ytbklnlmijkclmaa", sum := "90dd1f04c7e822687c22ad87a2a146c64dff6aea2b8853f6876c95d5d46846df", checked := Try.checked }
namespace Rows
def none {H : Type} : Left H := { results := [], args := [] }

/-- 'laws.FnSpread': WHATEVER THE INPUT: true; the input reads as it did. -/
def fnSpreadSpec : ChangeSpec := { name := "fnSpread", fn := fun _ => fun
  | [d] => { results := [.lit (.bool true)], args := [d] }
  | _ => none }
def fnSpreadRow : OpenClaim := { program := "ytbklnlmijkclmaa", sum := "90dd1f04c7e822687c22ad87a2a146c64dff6aea2b8853f6876c95d5d46846df", func := "loop.example/g00989/laws.FnSpread", spec := "fnSpread", unfollowed := true, recurses := true, apart := false }
def FnSpreadSaid : Prop := fnSpreadRow.holds Try.pinned (OpenSpec.ofChange fnSpreadSpec)

/-- ITS FALSE NEIGHBOUR: 'it returns false'. Refute it at one input. -/
def fnSpreadWrong : ChangeSpec := { name := "fnSpread", fn := fun _ => fun
  | [d] => { results := [.lit (.bool false)], args := [d] }
  | _ => none }
def FnSpreadWrongFalsely : Prop := fnSpreadRow.holds Try.pinned (OpenSpec.ofChange fnSpreadWrong)

/-- 'laws.FnDepths': WHATEVER THE INPUT: true; the input reads as it did. -/
def fnDepthsSpec : ChangeSpec := { name := "fnDepths", fn := fun _ => fun
  | [d] => { results := [.lit (.bool true)], args := [d] }
  | _ => none }
def fnDepthsRow : OpenClaim := { program := "ytbklnlmijkclmaa", sum := "90dd1f04c7e822687c22ad87a2a146c64dff6aea2b8853f6876c95d5d46846df", func := "loop.example/g00989/laws.FnDepths", spec := "fnDepths", unfollowed := true, recurses := true, apart := false }
def FnDepthsSaid : Prop := fnDepthsRow.holds Try.pinned (OpenSpec.ofChange fnDepthsSpec)

/-- ITS FALSE NEIGHBOUR: 'it returns false'. Refute it at one input. -/
def fnDepthsWrong : ChangeSpec := { name := "fnDepths", fn := fun _ => fun
  | [d] => { results := [.lit (.bool false)], args := [d] }
  | _ => none }
def FnDepthsWrongFalsely : Prop := fnDepthsRow.holds Try.pinned (OpenSpec.ofChange fnDepthsWrong)

/-- 'laws.FnExactDepthOf': WHATEVER THE INPUT: true; the input reads as it did. -/
def fnExactDepthOfSpec : ChangeSpec := { name := "fnExactDepthOf", fn := fun _ => fun
  | [d1, d2] => { results := [.lit (.bool true)], args := [d1, d2] }
  | _ => none }
def fnExactDepthOfRow : OpenClaim := { program := "ytbklnlmijkclmaa", sum := "90dd1f04c7e822687c22ad87a2a146c64dff6aea2b8853f6876c95d5d46846df", func := "loop.example/g00989/laws.FnExactDepthOf", spec := "fnExactDepthOf", unfollowed := true, recurses := true, apart := false }
def FnExactDepthOfSaid : Prop := fnExactDepthOfRow.holds Try.pinned (OpenSpec.ofChange fnExactDepthOfSpec)

/-- ITS FALSE NEIGHBOUR: 'it returns false'. Refute it at one input. -/
def fnExactDepthOfWrong : ChangeSpec := { name := "fnExactDepthOf", fn := fun _ => fun
  | [d1, d2] => { results := [.lit (.bool false)], args := [d1, d2] }
  | _ => none }
def FnExactDepthOfWrongFalsely : Prop := fnExactDepthOfRow.holds Try.pinned (OpenSpec.ofChange fnExactDepthOfWrong)

/-- 'laws.FnExactMistune': WHATEVER THE INPUT: true; the input reads as it did. -/
def fnExactMistuneSpec : ChangeSpec := { name := "fnExactMistune", fn := fun _ => fun
  | [d1, d2, d3] => { results := [.lit (.bool true)], args := [d1, d2, d3] }
  | _ => none }
def fnExactMistuneRow : OpenClaim := { program := "ytbklnlmijkclmaa", sum := "90dd1f04c7e822687c22ad87a2a146c64dff6aea2b8853f6876c95d5d46846df", func := "loop.example/g00989/laws.FnExactMistune", spec := "fnExactMistune", apart := false }
def FnExactMistuneSaid : Prop := fnExactMistuneRow.holds Try.pinned (OpenSpec.ofChange fnExactMistuneSpec)

/-- ITS FALSE NEIGHBOUR: 'it returns false'. Refute it at one input. -/
def fnExactMistuneWrong : ChangeSpec := { name := "fnExactMistune", fn := fun _ => fun
  | [d1, d2, d3] => { results := [.lit (.bool false)], args := [d1, d2, d3] }
  | _ => none }
def FnExactMistuneWrongFalsely : Prop := fnExactMistuneRow.holds Try.pinned (OpenSpec.ofChange fnExactMistuneWrong)

/-- 'laws.FnExactAffectedKeys': WHATEVER THE INPUT: true; the input reads as it did. -/
def fnExactAffectedKeysSpec : ChangeSpec := { name := "fnExactAffectedKeys", fn := fun _ => fun
  | [d1, d2] => { results := [.lit (.bool true)], args := [d1, d2] }
  | _ => none }
def fnExactAffectedKeysRow : OpenClaim := { program := "ytbklnlmijkclmaa", sum := "90dd1f04c7e822687c22ad87a2a146c64dff6aea2b8853f6876c95d5d46846df", func := "loop.example/g00989/laws.FnExactAffectedKeys", spec := "fnExactAffectedKeys", unfollowed := true, recurses := true, apart := false }
def FnExactAffectedKeysSaid : Prop := fnExactAffectedKeysRow.holds Try.pinned (OpenSpec.ofChange fnExactAffectedKeysSpec)

/-- ITS FALSE NEIGHBOUR: 'it returns false'. Refute it at one input. -/
def fnExactAffectedKeysWrong : ChangeSpec := { name := "fnExactAffectedKeys", fn := fun _ => fun
  | [d1, d2] => { results := [.lit (.bool false)], args := [d1, d2] }
  | _ => none }
def FnExactAffectedKeysWrongFalsely : Prop := fnExactAffectedKeysRow.holds Try.pinned (OpenSpec.ofChange fnExactAffectedKeysWrong)

/-- 'laws.FnExactErrorBound': WHATEVER THE INPUT: true; the input reads as it did. -/
def fnExactErrorBoundSpec : ChangeSpec := { name := "fnExactErrorBound", fn := fun _ => fun
  | [d1, d2, d3] => { results := [.lit (.bool true)], args := [d1, d2, d3] }
  | _ => none }
def fnExactErrorBoundRow : OpenClaim := { program := "ytbklnlmijkclmaa", sum := "90dd1f04c7e822687c22ad87a2a146c64dff6aea2b8853f6876c95d5d46846df", func := "loop.example/g00989/laws.FnExactErrorBound", spec := "fnExactErrorBound", unfollowed := true, recurses := true, apart := false }
def FnExactErrorBoundSaid : Prop := fnExactErrorBoundRow.holds Try.pinned (OpenSpec.ofChange fnExactErrorBoundSpec)

/-- ITS FALSE NEIGHBOUR: 'it returns false'. Refute it at one input. -/
def fnExactErrorBoundWrong : ChangeSpec := { name := "fnExactErrorBound", fn := fun _ => fun
  | [d1, d2, d3] => { results := [.lit (.bool false)], args := [d1, d2, d3] }
  | _ => none }
def FnExactErrorBoundWrongFalsely : Prop := fnExactErrorBoundRow.holds Try.pinned (OpenSpec.ofChange fnExactErrorBoundWrong)

/-- 'laws.FnExactDeepestKey': WHATEVER THE INPUT: true; the input reads as it did. -/
def fnExactDeepestKeySpec : ChangeSpec := { name := "fnExactDeepestKey", fn := fun _ => fun
  | [d] => { results := [.lit (.bool true)], args := [d] }
  | _ => none }
def fnExactDeepestKeyRow : OpenClaim := { program := "ytbklnlmijkclmaa", sum := "90dd1f04c7e822687c22ad87a2a146c64dff6aea2b8853f6876c95d5d46846df", func := "loop.example/g00989/laws.FnExactDeepestKey", spec := "fnExactDeepestKey", unfollowed := true, recurses := true, apart := false }
def FnExactDeepestKeySaid : Prop := fnExactDeepestKeyRow.holds Try.pinned (OpenSpec.ofChange fnExactDeepestKeySpec)

/-- ITS FALSE NEIGHBOUR: 'it returns false'. Refute it at one input. -/
def fnExactDeepestKeyWrong : ChangeSpec := { name := "fnExactDeepestKey", fn := fun _ => fun
  | [d] => { results := [.lit (.bool false)], args := [d] }
  | _ => none }
def FnExactDeepestKeyWrongFalsely : Prop := fnExactDeepestKeyRow.holds Try.pinned (OpenSpec.ofChange fnExactDeepestKeyWrong)

/- THE SECOND FORM. 'bulk': how many values and letters a reading holds, each counted each time it is reached (what is shared counts as often as it is met; a slice's spare places count too). A statement '..UptoSaid' is the law's where the arguments, and the package variables that the reading takes, are together of bulk at most 1048576: NARROWER than '..Said'. Prove '..Said' where nothing that the law and all that it calls make is longer than what came in: it says more and counts as full. Else prove '..UptoSaid'. A law counts once. -/
mutual
def uptoBulk {H : Type} : DataW H → Nat
  | .lit (.string bytes) => bytes.length + 1
  | .lit _ => 1
  | .nil => 1
  | .ptr d => uptoBulk d + 1
  | .slice elems spare => uptoBulkAll elems + uptoBulkAll spare + 1
  | .agg parts => uptoBulkAll parts + 1
  | .iface _ d => uptoBulk d + 1
  | .map entries => uptoBulkEntries entries + 1
  | .held _ => 1
def uptoBulkAll {H : Type} : List (DataW H) → Nat
  | [] => 0
  | d :: r => uptoBulk d + uptoBulkAll r
def uptoBulkEntries {H : Type} : List (Lit × DataW H) → Nat
  | [] => 0
  | x :: r => uptoBulkEntry x + uptoBulkEntries r
def uptoBulkEntry {H : Type} : Lit × DataW H → Nat
  | (.string bytes, d) => bytes.length + uptoBulk d + 1
  | (_, d) => uptoBulk d + 1
 end
def uptoSmall : (H : Type) → List (DataW H) → Bool := fun _ ds => decide (uptoBulkAll ds ≤ 1048576)
def OpenSpec.upto (s : _root_.Go.ChangeSpec) : _root_.Go.OpenSpec := { _root_.Go.OpenSpec.ofChange s with cond := some uptoSmall }

/-- 'laws.FnSpread', WHERE WHAT IT READS IS OF BULK AT MOST 1048576: true; the input reads as it did. -/
def fnSpreadUptoRow : OpenClaim := { program := "ytbklnlmijkclmaa", sum := "90dd1f04c7e822687c22ad87a2a146c64dff6aea2b8853f6876c95d5d46846df", func := "loop.example/g00989/laws.FnSpread", spec := "fnSpread", unfollowed := true, recurses := true, apart := false, narrowed := true }
def FnSpreadUptoSaid : Prop := fnSpreadUptoRow.holds Try.pinned (OpenSpec.upto fnSpreadSpec)

/-- 'laws.FnDepths', WHERE WHAT IT READS IS OF BULK AT MOST 1048576: true; the input reads as it did. -/
def fnDepthsUptoRow : OpenClaim := { program := "ytbklnlmijkclmaa", sum := "90dd1f04c7e822687c22ad87a2a146c64dff6aea2b8853f6876c95d5d46846df", func := "loop.example/g00989/laws.FnDepths", spec := "fnDepths", unfollowed := true, recurses := true, apart := false, narrowed := true }
def FnDepthsUptoSaid : Prop := fnDepthsUptoRow.holds Try.pinned (OpenSpec.upto fnDepthsSpec)

/-- 'laws.FnExactDepthOf', WHERE WHAT IT READS IS OF BULK AT MOST 1048576: true; the input reads as it did. -/
def fnExactDepthOfUptoRow : OpenClaim := { program := "ytbklnlmijkclmaa", sum := "90dd1f04c7e822687c22ad87a2a146c64dff6aea2b8853f6876c95d5d46846df", func := "loop.example/g00989/laws.FnExactDepthOf", spec := "fnExactDepthOf", unfollowed := true, recurses := true, apart := false, narrowed := true }
def FnExactDepthOfUptoSaid : Prop := fnExactDepthOfUptoRow.holds Try.pinned (OpenSpec.upto fnExactDepthOfSpec)

/-- 'laws.FnExactMistune', WHERE WHAT IT READS IS OF BULK AT MOST 1048576: true; the input reads as it did. -/
def fnExactMistuneUptoRow : OpenClaim := { program := "ytbklnlmijkclmaa", sum := "90dd1f04c7e822687c22ad87a2a146c64dff6aea2b8853f6876c95d5d46846df", func := "loop.example/g00989/laws.FnExactMistune", spec := "fnExactMistune", apart := false, narrowed := true }
def FnExactMistuneUptoSaid : Prop := fnExactMistuneUptoRow.holds Try.pinned (OpenSpec.upto fnExactMistuneSpec)

/-- 'laws.FnExactAffectedKeys', WHERE WHAT IT READS IS OF BULK AT MOST 1048576: true; the input reads as it did. -/
def fnExactAffectedKeysUptoRow : OpenClaim := { program := "ytbklnlmijkclmaa", sum := "90dd1f04c7e822687c22ad87a2a146c64dff6aea2b8853f6876c95d5d46846df", func := "loop.example/g00989/laws.FnExactAffectedKeys", spec := "fnExactAffectedKeys", unfollowed := true, recurses := true, apart := false, narrowed := true }
def FnExactAffectedKeysUptoSaid : Prop := fnExactAffectedKeysUptoRow.holds Try.pinned (OpenSpec.upto fnExactAffectedKeysSpec)

/-- 'laws.FnExactErrorBound', WHERE WHAT IT READS IS OF BULK AT MOST 1048576: true; the input reads as it did. -/
def fnExactErrorBoundUptoRow : OpenClaim := { program := "ytbklnlmijkclmaa", sum := "90dd1f04c7e822687c22ad87a2a146c64dff6aea2b8853f6876c95d5d46846df", func := "loop.example/g00989/laws.FnExactErrorBound", spec := "fnExactErrorBound", unfollowed := true, recurses := true, apart := false, narrowed := true }
def FnExactErrorBoundUptoSaid : Prop := fnExactErrorBoundUptoRow.holds Try.pinned (OpenSpec.upto fnExactErrorBoundSpec)

/-- 'laws.FnExactDeepestKey', WHERE WHAT IT READS IS OF BULK AT MOST 1048576: true; the input reads as it did. -/
def fnExactDeepestKeyUptoRow : OpenClaim := { program := "ytbklnlmijkclmaa", sum := "90dd1f04c7e822687c22ad87a2a146c64dff6aea2b8853f6876c95d5d46846df", func := "loop.example/g00989/laws.FnExactDeepestKey", spec := "fnExactDeepestKey", unfollowed := true, recurses := true, apart := false, narrowed := true }
def FnExactDeepestKeyUptoSaid : Prop := fnExactDeepestKeyUptoRow.holds Try.pinned (OpenSpec.upto fnExactDeepestKeySpec)

end Rows
end Go.Proofs.Ytbklnlmijkclmaa
