/-
  No cell of these rows narrows 'for every input' (looked for: loops, veiled, ifaces, maps, wideKeys, modest, calm, conditions, laid).
  DERIVED. THE GIVEN ROWS OF THIS SEAT. 6 by the template 'for every input the law returns true; each argument reads behind the call as it read before'; 0 by the template 'total and deterministic' (their statements: YtekecdkbnlpipaaTotals.lean).
  GIVEN WITH THE SEED: the statements are not yours to turn. If you find one false, say at which input.
  Laid BY PROGRAM, IN A SANDBOX (cutbox-rows.mjs): the forced cells as the released guide's own fill.sh prints them over the translation cfb0cef50c215558… (all of the seat's roots in one cut). By AI agents, Wed Nov 11 2026. No macro, syntax, notation, axiom, sorry.
-/
import Derived.Test.YtekecdkbnlpipaaChecked
import GoSem.Claim
import GoSem.ClaimJoined
import GoSem.ClaimMapViews
import Derived.JoinedTies
import Derived.KernelRfl
namespace Go.Proofs.Ytekecdkbnlpipaa
/- THE CELL 'sum', in the pinned program and in every row, IS THE sha256 OF THE DUMP (.gsa) THAT YtekecdkbnlpipaaProg.lean LOADS. Nothing in Lean hashes anything: it is a label: what it is worth is what the hold of that sum in a sandbox is worth. -/
noncomputable def Try.pinned : Pinned := { name := "ytekecdkbnlpipaa", sum := "cfb0cef50c215558181b94a9aacacbbef13d158108e0ba26b3baf617e68106bf", checked := Try.checked }
namespace Rows
def none {H : Type} : Left H := { results := [], args := [] }

/-- 'laws.FnExactMeanFifth': WHATEVER THE INPUT: true; the input reads as it did. -/
def fnExactMeanFifthSpec : ChangeSpec := { name := "fnExactMeanFifth", fn := fun _ => fun
  | [d1, d2] => { results := [.lit (.bool true)], args := [d1, d2] }
  | _ => none }
def fnExactMeanFifthRow : OpenClaim := { program := "ytekecdkbnlpipaa", sum := "cfb0cef50c215558181b94a9aacacbbef13d158108e0ba26b3baf617e68106bf", func := "loop.example/g00989/laws.FnExactMeanFifth", spec := "fnExactMeanFifth", apart := false }
def FnExactMeanFifthSaid : Prop := fnExactMeanFifthRow.holds Try.pinned (OpenSpec.ofChange fnExactMeanFifthSpec)

/-- ITS FALSE NEIGHBOUR: 'it returns false'. Refute it at one input. -/
def fnExactMeanFifthWrong : ChangeSpec := { name := "fnExactMeanFifth", fn := fun _ => fun
  | [d1, d2] => { results := [.lit (.bool false)], args := [d1, d2] }
  | _ => none }
def FnExactMeanFifthWrongFalsely : Prop := fnExactMeanFifthRow.holds Try.pinned (OpenSpec.ofChange fnExactMeanFifthWrong)

/-- 'laws.FnExactMeanTone': WHATEVER THE INPUT: true; the input reads as it did. -/
def fnExactMeanToneSpec : ChangeSpec := { name := "fnExactMeanTone", fn := fun _ => fun
  | [d1, d2, d3] => { results := [.lit (.bool true)], args := [d1, d2, d3] }
  | _ => none }
def fnExactMeanToneRow : OpenClaim := { program := "ytekecdkbnlpipaa", sum := "cfb0cef50c215558181b94a9aacacbbef13d158108e0ba26b3baf617e68106bf", func := "loop.example/g00989/laws.FnExactMeanTone", spec := "fnExactMeanTone", unfollowed := true, recurses := true, apart := false }
def FnExactMeanToneSaid : Prop := fnExactMeanToneRow.holds Try.pinned (OpenSpec.ofChange fnExactMeanToneSpec)

/-- ITS FALSE NEIGHBOUR: 'it returns false'. Refute it at one input. -/
def fnExactMeanToneWrong : ChangeSpec := { name := "fnExactMeanTone", fn := fun _ => fun
  | [d1, d2, d3] => { results := [.lit (.bool false)], args := [d1, d2, d3] }
  | _ => none }
def FnExactMeanToneWrongFalsely : Prop := fnExactMeanToneRow.holds Try.pinned (OpenSpec.ofChange fnExactMeanToneWrong)

/-- 'laws.FnExactMeanThird': WHATEVER THE INPUT: true; the input reads as it did. -/
def fnExactMeanThirdSpec : ChangeSpec := { name := "fnExactMeanThird", fn := fun _ => fun
  | [d1, d2] => { results := [.lit (.bool true)], args := [d1, d2] }
  | _ => none }
def fnExactMeanThirdRow : OpenClaim := { program := "ytekecdkbnlpipaa", sum := "cfb0cef50c215558181b94a9aacacbbef13d158108e0ba26b3baf617e68106bf", func := "loop.example/g00989/laws.FnExactMeanThird", spec := "fnExactMeanThird", unfollowed := true, recurses := true, apart := false }
def FnExactMeanThirdSaid : Prop := fnExactMeanThirdRow.holds Try.pinned (OpenSpec.ofChange fnExactMeanThirdSpec)

/-- ITS FALSE NEIGHBOUR: 'it returns false'. Refute it at one input. -/
def fnExactMeanThirdWrong : ChangeSpec := { name := "fnExactMeanThird", fn := fun _ => fun
  | [d1, d2] => { results := [.lit (.bool false)], args := [d1, d2] }
  | _ => none }
def FnExactMeanThirdWrongFalsely : Prop := fnExactMeanThirdRow.holds Try.pinned (OpenSpec.ofChange fnExactMeanThirdWrong)

/-- 'laws.FnExactWolfOf': WHATEVER THE INPUT: true; the input reads as it did. -/
def fnExactWolfOfSpec : ChangeSpec := { name := "fnExactWolfOf", fn := fun _ => fun
  | [d1, d2] => { results := [.lit (.bool true)], args := [d1, d2] }
  | _ => none }
def fnExactWolfOfRow : OpenClaim := { program := "ytekecdkbnlpipaa", sum := "cfb0cef50c215558181b94a9aacacbbef13d158108e0ba26b3baf617e68106bf", func := "loop.example/g00989/laws.FnExactWolfOf", spec := "fnExactWolfOf", unfollowed := true, recurses := true, apart := false }
def FnExactWolfOfSaid : Prop := fnExactWolfOfRow.holds Try.pinned (OpenSpec.ofChange fnExactWolfOfSpec)

/-- ITS FALSE NEIGHBOUR: 'it returns false'. Refute it at one input. -/
def fnExactWolfOfWrong : ChangeSpec := { name := "fnExactWolfOf", fn := fun _ => fun
  | [d1, d2] => { results := [.lit (.bool false)], args := [d1, d2] }
  | _ => none }
def FnExactWolfOfWrongFalsely : Prop := fnExactWolfOfRow.holds Try.pinned (OpenSpec.ofChange fnExactWolfOfWrong)

/-- 'laws.FnExactIsThirdPure': WHATEVER THE INPUT: true; the input reads as it did. -/
def fnExactIsThirdPureSpec : ChangeSpec := { name := "fnExactIsThirdPure", fn := fun _ => fun
  | [d1, d2] => { results := [.lit (.bool true)], args := [d1, d2] }
  | _ => none }
def fnExactIsThirdPureRow : OpenClaim := { program := "ytekecdkbnlpipaa", sum := "cfb0cef50c215558181b94a9aacacbbef13d158108e0ba26b3baf617e68106bf", func := "loop.example/g00989/laws.FnExactIsThirdPure", spec := "fnExactIsThirdPure", unfollowed := true, recurses := true, apart := false }
def FnExactIsThirdPureSaid : Prop := fnExactIsThirdPureRow.holds Try.pinned (OpenSpec.ofChange fnExactIsThirdPureSpec)

/-- ITS FALSE NEIGHBOUR: 'it returns false'. Refute it at one input. -/
def fnExactIsThirdPureWrong : ChangeSpec := { name := "fnExactIsThirdPure", fn := fun _ => fun
  | [d1, d2] => { results := [.lit (.bool false)], args := [d1, d2] }
  | _ => none }
def FnExactIsThirdPureWrongFalsely : Prop := fnExactIsThirdPureRow.holds Try.pinned (OpenSpec.ofChange fnExactIsThirdPureWrong)

/-- 'laws.FnMeans': WHATEVER THE INPUT: true; the input reads as it did. -/
def fnMeansSpec : ChangeSpec := { name := "fnMeans", fn := fun _ => fun
  | [d] => { results := [.lit (.bool true)], args := [d] }
  | _ => none }
def fnMeansRow : OpenClaim := { program := "ytekecdkbnlpipaa", sum := "cfb0cef50c215558181b94a9aacacbbef13d158108e0ba26b3baf617e68106bf", func := "loop.example/g00989/laws.FnMeans", spec := "fnMeans", unfollowed := true, recurses := true, apart := false }
def FnMeansSaid : Prop := fnMeansRow.holds Try.pinned (OpenSpec.ofChange fnMeansSpec)

/-- ITS FALSE NEIGHBOUR: 'it returns false'. Refute it at one input. -/
def fnMeansWrong : ChangeSpec := { name := "fnMeans", fn := fun _ => fun
  | [d] => { results := [.lit (.bool false)], args := [d] }
  | _ => none }
def FnMeansWrongFalsely : Prop := fnMeansRow.holds Try.pinned (OpenSpec.ofChange fnMeansWrong)

/- THE SECOND FORM. 'bulk': how many values and letters a reading holds, each counted each time it is reached (what is shared counts as often as it is met; a slice's spare places count too). A statement '..UptoSaid' is the law's where the arguments, and the package variables that the reading takes, are together of bulk at most 1048576: NARROWER than '..Said'. Prove '..Said' where nothing that the law and all that it calls make is longer than what came in: it says more and counts as full. Else prove '..UptoSaid'. A law counts once. -/
mutual
def uptoBulk {H : Type} : DataW H → Nat
  | .lit (.string bytes) => bytes.length + 1
  | .lit _ => 1
  | .nil => 1
  | .ptr d => uptoBulk d + 1
  | .slice elems spare => uptoBulkAll elems + uptoBulkAll spare + 1
  | .agg parts => uptoBulkAll parts + 1
  | .iface _ d => uptoBulk d + 1
  | .map entries => uptoBulkEntries entries + 1
  | .held _ => 1
def uptoBulkAll {H : Type} : List (DataW H) → Nat
  | [] => 0
  | d :: r => uptoBulk d + uptoBulkAll r
def uptoBulkEntries {H : Type} : List (Lit × DataW H) → Nat
  | [] => 0
  | x :: r => uptoBulkEntry x + uptoBulkEntries r
def uptoBulkEntry {H : Type} : Lit × DataW H → Nat
  | (.string bytes, d) => bytes.length + uptoBulk d + 1
  | (_, d) => uptoBulk d + 1
 end
def uptoSmall : (H : Type) → List (DataW H) → Bool := fun _ ds => decide (uptoBulkAll ds ≤ 1048576)
def OpenSpec.upto (s : _root_.Go.ChangeSpec) : _root_.Go.OpenSpec := { _root_.Go.OpenSpec.ofChange s with cond := some uptoSmall }

/-- 'laws.FnExactMeanFifth', WHERE WHAT IT READS IS OF BULK AT MOST 1048576: true; the input reads as it did. -/
def fnExactMeanFifthUptoRow : OpenClaim := { program := "ytekecdkbnlpipaa", sum := "cfb0cef50c215558181b94a9aacacbbef13d158108e0ba26b3baf617e68106bf", func := "loop.example/g00989/laws.FnExactMeanFifth", spec := "fnExactMeanFifth", apart := false, narrowed := true }
def FnExactMeanFifthUptoSaid : Prop := fnExactMeanFifthUptoRow.holds Try.pinned (OpenSpec.upto fnExactMeanFifthSpec)

/-- 'laws.FnExactMeanTone', WHERE WHAT IT READS IS OF BULK AT MOST 1048576: true; the input reads as it did. -/
def fnExactMeanToneUptoRow : OpenClaim := { program := "ytekecdkbnlpipaa", sum := "cfb0cef50c215558181b94a9aacacbbef13d158108e0ba26b3baf617e68106bf", func := "loop.example/g00989/laws.FnExactMeanTone", spec := "fnExactMeanTone", unfollowed := true, recurses := true, apart := false, narrowed := true }
def FnExactMeanToneUptoSaid : Prop := fnExactMeanToneUptoRow.holds Try.pinned (OpenSpec.upto fnExactMeanToneSpec)

/-- 'laws.FnExactMeanThird', WHERE WHAT IT READS IS OF BULK AT MOST 1048576: true; the input reads as it did. -/
def fnExactMeanThirdUptoRow : OpenClaim := { program := "ytekecdkbnlpipaa", sum := "cfb0cef50c215558181b94a9aacacbbef13d158108e0ba26b3baf617e68106bf", func := "loop.example/g00989/laws.FnExactMeanThird", spec := "fnExactMeanThird", unfollowed := true, recurses := true, apart := false, narrowed := true }
def FnExactMeanThirdUptoSaid : Prop := fnExactMeanThirdUptoRow.holds Try.pinned (OpenSpec.upto fnExactMeanThirdSpec)

/-- 'laws.FnExactWolfOf', WHERE WHAT IT READS IS OF BULK AT MOST 1048576: true; the input reads as it did. -/
def fnExactWolfOfUptoRow : OpenClaim := { program := "ytekecdkbnlpipaa", sum := "cfb0cef50c215558181b94a9aacacbbef13d158108e0ba26b3baf617e68106bf", func := "loop.example/g00989/laws.FnExactWolfOf", spec := "fnExactWolfOf", unfollowed := true, recurses := true, apart := false, narrowed := true }
def FnExactWolfOfUptoSaid : Prop := fnExactWolfOfUptoRow.holds Try.pinned (OpenSpec.upto fnExactWolfOfSpec)

/-- 'laws.FnExactIsThirdPure', WHERE WHAT IT READS IS OF BULK AT MOST 1048576: true; the input reads as it did. -/
def fnExactIsThirdPureUptoRow : OpenClaim := { program := "ytekecdkbnlpipaa", sum := "cfb0cef50c215558181b94a9aacacbbef13d158108e0ba26b3baf617e68106bf", func := "loop.example/g00989/laws.FnExactIsThirdPure", spec := "fnExactIsThirdPure", unfollowed := true, recurses := true, apart := false, narrowed := true }
def FnExactIsThirdPureUptoSaid : Prop := fnExactIsThirdPureUptoRow.holds Try.pinned (OpenSpec.upto fnExactIsThirdPureSpec)

/-- 'laws.FnMeans', WHERE WHAT IT READS IS OF BULK AT MOST 1048576: true; the input reads as it did. -/
def fnMeansUptoRow : OpenClaim := { program := "ytekecdkbnlpipaa", sum := "cfb0cef50c215558181b94a9aacacbbef13d158108e0ba26b3baf617e68106bf", func := "loop.example/g00989/laws.FnMeans", spec := "fnMeans", unfollowed := true, recurses := true, apart := false, narrowed := true }
def FnMeansUptoSaid : Prop := fnMeansUptoRow.holds Try.pinned (OpenSpec.upto fnMeansSpec)

end Rows
end Go.Proofs.Ytekecdkbnlpipaa
