/-
  No cell of these rows narrows 'for every input' (looked for: loops, veiled, ifaces, maps, wideKeys, modest, calm, conditions, laid).
  DERIVED. THE GIVEN ROWS OF THIS SEAT. 8 by the template 'for every input the law returns true; each argument reads behind the call as it read before'; 0 by the template 'total and deterministic' (their statements: YtnlfmiheapcodaaTotals.lean).
  GIVEN WITH THE SEED: the statements are not yours to turn. If you find one false, say at which input.
  Laid BY PROGRAM, IN A SANDBOX (cutbox-rows.mjs): the forced cells as the released guide's own fill.sh prints them over the translation e7666e18974bdd69… (all of the seat's roots in one cut). By AI agents, Wed Nov 11 2026. No macro, syntax, notation, axiom, sorry.
-/
import Derived.Test.YtnlfmiheapcodaaChecked
import GoSem.Claim
import GoSem.ClaimJoined
import GoSem.ClaimMapViews
import Derived.JoinedTies
import Derived.KernelRfl
namespace Go.Proofs.Ytnlfmiheapcodaa
/- THE CELL 'sum', in the pinned program and in every row, IS THE sha256 OF THE DUMP (.gsa) THAT YtnlfmiheapcodaaProg.lean LOADS. Nothing in Lean hashes anything: it is a label: what it is worth is what the hold of that sum in a sandbox is worth. -/
noncomputable def Try.pinned : Pinned := { name := "ytnlfmiheapcodaa", sum := "e7666e18974bdd69570c8f901c6bf96b46c23a7063e3cb74d091e0a3c2dad021", checked := Try.checked }
namespace Rows
def none {H : Type} : Left H := { results := [], args := [] }

/-- 'laws.FnExactThirdParts': WHATEVER THE INPUT: true; the input reads as it did. -/
def fnExactThirdPartsSpec : ChangeSpec := { name := "fnExactThirdParts", fn := fun _ => fun
  | [d1, d2] => { results := [.lit (.bool true)], args := [d1, d2] }
  | _ => none }
def fnExactThirdPartsRow : OpenClaim := { program := "ytnlfmiheapcodaa", sum := "e7666e18974bdd69570c8f901c6bf96b46c23a7063e3cb74d091e0a3c2dad021", func := "loop.example/g00989/laws.FnExactThirdParts", spec := "fnExactThirdParts", apart := false }
def FnExactThirdPartsSaid : Prop := fnExactThirdPartsRow.holds Try.pinned (OpenSpec.ofChange fnExactThirdPartsSpec)

/-- ITS FALSE NEIGHBOUR: 'it returns false'. Refute it at one input. -/
def fnExactThirdPartsWrong : ChangeSpec := { name := "fnExactThirdParts", fn := fun _ => fun
  | [d1, d2] => { results := [.lit (.bool false)], args := [d1, d2] }
  | _ => none }
def FnExactThirdPartsWrongFalsely : Prop := fnExactThirdPartsRow.holds Try.pinned (OpenSpec.ofChange fnExactThirdPartsWrong)

/-- 'laws.FnExactThirdAt': WHATEVER THE INPUT: true; the input reads as it did. -/
def fnExactThirdAtSpec : ChangeSpec := { name := "fnExactThirdAt", fn := fun _ => fun
  | [d1, d2] => { results := [.lit (.bool true)], args := [d1, d2] }
  | _ => none }
def fnExactThirdAtRow : OpenClaim := { program := "ytnlfmiheapcodaa", sum := "e7666e18974bdd69570c8f901c6bf96b46c23a7063e3cb74d091e0a3c2dad021", func := "loop.example/g00989/laws.FnExactThirdAt", spec := "fnExactThirdAt", apart := false }
def FnExactThirdAtSaid : Prop := fnExactThirdAtRow.holds Try.pinned (OpenSpec.ofChange fnExactThirdAtSpec)

/-- ITS FALSE NEIGHBOUR: 'it returns false'. Refute it at one input. -/
def fnExactThirdAtWrong : ChangeSpec := { name := "fnExactThirdAt", fn := fun _ => fun
  | [d1, d2] => { results := [.lit (.bool false)], args := [d1, d2] }
  | _ => none }
def FnExactThirdAtWrongFalsely : Prop := fnExactThirdAtRow.holds Try.pinned (OpenSpec.ofChange fnExactThirdAtWrong)

/-- 'laws.FnExactThirdError': WHATEVER THE INPUT: true; the input reads as it did. -/
def fnExactThirdErrorSpec : ChangeSpec := { name := "fnExactThirdError", fn := fun _ => fun
  | [d1, d2] => { results := [.lit (.bool true)], args := [d1, d2] }
  | _ => none }
def fnExactThirdErrorRow : OpenClaim := { program := "ytnlfmiheapcodaa", sum := "e7666e18974bdd69570c8f901c6bf96b46c23a7063e3cb74d091e0a3c2dad021", func := "loop.example/g00989/laws.FnExactThirdError", spec := "fnExactThirdError", apart := false }
def FnExactThirdErrorSaid : Prop := fnExactThirdErrorRow.holds Try.pinned (OpenSpec.ofChange fnExactThirdErrorSpec)

/-- ITS FALSE NEIGHBOUR: 'it returns false'. Refute it at one input. -/
def fnExactThirdErrorWrong : ChangeSpec := { name := "fnExactThirdError", fn := fun _ => fun
  | [d1, d2] => { results := [.lit (.bool false)], args := [d1, d2] }
  | _ => none }
def FnExactThirdErrorWrongFalsely : Prop := fnExactThirdErrorRow.holds Try.pinned (OpenSpec.ofChange fnExactThirdErrorWrong)

/-- 'laws.FnExactBestKeys': WHATEVER THE INPUT: true; the input reads as it did. -/
def fnExactBestKeysSpec : ChangeSpec := { name := "fnExactBestKeys", fn := fun _ => fun
  | [d] => { results := [.lit (.bool true)], args := [d] }
  | _ => none }
def fnExactBestKeysRow : OpenClaim := { program := "ytnlfmiheapcodaa", sum := "e7666e18974bdd69570c8f901c6bf96b46c23a7063e3cb74d091e0a3c2dad021", func := "loop.example/g00989/laws.FnExactBestKeys", spec := "fnExactBestKeys", unfollowed := true, recurses := true, apart := false }
def FnExactBestKeysSaid : Prop := fnExactBestKeysRow.holds Try.pinned (OpenSpec.ofChange fnExactBestKeysSpec)

/-- ITS FALSE NEIGHBOUR: 'it returns false'. Refute it at one input. -/
def fnExactBestKeysWrong : ChangeSpec := { name := "fnExactBestKeys", fn := fun _ => fun
  | [d] => { results := [.lit (.bool false)], args := [d] }
  | _ => none }
def FnExactBestKeysWrongFalsely : Prop := fnExactBestKeysRow.holds Try.pinned (OpenSpec.ofChange fnExactBestKeysWrong)

/-- 'laws.FnExactSmallThirdParts': WHATEVER THE INPUT: true; the input reads as it did. -/
def fnExactSmallThirdPartsSpec : ChangeSpec := { name := "fnExactSmallThirdParts", fn := fun _ => fun
  | [d1, d2] => { results := [.lit (.bool true)], args := [d1, d2] }
  | _ => none }
def fnExactSmallThirdPartsRow : OpenClaim := { program := "ytnlfmiheapcodaa", sum := "e7666e18974bdd69570c8f901c6bf96b46c23a7063e3cb74d091e0a3c2dad021", func := "loop.example/g00989/laws.FnExactSmallThirdParts", spec := "fnExactSmallThirdParts", apart := false }
def FnExactSmallThirdPartsSaid : Prop := fnExactSmallThirdPartsRow.holds Try.pinned (OpenSpec.ofChange fnExactSmallThirdPartsSpec)

/-- ITS FALSE NEIGHBOUR: 'it returns false'. Refute it at one input. -/
def fnExactSmallThirdPartsWrong : ChangeSpec := { name := "fnExactSmallThirdParts", fn := fun _ => fun
  | [d1, d2] => { results := [.lit (.bool false)], args := [d1, d2] }
  | _ => none }
def FnExactSmallThirdPartsWrongFalsely : Prop := fnExactSmallThirdPartsRow.holds Try.pinned (OpenSpec.ofChange fnExactSmallThirdPartsWrong)

/-- 'laws.FnExactIsThirdPure': WHATEVER THE INPUT: true; the input reads as it did. -/
def fnExactIsThirdPureSpec : ChangeSpec := { name := "fnExactIsThirdPure", fn := fun _ => fun
  | [d1, d2] => { results := [.lit (.bool true)], args := [d1, d2] }
  | _ => none }
def fnExactIsThirdPureRow : OpenClaim := { program := "ytnlfmiheapcodaa", sum := "e7666e18974bdd69570c8f901c6bf96b46c23a7063e3cb74d091e0a3c2dad021", func := "loop.example/g00989/laws.FnExactIsThirdPure", spec := "fnExactIsThirdPure", unfollowed := true, recurses := true, apart := false }
def FnExactIsThirdPureSaid : Prop := fnExactIsThirdPureRow.holds Try.pinned (OpenSpec.ofChange fnExactIsThirdPureSpec)

/-- ITS FALSE NEIGHBOUR: 'it returns false'. Refute it at one input. -/
def fnExactIsThirdPureWrong : ChangeSpec := { name := "fnExactIsThirdPure", fn := fun _ => fun
  | [d1, d2] => { results := [.lit (.bool false)], args := [d1, d2] }
  | _ => none }
def FnExactIsThirdPureWrongFalsely : Prop := fnExactIsThirdPureRow.holds Try.pinned (OpenSpec.ofChange fnExactIsThirdPureWrong)

/-- 'laws.FnMeans': WHATEVER THE INPUT: true; the input reads as it did. -/
def fnMeansSpec : ChangeSpec := { name := "fnMeans", fn := fun _ => fun
  | [d] => { results := [.lit (.bool true)], args := [d] }
  | _ => none }
def fnMeansRow : OpenClaim := { program := "ytnlfmiheapcodaa", sum := "e7666e18974bdd69570c8f901c6bf96b46c23a7063e3cb74d091e0a3c2dad021", func := "loop.example/g00989/laws.FnMeans", spec := "fnMeans", unfollowed := true, recurses := true, apart := false }
def FnMeansSaid : Prop := fnMeansRow.holds Try.pinned (OpenSpec.ofChange fnMeansSpec)

/-- ITS FALSE NEIGHBOUR: 'it returns false'. Refute it at one input. -/
def fnMeansWrong : ChangeSpec := { name := "fnMeans", fn := fun _ => fun
  | [d] => { results := [.lit (.bool false)], args := [d] }
  | _ => none }
def FnMeansWrongFalsely : Prop := fnMeansRow.holds Try.pinned (OpenSpec.ofChange fnMeansWrong)

/-- 'laws.FnBestKeys': WHATEVER THE INPUT: true; the input reads as it did. -/
def fnBestKeysSpec : ChangeSpec := { name := "fnBestKeys", fn := fun _ => fun
  | [d] => { results := [.lit (.bool true)], args := [d] }
  | _ => none }
def fnBestKeysRow : OpenClaim := { program := "ytnlfmiheapcodaa", sum := "e7666e18974bdd69570c8f901c6bf96b46c23a7063e3cb74d091e0a3c2dad021", func := "loop.example/g00989/laws.FnBestKeys", spec := "fnBestKeys", unfollowed := true, recurses := true, apart := false }
def FnBestKeysSaid : Prop := fnBestKeysRow.holds Try.pinned (OpenSpec.ofChange fnBestKeysSpec)

/-- ITS FALSE NEIGHBOUR: 'it returns false'. Refute it at one input. -/
def fnBestKeysWrong : ChangeSpec := { name := "fnBestKeys", fn := fun _ => fun
  | [d] => { results := [.lit (.bool false)], args := [d] }
  | _ => none }
def FnBestKeysWrongFalsely : Prop := fnBestKeysRow.holds Try.pinned (OpenSpec.ofChange fnBestKeysWrong)

/- THE SECOND FORM. 'bulk': how many values and letters a reading holds, each counted each time it is reached (what is shared counts as often as it is met; a slice's spare places count too). A statement '..UptoSaid' is the law's where the arguments, and the package variables that the reading takes, are together of bulk at most 1048576: NARROWER than '..Said'. Prove '..Said' where nothing that the law and all that it calls make is longer than what came in: it says more and counts as full. Else prove '..UptoSaid'. A law counts once. -/
mutual
def uptoBulk {H : Type} : DataW H → Nat
  | .lit (.string bytes) => bytes.length + 1
  | .lit _ => 1
  | .nil => 1
  | .ptr d => uptoBulk d + 1
  | .slice elems spare => uptoBulkAll elems + uptoBulkAll spare + 1
  | .agg parts => uptoBulkAll parts + 1
  | .iface _ d => uptoBulk d + 1
  | .map entries => uptoBulkEntries entries + 1
  | .held _ => 1
def uptoBulkAll {H : Type} : List (DataW H) → Nat
  | [] => 0
  | d :: r => uptoBulk d + uptoBulkAll r
def uptoBulkEntries {H : Type} : List (Lit × DataW H) → Nat
  | [] => 0
  | x :: r => uptoBulkEntry x + uptoBulkEntries r
def uptoBulkEntry {H : Type} : Lit × DataW H → Nat
  | (.string bytes, d) => bytes.length + uptoBulk d + 1
  | (_, d) => uptoBulk d + 1
 end
def uptoSmall : (H : Type) → List (DataW H) → Bool := fun _ ds => decide (uptoBulkAll ds ≤ 1048576)
def OpenSpec.upto (s : _root_.Go.ChangeSpec) : _root_.Go.OpenSpec := { _root_.Go.OpenSpec.ofChange s with cond := some uptoSmall }

/-- 'laws.FnExactThirdParts', WHERE WHAT IT READS IS OF BULK AT MOST 1048576: true; the input reads as it did. -/
def fnExactThirdPartsUptoRow : OpenClaim := { program := "ytnlfmiheapcodaa", sum := "e7666e18974bdd69570c8f901c6bf96b46c23a7063e3cb74d091e0a3c2dad021", func := "loop.example/g00989/laws.FnExactThirdParts", spec := "fnExactThirdParts", apart := false, narrowed := true }
def FnExactThirdPartsUptoSaid : Prop := fnExactThirdPartsUptoRow.holds Try.pinned (OpenSpec.upto fnExactThirdPartsSpec)

/-- 'laws.FnExactThirdAt', WHERE WHAT IT READS IS OF BULK AT MOST 1048576: true; the input reads as it did. -/
def fnExactThirdAtUptoRow : OpenClaim := { program := "ytnlfmiheapcodaa", sum := "e7666e18974bdd69570c8f901c6bf96b46c23a7063e3cb74d091e0a3c2dad021", func := "loop.example/g00989/laws.FnExactThirdAt", spec := "fnExactThirdAt", apart := false, narrowed := true }
def FnExactThirdAtUptoSaid : Prop := fnExactThirdAtUptoRow.holds Try.pinned (OpenSpec.upto fnExactThirdAtSpec)

/-- 'laws.FnExactThirdError', WHERE WHAT IT READS IS OF BULK AT MOST 1048576: true; the input reads as it did. -/
def fnExactThirdErrorUptoRow : OpenClaim := { program := "ytnlfmiheapcodaa", sum := "e7666e18974bdd69570c8f901c6bf96b46c23a7063e3cb74d091e0a3c2dad021", func := "loop.example/g00989/laws.FnExactThirdError", spec := "fnExactThirdError", apart := false, narrowed := true }
def FnExactThirdErrorUptoSaid : Prop := fnExactThirdErrorUptoRow.holds Try.pinned (OpenSpec.upto fnExactThirdErrorSpec)

/-- 'laws.FnExactBestKeys', WHERE WHAT IT READS IS OF BULK AT MOST 1048576: true; the input reads as it did. -/
def fnExactBestKeysUptoRow : OpenClaim := { program := "ytnlfmiheapcodaa", sum := "e7666e18974bdd69570c8f901c6bf96b46c23a7063e3cb74d091e0a3c2dad021", func := "loop.example/g00989/laws.FnExactBestKeys", spec := "fnExactBestKeys", unfollowed := true, recurses := true, apart := false, narrowed := true }
def FnExactBestKeysUptoSaid : Prop := fnExactBestKeysUptoRow.holds Try.pinned (OpenSpec.upto fnExactBestKeysSpec)

/-- 'laws.FnExactSmallThirdParts', WHERE WHAT IT READS IS OF BULK AT MOST 1048576: true; the input reads as it did. -/
def fnExactSmallThirdPartsUptoRow : OpenClaim := { program := "ytnlfmiheapcodaa", sum := "e7666e18974bdd69570c8f901c6bf96b46c23a7063e3cb74d091e0a3c2dad021", func := "loop.example/g00989/laws.FnExactSmallThirdParts", spec := "fnExactSmallThirdParts", apart := false, narrowed := true }
def FnExactSmallThirdPartsUptoSaid : Prop := fnExactSmallThirdPartsUptoRow.holds Try.pinned (OpenSpec.upto fnExactSmallThirdPartsSpec)

/-- 'laws.FnExactIsThirdPure', WHERE WHAT IT READS IS OF BULK AT MOST 1048576: true; the input reads as it did. -/
def fnExactIsThirdPureUptoRow : OpenClaim := { program := "ytnlfmiheapcodaa", sum := "e7666e18974bdd69570c8f901c6bf96b46c23a7063e3cb74d091e0a3c2dad021", func := "loop.example/g00989/laws.FnExactIsThirdPure", spec := "fnExactIsThirdPure", unfollowed := true, recurses := true, apart := false, narrowed := true }
def FnExactIsThirdPureUptoSaid : Prop := fnExactIsThirdPureUptoRow.holds Try.pinned (OpenSpec.upto fnExactIsThirdPureSpec)

/-- 'laws.FnMeans', WHERE WHAT IT READS IS OF BULK AT MOST 1048576: true; the input reads as it did. -/
def fnMeansUptoRow : OpenClaim := { program := "ytnlfmiheapcodaa", sum := "e7666e18974bdd69570c8f901c6bf96b46c23a7063e3cb74d091e0a3c2dad021", func := "loop.example/g00989/laws.FnMeans", spec := "fnMeans", unfollowed := true, recurses := true, apart := false, narrowed := true }
def FnMeansUptoSaid : Prop := fnMeansUptoRow.holds Try.pinned (OpenSpec.upto fnMeansSpec)

/-- 'laws.FnBestKeys', WHERE WHAT IT READS IS OF BULK AT MOST 1048576: true; the input reads as it did. -/
def fnBestKeysUptoRow : OpenClaim := { program := "ytnlfmiheapcodaa", sum := "e7666e18974bdd69570c8f901c6bf96b46c23a7063e3cb74d091e0a3c2dad021", func := "loop.example/g00989/laws.FnBestKeys", spec := "fnBestKeys", unfollowed := true, recurses := true, apart := false, narrowed := true }
def FnBestKeysUptoSaid : Prop := fnBestKeysUptoRow.holds Try.pinned (OpenSpec.upto fnBestKeysSpec)

end Rows
end Go.Proofs.Ytnlfmiheapcodaa
