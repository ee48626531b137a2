/-
  No cell of these rows narrows 'for every input' (looked for: loops, veiled, ifaces, maps, wideKeys, modest, calm, conditions, laid).
  DERIVED. THE GIVEN ROWS OF THIS SEAT. 8 by the template 'for every input the law returns true; each argument reads behind the call as it read before'; 0 by the template 'total and deterministic' (their statements: YtjfeeppbbckneabTotals.lean).
  GIVEN WITH THE SEED: the statements are not yours to turn. If you find one false, say at which input.
  Laid BY PROGRAM, IN A SANDBOX (cutbox-rows.mjs): the forced cells as the released guide's own fill.sh prints them over the translation 1051c06e7598af75… (all of the seat's roots in one cut). By AI agents, Wed Nov 11 2026. No macro, syntax, notation, axiom, sorry.
-/
import Derived.Test.YtjfeeppbbckneabChecked
import GoSem.Claim
import GoSem.ClaimJoined
import GoSem.ClaimMapViews
import Derived.JoinedTies
import Derived.KernelRfl
namespace Go.Proofs.Ytjfeeppbbckneab
/- THE CELL 'sum', in the pinned program and in every row, IS THE sha256 OF THE DUMP (.gsa) THAT YtjfeeppbbckneabProg.lean LOADS. Nothing in Lean hashes anything: it is a label: what it is worth is what the hold of that sum in a sandbox is worth. -/
noncomputable def Try.pinned : Pinned := { name := "ytjfeeppbbckneab", sum := "1051c06e7598af75980124a218c20429efe23f21d08a675bc6c6adc12525d868", checked := Try.checked }
namespace Rows
def none {H : Type} : Left H := { results := [], args := [] }

/-- 'laws.FnBestKeys': WHATEVER THE INPUT: true; the input reads as it did. -/
def fnBestKeysSpec : ChangeSpec := { name := "fnBestKeys", fn := fun _ => fun
  | [d] => { results := [.lit (.bool true)], args := [d] }
  | _ => none }
def fnBestKeysRow : OpenClaim := { program := "ytjfeeppbbckneab", sum := "1051c06e7598af75980124a218c20429efe23f21d08a675bc6c6adc12525d868", func := "loop.example/g00989/laws.FnBestKeys", spec := "fnBestKeys", unfollowed := true, recurses := true, apart := false }
def FnBestKeysSaid : Prop := fnBestKeysRow.holds Try.pinned (OpenSpec.ofChange fnBestKeysSpec)

/-- ITS FALSE NEIGHBOUR: 'it returns false'. Refute it at one input. -/
def fnBestKeysWrong : ChangeSpec := { name := "fnBestKeys", fn := fun _ => fun
  | [d] => { results := [.lit (.bool false)], args := [d] }
  | _ => none }
def FnBestKeysWrongFalsely : Prop := fnBestKeysRow.holds Try.pinned (OpenSpec.ofChange fnBestKeysWrong)

/-- 'laws.FnExactBestKeys': WHATEVER THE INPUT: true; the input reads as it did. -/
def fnExactBestKeysSpec : ChangeSpec := { name := "fnExactBestKeys", fn := fun _ => fun
  | [d] => { results := [.lit (.bool true)], args := [d] }
  | _ => none }
def fnExactBestKeysRow : OpenClaim := { program := "ytjfeeppbbckneab", sum := "1051c06e7598af75980124a218c20429efe23f21d08a675bc6c6adc12525d868", func := "loop.example/g00989/laws.FnExactBestKeys", spec := "fnExactBestKeys", unfollowed := true, recurses := true, apart := false }
def FnExactBestKeysSaid : Prop := fnExactBestKeysRow.holds Try.pinned (OpenSpec.ofChange fnExactBestKeysSpec)

/-- ITS FALSE NEIGHBOUR: 'it returns false'. Refute it at one input. -/
def fnExactBestKeysWrong : ChangeSpec := { name := "fnExactBestKeys", fn := fun _ => fun
  | [d] => { results := [.lit (.bool false)], args := [d] }
  | _ => none }
def FnExactBestKeysWrongFalsely : Prop := fnExactBestKeysRow.holds Try.pinned (OpenSpec.ofChange fnExactBestKeysWrong)

/-- 'laws.FnClosing': WHATEVER THE INPUT: true; the input reads as it did. -/
def fnClosingSpec : ChangeSpec := { name := "fnClosing", fn := fun _ => fun
  | [d] => { results := [.lit (.bool true)], args := [d] }
  | _ => none }
def fnClosingRow : OpenClaim := { program := "ytjfeeppbbckneab", sum := "1051c06e7598af75980124a218c20429efe23f21d08a675bc6c6adc12525d868", func := "loop.example/g00989/laws.FnClosing", spec := "fnClosing", apart := false }
def FnClosingSaid : Prop := fnClosingRow.holds Try.pinned (OpenSpec.ofChange fnClosingSpec)

/-- ITS FALSE NEIGHBOUR: 'it returns false'. Refute it at one input. -/
def fnClosingWrong : ChangeSpec := { name := "fnClosing", fn := fun _ => fun
  | [d] => { results := [.lit (.bool false)], args := [d] }
  | _ => none }
def FnClosingWrongFalsely : Prop := fnClosingRow.holds Try.pinned (OpenSpec.ofChange fnClosingWrong)

/-- 'laws.FnExactCloses': WHATEVER THE INPUT: true; the input reads as it did. -/
def fnExactClosesSpec : ChangeSpec := { name := "fnExactCloses", fn := fun _ => fun
  | [d] => { results := [.lit (.bool true)], args := [d] }
  | _ => none }
def fnExactClosesRow : OpenClaim := { program := "ytjfeeppbbckneab", sum := "1051c06e7598af75980124a218c20429efe23f21d08a675bc6c6adc12525d868", func := "loop.example/g00989/laws.FnExactCloses", spec := "fnExactCloses", apart := false }
def FnExactClosesSaid : Prop := fnExactClosesRow.holds Try.pinned (OpenSpec.ofChange fnExactClosesSpec)

/-- ITS FALSE NEIGHBOUR: 'it returns false'. Refute it at one input. -/
def fnExactClosesWrong : ChangeSpec := { name := "fnExactCloses", fn := fun _ => fun
  | [d] => { results := [.lit (.bool false)], args := [d] }
  | _ => none }
def FnExactClosesWrongFalsely : Prop := fnExactClosesRow.holds Try.pinned (OpenSpec.ofChange fnExactClosesWrong)

/-- 'laws.FnExactGroupThirds': WHATEVER THE INPUT: true; the input reads as it did. -/
def fnExactGroupThirdsSpec : ChangeSpec := { name := "fnExactGroupThirds", fn := fun _ => fun
  | [d1, d2] => { results := [.lit (.bool true)], args := [d1, d2] }
  | _ => none }
def fnExactGroupThirdsRow : OpenClaim := { program := "ytjfeeppbbckneab", sum := "1051c06e7598af75980124a218c20429efe23f21d08a675bc6c6adc12525d868", func := "loop.example/g00989/laws.FnExactGroupThirds", spec := "fnExactGroupThirds", apart := false }
def FnExactGroupThirdsSaid : Prop := fnExactGroupThirdsRow.holds Try.pinned (OpenSpec.ofChange fnExactGroupThirdsSpec)

/-- ITS FALSE NEIGHBOUR: 'it returns false'. Refute it at one input. -/
def fnExactGroupThirdsWrong : ChangeSpec := { name := "fnExactGroupThirds", fn := fun _ => fun
  | [d1, d2] => { results := [.lit (.bool false)], args := [d1, d2] }
  | _ => none }
def FnExactGroupThirdsWrongFalsely : Prop := fnExactGroupThirdsRow.holds Try.pinned (OpenSpec.ofChange fnExactGroupThirdsWrong)

/-- 'laws.FnExactGroupSum': WHATEVER THE INPUT: true; the input reads as it did. -/
def fnExactGroupSumSpec : ChangeSpec := { name := "fnExactGroupSum", fn := fun _ => fun
  | [d1, d2] => { results := [.lit (.bool true)], args := [d1, d2] }
  | _ => none }
def fnExactGroupSumRow : OpenClaim := { program := "ytjfeeppbbckneab", sum := "1051c06e7598af75980124a218c20429efe23f21d08a675bc6c6adc12525d868", func := "loop.example/g00989/laws.FnExactGroupSum", spec := "fnExactGroupSum", apart := false }
def FnExactGroupSumSaid : Prop := fnExactGroupSumRow.holds Try.pinned (OpenSpec.ofChange fnExactGroupSumSpec)

/-- ITS FALSE NEIGHBOUR: 'it returns false'. Refute it at one input. -/
def fnExactGroupSumWrong : ChangeSpec := { name := "fnExactGroupSum", fn := fun _ => fun
  | [d1, d2] => { results := [.lit (.bool false)], args := [d1, d2] }
  | _ => none }
def FnExactGroupSumWrongFalsely : Prop := fnExactGroupSumRow.holds Try.pinned (OpenSpec.ofChange fnExactGroupSumWrong)

/-- 'laws.FnExactIsRegular': WHATEVER THE INPUT: true; the input reads as it did. -/
def fnExactIsRegularSpec : ChangeSpec := { name := "fnExactIsRegular", fn := fun _ => fun
  | [d] => { results := [.lit (.bool true)], args := [d] }
  | _ => none }
def fnExactIsRegularRow : OpenClaim := { program := "ytjfeeppbbckneab", sum := "1051c06e7598af75980124a218c20429efe23f21d08a675bc6c6adc12525d868", func := "loop.example/g00989/laws.FnExactIsRegular", spec := "fnExactIsRegular", apart := false }
def FnExactIsRegularSaid : Prop := fnExactIsRegularRow.holds Try.pinned (OpenSpec.ofChange fnExactIsRegularSpec)

/-- ITS FALSE NEIGHBOUR: 'it returns false'. Refute it at one input. -/
def fnExactIsRegularWrong : ChangeSpec := { name := "fnExactIsRegular", fn := fun _ => fun
  | [d] => { results := [.lit (.bool false)], args := [d] }
  | _ => none }
def FnExactIsRegularWrongFalsely : Prop := fnExactIsRegularRow.holds Try.pinned (OpenSpec.ofChange fnExactIsRegularWrong)

/-- 'laws.FnExactWolfAt': WHATEVER THE INPUT: true; the input reads as it did. -/
def fnExactWolfAtSpec : ChangeSpec := { name := "fnExactWolfAt", fn := fun _ => fun
  | [d] => { results := [.lit (.bool true)], args := [d] }
  | _ => none }
def fnExactWolfAtRow : OpenClaim := { program := "ytjfeeppbbckneab", sum := "1051c06e7598af75980124a218c20429efe23f21d08a675bc6c6adc12525d868", func := "loop.example/g00989/laws.FnExactWolfAt", spec := "fnExactWolfAt", apart := false }
def FnExactWolfAtSaid : Prop := fnExactWolfAtRow.holds Try.pinned (OpenSpec.ofChange fnExactWolfAtSpec)

/-- ITS FALSE NEIGHBOUR: 'it returns false'. Refute it at one input. -/
def fnExactWolfAtWrong : ChangeSpec := { name := "fnExactWolfAt", fn := fun _ => fun
  | [d] => { results := [.lit (.bool false)], args := [d] }
  | _ => none }
def FnExactWolfAtWrongFalsely : Prop := fnExactWolfAtRow.holds Try.pinned (OpenSpec.ofChange fnExactWolfAtWrong)

/- THE SECOND FORM. 'bulk': how many values and letters a reading holds, each counted each time it is reached (what is shared counts as often as it is met; a slice's spare places count too). A statement '..UptoSaid' is the law's where the arguments, and the package variables that the reading takes, are together of bulk at most 1048576: NARROWER than '..Said'. Prove '..Said' where nothing that the law and all that it calls make is longer than what came in: it says more and counts as full. Else prove '..UptoSaid'. A law counts once. -/
mutual
def uptoBulk {H : Type} : DataW H → Nat
  | .lit (.string bytes) => bytes.length + 1
  | .lit _ => 1
  | .nil => 1
  | .ptr d => uptoBulk d + 1
  | .slice elems spare => uptoBulkAll elems + uptoBulkAll spare + 1
  | .agg parts => uptoBulkAll parts + 1
  | .iface _ d => uptoBulk d + 1
  | .map entries => uptoBulkEntries entries + 1
  | .held _ => 1
def uptoBulkAll {H : Type} : List (DataW H) → Nat
  | [] => 0
  | d :: r => uptoBulk d + uptoBulkAll r
def uptoBulkEntries {H : Type} : List (Lit × DataW H) → Nat
  | [] => 0
  | x :: r => uptoBulkEntry x + uptoBulkEntries r
def uptoBulkEntry {H : Type} : Lit × DataW H → Nat
  | (.string bytes, d) => bytes.length + uptoBulk d + 1
  | (_, d) => uptoBulk d + 1
 end
def uptoSmall : (H : Type) → List (DataW H) → Bool := fun _ ds => decide (uptoBulkAll ds ≤ 1048576)
def OpenSpec.upto (s : _root_.Go.ChangeSpec) : _root_.Go.OpenSpec := { _root_.Go.OpenSpec.ofChange s with cond := some uptoSmall }

/-- 'laws.FnBestKeys', WHERE WHAT IT READS IS OF BULK AT MOST 1048576: true; the input reads as it did. -/
def fnBestKeysUptoRow : OpenClaim := { program := "ytjfeeppbbckneab", sum := "1051c06e7598af75980124a218c20429efe23f21d08a675bc6c6adc12525d868", func := "loop.example/g00989/laws.FnBestKeys", spec := "fnBestKeys", unfollowed := true, recurses := true, apart := false, narrowed := true }
def FnBestKeysUptoSaid : Prop := fnBestKeysUptoRow.holds Try.pinned (OpenSpec.upto fnBestKeysSpec)

/-- 'laws.FnExactBestKeys', WHERE WHAT IT READS IS OF BULK AT MOST 1048576: true; the input reads as it did. -/
def fnExactBestKeysUptoRow : OpenClaim := { program := "ytjfeeppbbckneab", sum := "1051c06e7598af75980124a218c20429efe23f21d08a675bc6c6adc12525d868", func := "loop.example/g00989/laws.FnExactBestKeys", spec := "fnExactBestKeys", unfollowed := true, recurses := true, apart := false, narrowed := true }
def FnExactBestKeysUptoSaid : Prop := fnExactBestKeysUptoRow.holds Try.pinned (OpenSpec.upto fnExactBestKeysSpec)

/-- 'laws.FnClosing', WHERE WHAT IT READS IS OF BULK AT MOST 1048576: true; the input reads as it did. -/
def fnClosingUptoRow : OpenClaim := { program := "ytjfeeppbbckneab", sum := "1051c06e7598af75980124a218c20429efe23f21d08a675bc6c6adc12525d868", func := "loop.example/g00989/laws.FnClosing", spec := "fnClosing", apart := false, narrowed := true }
def FnClosingUptoSaid : Prop := fnClosingUptoRow.holds Try.pinned (OpenSpec.upto fnClosingSpec)

/-- 'laws.FnExactCloses', WHERE WHAT IT READS IS OF BULK AT MOST 1048576: true; the input reads as it did. -/
def fnExactClosesUptoRow : OpenClaim := { program := "ytjfeeppbbckneab", sum := "1051c06e7598af75980124a218c20429efe23f21d08a675bc6c6adc12525d868", func := "loop.example/g00989/laws.FnExactCloses", spec := "fnExactCloses", apart := false, narrowed := true }
def FnExactClosesUptoSaid : Prop := fnExactClosesUptoRow.holds Try.pinned (OpenSpec.upto fnExactClosesSpec)

/-- 'laws.FnExactGroupThirds', WHERE WHAT IT READS IS OF BULK AT MOST 1048576: true; the input reads as it did. -/
def fnExactGroupThirdsUptoRow : OpenClaim := { program := "ytjfeeppbbckneab", sum := "1051c06e7598af75980124a218c20429efe23f21d08a675bc6c6adc12525d868", func := "loop.example/g00989/laws.FnExactGroupThirds", spec := "fnExactGroupThirds", apart := false, narrowed := true }
def FnExactGroupThirdsUptoSaid : Prop := fnExactGroupThirdsUptoRow.holds Try.pinned (OpenSpec.upto fnExactGroupThirdsSpec)

/-- 'laws.FnExactGroupSum', WHERE WHAT IT READS IS OF BULK AT MOST 1048576: true; the input reads as it did. -/
def fnExactGroupSumUptoRow : OpenClaim := { program := "ytjfeeppbbckneab", sum := "1051c06e7598af75980124a218c20429efe23f21d08a675bc6c6adc12525d868", func := "loop.example/g00989/laws.FnExactGroupSum", spec := "fnExactGroupSum", apart := false, narrowed := true }
def FnExactGroupSumUptoSaid : Prop := fnExactGroupSumUptoRow.holds Try.pinned (OpenSpec.upto fnExactGroupSumSpec)

/-- 'laws.FnExactIsRegular', WHERE WHAT IT READS IS OF BULK AT MOST 1048576: true; the input reads as it did. -/
def fnExactIsRegularUptoRow : OpenClaim := { program := "ytjfeeppbbckneab", sum := "1051c06e7598af75980124a218c20429efe23f21d08a675bc6c6adc12525d868", func := "loop.example/g00989/laws.FnExactIsRegular", spec := "fnExactIsRegular", apart := false, narrowed := true }
def FnExactIsRegularUptoSaid : Prop := fnExactIsRegularUptoRow.holds Try.pinned (OpenSpec.upto fnExactIsRegularSpec)

/-- 'laws.FnExactWolfAt', WHERE WHAT IT READS IS OF BULK AT MOST 1048576: true; the input reads as it did. -/
def fnExactWolfAtUptoRow : OpenClaim := { program := "ytjfeeppbbckneab", sum := "1051c06e7598af75980124a218c20429efe23f21d08a675bc6c6adc12525d868", func := "loop.example/g00989/laws.FnExactWolfAt", spec := "fnExactWolfAt", apart := false, narrowed := true }
def FnExactWolfAtUptoSaid : Prop := fnExactWolfAtUptoRow.holds Try.pinned (OpenSpec.upto fnExactWolfAtSpec)

end Rows
end Go.Proofs.Ytjfeeppbbckneab
