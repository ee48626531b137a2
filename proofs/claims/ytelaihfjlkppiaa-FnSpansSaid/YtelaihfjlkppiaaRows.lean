/-
  No cell of these rows narrows 'for every input' (looked for: loops, veiled, ifaces, maps, wideKeys, modest, calm, conditions, laid).
  DERIVED. THE GIVEN ROWS OF THIS SEAT. 7 by the template 'for every input the law returns true; each argument reads behind the call as it read before'; 0 by the template 'total and deterministic' (their statements: YtelaihfjlkppiaaTotals.lean).
  GIVEN WITH THE SEED: the statements are not yours to turn. If you find one false, say at which input.
  Laid BY PROGRAM, IN A SANDBOX (cutbox-rows.mjs): the forced cells as the released guide's own fill.sh prints them over the translation 2d93aa9ca3715fd3… (all of the seat's roots in one cut). By AI agents, Wed Nov 11 2026. No macro, syntax, notation, axiom, sorry.
-/
import Derived.Test.YtelaihfjlkppiaaChecked
import GoSem.Claim
import GoSem.ClaimJoined
import GoSem.ClaimMapViews
import Derived.JoinedTies
import Derived.KernelRfl
namespace Go.Proofs.Ytelaihfjlkppiaa
/- THE CELL 'sum', in the pinned program and in every row, IS THE sha256 OF THE DUMP (.gsa) THAT YtelaihfjlkppiaaProg.lean LOADS. Nothing in Lean hashes anything: it is a label: what it is worth is what the hold of that sum in a sandbox is worth. -/
noncomputable def Try.pinned : Pinned := { name := "ytelaihfjlkppiaa", sum := "2d93aa9ca3715fd353152bf4a690f5b39d68d43ca6cddbe4b93945e1eee2fd5b", checked := Try.checked }
namespace Rows
def none {H : Type} : Left H := { results := [], args := [] }

/-- 'laws.FnSpans': WHATEVER THE INPUT: true; the input reads as it did. -/
def fnSpansSpec : ChangeSpec := { name := "fnSpans", fn := fun _ => fun
  | [d] => { results := [.lit (.bool true)], args := [d] }
  | _ => none }
def fnSpansRow : OpenClaim := { program := "ytelaihfjlkppiaa", sum := "2d93aa9ca3715fd353152bf4a690f5b39d68d43ca6cddbe4b93945e1eee2fd5b", func := "loop.example/g00989/laws.FnSpans", spec := "fnSpans", recurses := true, apart := false }
def FnSpansSaid : Prop := fnSpansRow.holds Try.pinned (OpenSpec.ofChange fnSpansSpec)

/-- ITS FALSE NEIGHBOUR: 'it returns false'. Refute it at one input. -/
def fnSpansWrong : ChangeSpec := { name := "fnSpans", fn := fun _ => fun
  | [d] => { results := [.lit (.bool false)], args := [d] }
  | _ => none }
def FnSpansWrongFalsely : Prop := fnSpansRow.holds Try.pinned (OpenSpec.ofChange fnSpansWrong)

/-- 'laws.FnExactScaleOk': WHATEVER THE INPUT: true; the input reads as it did. -/
def fnExactScaleOkSpec : ChangeSpec := { name := "fnExactScaleOk", fn := fun _ => fun
  | [d] => { results := [.lit (.bool true)], args := [d] }
  | _ => none }
def fnExactScaleOkRow : OpenClaim := { program := "ytelaihfjlkppiaa", sum := "2d93aa9ca3715fd353152bf4a690f5b39d68d43ca6cddbe4b93945e1eee2fd5b", func := "loop.example/g00989/laws.FnExactScaleOk", spec := "fnExactScaleOk", apart := false }
def FnExactScaleOkSaid : Prop := fnExactScaleOkRow.holds Try.pinned (OpenSpec.ofChange fnExactScaleOkSpec)

/-- ITS FALSE NEIGHBOUR: 'it returns false'. Refute it at one input. -/
def fnExactScaleOkWrong : ChangeSpec := { name := "fnExactScaleOk", fn := fun _ => fun
  | [d] => { results := [.lit (.bool false)], args := [d] }
  | _ => none }
def FnExactScaleOkWrongFalsely : Prop := fnExactScaleOkRow.holds Try.pinned (OpenSpec.ofChange fnExactScaleOkWrong)

/-- 'laws.FnExactScaleSum': WHATEVER THE INPUT: true; the input reads as it did. -/
def fnExactScaleSumSpec : ChangeSpec := { name := "fnExactScaleSum", fn := fun _ => fun
  | [d] => { results := [.lit (.bool true)], args := [d] }
  | _ => none }
def fnExactScaleSumRow : OpenClaim := { program := "ytelaihfjlkppiaa", sum := "2d93aa9ca3715fd353152bf4a690f5b39d68d43ca6cddbe4b93945e1eee2fd5b", func := "loop.example/g00989/laws.FnExactScaleSum", spec := "fnExactScaleSum", apart := false }
def FnExactScaleSumSaid : Prop := fnExactScaleSumRow.holds Try.pinned (OpenSpec.ofChange fnExactScaleSumSpec)

/-- ITS FALSE NEIGHBOUR: 'it returns false'. Refute it at one input. -/
def fnExactScaleSumWrong : ChangeSpec := { name := "fnExactScaleSum", fn := fun _ => fun
  | [d] => { results := [.lit (.bool false)], args := [d] }
  | _ => none }
def FnExactScaleSumWrongFalsely : Prop := fnExactScaleSumRow.holds Try.pinned (OpenSpec.ofChange fnExactScaleSumWrong)

/-- 'laws.FnExactSpanAt': WHATEVER THE INPUT: true; the input reads as it did. -/
def fnExactSpanAtSpec : ChangeSpec := { name := "fnExactSpanAt", fn := fun _ => fun
  | [d1, d2, d3] => { results := [.lit (.bool true)], args := [d1, d2, d3] }
  | _ => none }
def fnExactSpanAtRow : OpenClaim := { program := "ytelaihfjlkppiaa", sum := "2d93aa9ca3715fd353152bf4a690f5b39d68d43ca6cddbe4b93945e1eee2fd5b", func := "loop.example/g00989/laws.FnExactSpanAt", spec := "fnExactSpanAt", apart := false }
def FnExactSpanAtSaid : Prop := fnExactSpanAtRow.holds Try.pinned (OpenSpec.ofChange fnExactSpanAtSpec)

/-- ITS FALSE NEIGHBOUR: 'it returns false'. Refute it at one input. -/
def fnExactSpanAtWrong : ChangeSpec := { name := "fnExactSpanAt", fn := fun _ => fun
  | [d1, d2, d3] => { results := [.lit (.bool false)], args := [d1, d2, d3] }
  | _ => none }
def FnExactSpanAtWrongFalsely : Prop := fnExactSpanAtRow.holds Try.pinned (OpenSpec.ofChange fnExactSpanAtWrong)

/-- 'laws.FnExactSpansOf': WHATEVER THE INPUT: true; the input reads as it did. -/
def fnExactSpansOfSpec : ChangeSpec := { name := "fnExactSpansOf", fn := fun _ => fun
  | [d1, d2] => { results := [.lit (.bool true)], args := [d1, d2] }
  | _ => none }
def fnExactSpansOfRow : OpenClaim := { program := "ytelaihfjlkppiaa", sum := "2d93aa9ca3715fd353152bf4a690f5b39d68d43ca6cddbe4b93945e1eee2fd5b", func := "loop.example/g00989/laws.FnExactSpansOf", spec := "fnExactSpansOf", recurses := true, apart := false }
def FnExactSpansOfSaid : Prop := fnExactSpansOfRow.holds Try.pinned (OpenSpec.ofChange fnExactSpansOfSpec)

/-- ITS FALSE NEIGHBOUR: 'it returns false'. Refute it at one input. -/
def fnExactSpansOfWrong : ChangeSpec := { name := "fnExactSpansOf", fn := fun _ => fun
  | [d1, d2] => { results := [.lit (.bool false)], args := [d1, d2] }
  | _ => none }
def FnExactSpansOfWrongFalsely : Prop := fnExactSpansOfRow.holds Try.pinned (OpenSpec.ofChange fnExactSpansOfWrong)

/-- 'laws.FnExactHasTwoSizes': WHATEVER THE INPUT: true; the input reads as it did. -/
def fnExactHasTwoSizesSpec : ChangeSpec := { name := "fnExactHasTwoSizes", fn := fun _ => fun
  | [d] => { results := [.lit (.bool true)], args := [d] }
  | _ => none }
def fnExactHasTwoSizesRow : OpenClaim := { program := "ytelaihfjlkppiaa", sum := "2d93aa9ca3715fd353152bf4a690f5b39d68d43ca6cddbe4b93945e1eee2fd5b", func := "loop.example/g00989/laws.FnExactHasTwoSizes", spec := "fnExactHasTwoSizes", recurses := true, apart := false }
def FnExactHasTwoSizesSaid : Prop := fnExactHasTwoSizesRow.holds Try.pinned (OpenSpec.ofChange fnExactHasTwoSizesSpec)

/-- ITS FALSE NEIGHBOUR: 'it returns false'. Refute it at one input. -/
def fnExactHasTwoSizesWrong : ChangeSpec := { name := "fnExactHasTwoSizes", fn := fun _ => fun
  | [d] => { results := [.lit (.bool false)], args := [d] }
  | _ => none }
def FnExactHasTwoSizesWrongFalsely : Prop := fnExactHasTwoSizesRow.holds Try.pinned (OpenSpec.ofChange fnExactHasTwoSizesWrong)

/-- 'laws.FnExactMajorScale': WHATEVER THE INPUT: true; the input reads as it did. -/
def fnExactMajorScaleSpec : ChangeSpec := { name := "fnExactMajorScale", fn := fun _ => fun
  | [] => { results := [.lit (.bool true)], args := [] }
  | _ => none }
def fnExactMajorScaleRow : OpenClaim := { program := "ytelaihfjlkppiaa", sum := "2d93aa9ca3715fd353152bf4a690f5b39d68d43ca6cddbe4b93945e1eee2fd5b", func := "loop.example/g00989/laws.FnExactMajorScale", spec := "fnExactMajorScale", apart := false }
def FnExactMajorScaleSaid : Prop := fnExactMajorScaleRow.holds Try.pinned (OpenSpec.ofChange fnExactMajorScaleSpec)

/-- ITS FALSE NEIGHBOUR: 'it returns false'. Refute it at one input. -/
def fnExactMajorScaleWrong : ChangeSpec := { name := "fnExactMajorScale", fn := fun _ => fun
  | [] => { results := [.lit (.bool false)], args := [] }
  | _ => none }
def FnExactMajorScaleWrongFalsely : Prop := fnExactMajorScaleRow.holds Try.pinned (OpenSpec.ofChange fnExactMajorScaleWrong)

/- THE SECOND FORM. 'bulk': how many values and letters a reading holds, each counted each time it is reached (what is shared counts as often as it is met; a slice's spare places count too). A statement '..UptoSaid' is the law's where the arguments, and the package variables that the reading takes, are together of bulk at most 1048576: NARROWER than '..Said'. Prove '..Said' where nothing that the law and all that it calls make is longer than what came in: it says more and counts as full. Else prove '..UptoSaid'. A law counts once. -/
mutual
def uptoBulk {H : Type} : DataW H → Nat
  | .lit (.string bytes) => bytes.length + 1
  | .lit _ => 1
  | .nil => 1
  | .ptr d => uptoBulk d + 1
  | .slice elems spare => uptoBulkAll elems + uptoBulkAll spare + 1
  | .agg parts => uptoBulkAll parts + 1
  | .iface _ d => uptoBulk d + 1
  | .map entries => uptoBulkEntries entries + 1
  | .held _ => 1
def uptoBulkAll {H : Type} : List (DataW H) → Nat
  | [] => 0
  | d :: r => uptoBulk d + uptoBulkAll r
def uptoBulkEntries {H : Type} : List (Lit × DataW H) → Nat
  | [] => 0
  | x :: r => uptoBulkEntry x + uptoBulkEntries r
def uptoBulkEntry {H : Type} : Lit × DataW H → Nat
  | (.string bytes, d) => bytes.length + uptoBulk d + 1
  | (_, d) => uptoBulk d + 1
 end
def uptoSmall : (H : Type) → List (DataW H) → Bool := fun _ ds => decide (uptoBulkAll ds ≤ 1048576)
def OpenSpec.upto (s : _root_.Go.ChangeSpec) : _root_.Go.OpenSpec := { _root_.Go.OpenSpec.ofChange s with cond := some uptoSmall }

/-- 'laws.FnSpans', WHERE WHAT IT READS IS OF BULK AT MOST 1048576: true; the input reads as it did. -/
def fnSpansUptoRow : OpenClaim := { program := "ytelaihfjlkppiaa", sum := "2d93aa9ca3715fd353152bf4a690f5b39d68d43ca6cddbe4b93945e1eee2fd5b", func := "loop.example/g00989/laws.FnSpans", spec := "fnSpans", recurses := true, apart := false, narrowed := true }
def FnSpansUptoSaid : Prop := fnSpansUptoRow.holds Try.pinned (OpenSpec.upto fnSpansSpec)

/-- 'laws.FnExactScaleOk', WHERE WHAT IT READS IS OF BULK AT MOST 1048576: true; the input reads as it did. -/
def fnExactScaleOkUptoRow : OpenClaim := { program := "ytelaihfjlkppiaa", sum := "2d93aa9ca3715fd353152bf4a690f5b39d68d43ca6cddbe4b93945e1eee2fd5b", func := "loop.example/g00989/laws.FnExactScaleOk", spec := "fnExactScaleOk", apart := false, narrowed := true }
def FnExactScaleOkUptoSaid : Prop := fnExactScaleOkUptoRow.holds Try.pinned (OpenSpec.upto fnExactScaleOkSpec)

/-- 'laws.FnExactScaleSum', WHERE WHAT IT READS IS OF BULK AT MOST 1048576: true; the input reads as it did. -/
def fnExactScaleSumUptoRow : OpenClaim := { program := "ytelaihfjlkppiaa", sum := "2d93aa9ca3715fd353152bf4a690f5b39d68d43ca6cddbe4b93945e1eee2fd5b", func := "loop.example/g00989/laws.FnExactScaleSum", spec := "fnExactScaleSum", apart := false, narrowed := true }
def FnExactScaleSumUptoSaid : Prop := fnExactScaleSumUptoRow.holds Try.pinned (OpenSpec.upto fnExactScaleSumSpec)

/-- 'laws.FnExactSpanAt', WHERE WHAT IT READS IS OF BULK AT MOST 1048576: true; the input reads as it did. -/
def fnExactSpanAtUptoRow : OpenClaim := { program := "ytelaihfjlkppiaa", sum := "2d93aa9ca3715fd353152bf4a690f5b39d68d43ca6cddbe4b93945e1eee2fd5b", func := "loop.example/g00989/laws.FnExactSpanAt", spec := "fnExactSpanAt", apart := false, narrowed := true }
def FnExactSpanAtUptoSaid : Prop := fnExactSpanAtUptoRow.holds Try.pinned (OpenSpec.upto fnExactSpanAtSpec)

/-- 'laws.FnExactSpansOf', WHERE WHAT IT READS IS OF BULK AT MOST 1048576: true; the input reads as it did. -/
def fnExactSpansOfUptoRow : OpenClaim := { program := "ytelaihfjlkppiaa", sum := "2d93aa9ca3715fd353152bf4a690f5b39d68d43ca6cddbe4b93945e1eee2fd5b", func := "loop.example/g00989/laws.FnExactSpansOf", spec := "fnExactSpansOf", recurses := true, apart := false, narrowed := true }
def FnExactSpansOfUptoSaid : Prop := fnExactSpansOfUptoRow.holds Try.pinned (OpenSpec.upto fnExactSpansOfSpec)

/-- 'laws.FnExactHasTwoSizes', WHERE WHAT IT READS IS OF BULK AT MOST 1048576: true; the input reads as it did. -/
def fnExactHasTwoSizesUptoRow : OpenClaim := { program := "ytelaihfjlkppiaa", sum := "2d93aa9ca3715fd353152bf4a690f5b39d68d43ca6cddbe4b93945e1eee2fd5b", func := "loop.example/g00989/laws.FnExactHasTwoSizes", spec := "fnExactHasTwoSizes", recurses := true, apart := false, narrowed := true }
def FnExactHasTwoSizesUptoSaid : Prop := fnExactHasTwoSizesUptoRow.holds Try.pinned (OpenSpec.upto fnExactHasTwoSizesSpec)

/-- 'laws.FnExactMajorScale', WHERE WHAT IT READS IS OF BULK AT MOST 1048576: true; the input reads as it did. -/
def fnExactMajorScaleUptoRow : OpenClaim := { program := "ytelaihfjlkppiaa", sum := "2d93aa9ca3715fd353152bf4a690f5b39d68d43ca6cddbe4b93945e1eee2fd5b", func := "loop.example/g00989/laws.FnExactMajorScale", spec := "fnExactMajorScale", apart := false, narrowed := true }
def FnExactMajorScaleUptoSaid : Prop := fnExactMajorScaleUptoRow.holds Try.pinned (OpenSpec.upto fnExactMajorScaleSpec)

end Rows
end Go.Proofs.Ytelaihfjlkppiaa
