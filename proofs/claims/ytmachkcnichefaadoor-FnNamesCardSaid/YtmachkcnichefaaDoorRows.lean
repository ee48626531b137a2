/-
  NARROWER THAN 'FOR EVERY INPUT', by the rows' own cells (each row's printed sentence says how): FnNames: laid · FnExactNoteName: laid · FnExactNoteNumber: laid.
  DERIVED. THE GIVEN ROWS OF THIS SEAT. 3 by the template 'for every input the law returns true; each argument reads behind the call as it read before'; 0 by the template 'total and deterministic' (their statements: YtmachkcnichefaaDoorTotals.lean).
  GIVEN WITH THE SEED: the statements are not yours to turn. If you find one false, say at which input.
  Laid BY PROGRAM, IN A SANDBOX (cutbox-rows.mjs): the forced cells as the released guide's own fill.sh prints them over the translation cb7012fa38ddf25e… (all of the seat's roots in one cut). By AI agents, Wed Nov 11 2026. No macro, syntax, notation, axiom, sorry.
-/
import Derived.Test.YtmachkcnichefaaDoorChecked
import GoSem.Claim
import GoSem.ClaimJoined
import GoSem.ClaimMapViews
import Derived.JoinedTies
import Derived.KernelRfl
namespace Go.Proofs.YtmachkcnichefaaDoor
/- THE CELL 'sum', in the pinned program and in every row, IS THE sha256 OF THE DUMP (.gsa) THAT YtmachkcnichefaaDoorProg.lean LOADS. Nothing in Lean hashes anything: it is a label: what it is worth is what the hold of that sum in a sandbox is worth. -/
noncomputable def Tryd.pinned : Pinned := { name := "ytmachkcnichefaadoor", sum := "cb7012fa38ddf25e8fb047a764868669f92ef06f09c7150f7317de8873839ce1", checked := Tryd.checked }
namespace Rows
def none {H : Type} : Left H := { results := [], args := [] }

/- WHAT THE LISTED PACKAGE-LEVEL VARIABLES READ AS WHEN THE CALL BEGINS. Each datum BY PROGRAM (the guide's laid-datum.mjs) off the statement by which the dump's own 'gosem.cut.vars' lays the variable. In a bare row this is a premise. The card (YtmachkcnichefaaDoorCards.lean) ties it to the program's text. -/
def laid_loop_example_g00989_impl_noteLetters {H : Type} : DataW H := .agg [.lit (.string [67]), .lit (.string [68]), .lit (.string [69]), .lit (.string [70]), .lit (.string [71]), .lit (.string [65]), .lit (.string [66])]

/-- 'laws.FnNames': WHATEVER THE INPUT: true; the input reads as it did. -/
def fnNamesSpec : ChangeSpec := { name := "fnNames", vars := ["loop.example/g00989/impl.noteLetters"], fn := fun _ => fun
  | [d, g1] => { results := [.lit (.bool true)], args := [d], vars := [g1] }
  | _ => none }
def fnNamesRow : OpenClaim := { program := "ytmachkcnichefaadoor", sum := "cb7012fa38ddf25e8fb047a764868669f92ef06f09c7150f7317de8873839ce1", func := "loop.example/g00989/laws.FnNames", spec := "fnNames", inPlace := ["internal/abi.NoEscape", "internal/bytealg.MakeNoZero"], named := ["loop.example/g00989/impl.noteLetters"], apart := false, laid := [("loop.example/g00989/impl.noteLetters", laid_loop_example_g00989_impl_noteLetters)] }
def FnNamesSaid : Prop := fnNamesRow.holds Tryd.pinned (OpenSpec.ofChange fnNamesSpec)

/-- ITS FALSE NEIGHBOUR: 'it returns false'. Refute it at one input. -/
def fnNamesWrong : ChangeSpec := { name := "fnNames", vars := ["loop.example/g00989/impl.noteLetters"], fn := fun _ => fun
  | [d, g1] => { results := [.lit (.bool false)], args := [d], vars := [g1] }
  | _ => none }
def FnNamesWrongFalsely : Prop := fnNamesRow.holds Tryd.pinned (OpenSpec.ofChange fnNamesWrong)

/-- 'laws.FnExactNoteName': WHATEVER THE INPUT: true; the input reads as it did. -/
def fnExactNoteNameSpec : ChangeSpec := { name := "fnExactNoteName", vars := ["loop.example/g00989/impl.noteLetters"], fn := fun _ => fun
  | [d, g1] => { results := [.lit (.bool true)], args := [d], vars := [g1] }
  | _ => none }
def fnExactNoteNameRow : OpenClaim := { program := "ytmachkcnichefaadoor", sum := "cb7012fa38ddf25e8fb047a764868669f92ef06f09c7150f7317de8873839ce1", func := "loop.example/g00989/laws.FnExactNoteName", spec := "fnExactNoteName", inPlace := ["internal/abi.NoEscape", "internal/bytealg.MakeNoZero"], named := ["loop.example/g00989/impl.noteLetters"], apart := false, laid := [("loop.example/g00989/impl.noteLetters", laid_loop_example_g00989_impl_noteLetters)] }
def FnExactNoteNameSaid : Prop := fnExactNoteNameRow.holds Tryd.pinned (OpenSpec.ofChange fnExactNoteNameSpec)

/-- ITS FALSE NEIGHBOUR: 'it returns false'. Refute it at one input. -/
def fnExactNoteNameWrong : ChangeSpec := { name := "fnExactNoteName", vars := ["loop.example/g00989/impl.noteLetters"], fn := fun _ => fun
  | [d, g1] => { results := [.lit (.bool false)], args := [d], vars := [g1] }
  | _ => none }
def FnExactNoteNameWrongFalsely : Prop := fnExactNoteNameRow.holds Tryd.pinned (OpenSpec.ofChange fnExactNoteNameWrong)

/-- 'laws.FnExactNoteNumber': WHATEVER THE INPUT: true; the input reads as it did. -/
def fnExactNoteNumberSpec : ChangeSpec := { name := "fnExactNoteNumber", vars := ["loop.example/g00989/impl.noteLetters"], fn := fun _ => fun
  | [d, g1] => { results := [.lit (.bool true)], args := [d], vars := [g1] }
  | _ => none }
def fnExactNoteNumberRow : OpenClaim := { program := "ytmachkcnichefaadoor", sum := "cb7012fa38ddf25e8fb047a764868669f92ef06f09c7150f7317de8873839ce1", func := "loop.example/g00989/laws.FnExactNoteNumber", spec := "fnExactNoteNumber", inPlace := ["internal/abi.NoEscape", "internal/bytealg.MakeNoZero"], named := ["loop.example/g00989/impl.noteLetters"], apart := false, laid := [("loop.example/g00989/impl.noteLetters", laid_loop_example_g00989_impl_noteLetters)] }
def FnExactNoteNumberSaid : Prop := fnExactNoteNumberRow.holds Tryd.pinned (OpenSpec.ofChange fnExactNoteNumberSpec)

/-- ITS FALSE NEIGHBOUR: 'it returns false'. Refute it at one input. -/
def fnExactNoteNumberWrong : ChangeSpec := { name := "fnExactNoteNumber", vars := ["loop.example/g00989/impl.noteLetters"], fn := fun _ => fun
  | [d, g1] => { results := [.lit (.bool false)], args := [d], vars := [g1] }
  | _ => none }
def FnExactNoteNumberWrongFalsely : Prop := fnExactNoteNumberRow.holds Tryd.pinned (OpenSpec.ofChange fnExactNoteNumberWrong)

/- THE SECOND FORM. 'bulk': how many values and letters a reading holds, each counted each time it is reached (what is shared counts as often as it is met; a slice's spare places count too). A statement '..UptoSaid' is the law's where the arguments, and the package variables that the reading takes, are together of bulk at most 1048576: NARROWER than '..Said'. Prove '..Said' where nothing that the law and all that it calls make is longer than what came in: it says more and counts as full. Else prove '..UptoSaid'. A law counts once. -/
mutual
def uptoBulk {H : Type} : DataW H → Nat
  | .lit (.string bytes) => bytes.length + 1
  | .lit _ => 1
  | .nil => 1
  | .ptr d => uptoBulk d + 1
  | .slice elems spare => uptoBulkAll elems + uptoBulkAll spare + 1
  | .agg parts => uptoBulkAll parts + 1
  | .iface _ d => uptoBulk d + 1
  | .map entries => uptoBulkEntries entries + 1
  | .held _ => 1
def uptoBulkAll {H : Type} : List (DataW H) → Nat
  | [] => 0
  | d :: r => uptoBulk d + uptoBulkAll r
def uptoBulkEntries {H : Type} : List (Lit × DataW H) → Nat
  | [] => 0
  | x :: r => uptoBulkEntry x + uptoBulkEntries r
def uptoBulkEntry {H : Type} : Lit × DataW H → Nat
  | (.string bytes, d) => bytes.length + uptoBulk d + 1
  | (_, d) => uptoBulk d + 1
 end
def uptoSmall : (H : Type) → List (DataW H) → Bool := fun _ ds => decide (uptoBulkAll ds ≤ 1048576)
def OpenSpec.upto (s : _root_.Go.ChangeSpec) : _root_.Go.OpenSpec := { _root_.Go.OpenSpec.ofChange s with cond := some uptoSmall }

/-- 'laws.FnNames', WHERE WHAT IT READS IS OF BULK AT MOST 1048576: true; the input reads as it did. -/
def fnNamesUptoRow : OpenClaim := { program := "ytmachkcnichefaadoor", sum := "cb7012fa38ddf25e8fb047a764868669f92ef06f09c7150f7317de8873839ce1", func := "loop.example/g00989/laws.FnNames", spec := "fnNames", inPlace := ["internal/abi.NoEscape", "internal/bytealg.MakeNoZero"], named := ["loop.example/g00989/impl.noteLetters"], apart := false, laid := [("loop.example/g00989/impl.noteLetters", laid_loop_example_g00989_impl_noteLetters)], narrowed := true }
def FnNamesUptoSaid : Prop := fnNamesUptoRow.holds Tryd.pinned (OpenSpec.upto fnNamesSpec)

/-- 'laws.FnExactNoteName', WHERE WHAT IT READS IS OF BULK AT MOST 1048576: true; the input reads as it did. -/
def fnExactNoteNameUptoRow : OpenClaim := { program := "ytmachkcnichefaadoor", sum := "cb7012fa38ddf25e8fb047a764868669f92ef06f09c7150f7317de8873839ce1", func := "loop.example/g00989/laws.FnExactNoteName", spec := "fnExactNoteName", inPlace := ["internal/abi.NoEscape", "internal/bytealg.MakeNoZero"], named := ["loop.example/g00989/impl.noteLetters"], apart := false, laid := [("loop.example/g00989/impl.noteLetters", laid_loop_example_g00989_impl_noteLetters)], narrowed := true }
def FnExactNoteNameUptoSaid : Prop := fnExactNoteNameUptoRow.holds Tryd.pinned (OpenSpec.upto fnExactNoteNameSpec)

/-- 'laws.FnExactNoteNumber', WHERE WHAT IT READS IS OF BULK AT MOST 1048576: true; the input reads as it did. -/
def fnExactNoteNumberUptoRow : OpenClaim := { program := "ytmachkcnichefaadoor", sum := "cb7012fa38ddf25e8fb047a764868669f92ef06f09c7150f7317de8873839ce1", func := "loop.example/g00989/laws.FnExactNoteNumber", spec := "fnExactNoteNumber", inPlace := ["internal/abi.NoEscape", "internal/bytealg.MakeNoZero"], named := ["loop.example/g00989/impl.noteLetters"], apart := false, laid := [("loop.example/g00989/impl.noteLetters", laid_loop_example_g00989_impl_noteLetters)], narrowed := true }
def FnExactNoteNumberUptoSaid : Prop := fnExactNoteNumberUptoRow.holds Tryd.pinned (OpenSpec.upto fnExactNoteNumberSpec)

end Rows
end Go.Proofs.YtmachkcnichefaaDoor
