/-
  No cell of these rows narrows 'for every input' (looked for: loops, veiled, ifaces, maps, wideKeys, modest, calm, conditions, laid).
  DERIVED. THE GIVEN ROWS OF THIS SEAT. 4 by the template 'for every input the law returns true; each argument reads behind the call as it read before'; 0 by the template 'total and deterministic' (their statements: YtmachkcnichefaaTotals.lean).
  GIVEN WITH THE SEED: the statements are not yours to turn. If you find one false, say at which input.
  Laid BY PROGRAM, IN A SANDBOX (cutbox-rows.mjs): the forced cells as the released guide's own fill.sh prints them over the translation 8f0f418477ef8382… (all of the seat's roots in one cut). By AI agents, Wed Nov 11 2026. No macro, syntax, notation, axiom, sorry.
-/
import Derived.Test.YtmachkcnichefaaChecked
import GoSem.Claim
import GoSem.ClaimJoined
import GoSem.ClaimMapViews
import Derived.JoinedTies
import Derived.KernelRfl
namespace Go.Proofs.Ytmachkcnichefaa
/- THE CELL 'sum', in the pinned program and in every row, IS THE sha256 OF THE DUMP (.gsa) THAT YtmachkcnichefaaProg.lean LOADS. Nothing in Lean hashes anything: it is a label: what it is worth is what the hold of that sum in a sandbox is worth. -/
noncomputable def Try.pinned : Pinned := { name := "ytmachkcnichefaa", sum := "8f0f418477ef83826b235773475807dcc5de27ef021541f166eea358e7d6cdd6", checked := Try.checked }
namespace Rows
def none {H : Type} : Left H := { results := [], args := [] }

/-- 'laws.FnExactLetterOf': WHATEVER THE INPUT: true; the input reads as it did. -/
def fnExactLetterOfSpec : ChangeSpec := { name := "fnExactLetterOf", fn := fun _ => fun
  | [d] => { results := [.lit (.bool true)], args := [d] }
  | _ => none }
def fnExactLetterOfRow : OpenClaim := { program := "ytmachkcnichefaa", sum := "8f0f418477ef83826b235773475807dcc5de27ef021541f166eea358e7d6cdd6", func := "loop.example/g00989/laws.FnExactLetterOf", spec := "fnExactLetterOf", apart := false }
def FnExactLetterOfSaid : Prop := fnExactLetterOfRow.holds Try.pinned (OpenSpec.ofChange fnExactLetterOfSpec)

/-- ITS FALSE NEIGHBOUR: 'it returns false'. Refute it at one input. -/
def fnExactLetterOfWrong : ChangeSpec := { name := "fnExactLetterOf", fn := fun _ => fun
  | [d] => { results := [.lit (.bool false)], args := [d] }
  | _ => none }
def FnExactLetterOfWrongFalsely : Prop := fnExactLetterOfRow.holds Try.pinned (OpenSpec.ofChange fnExactLetterOfWrong)

/-- 'laws.FnExactAccidentalOf': WHATEVER THE INPUT: true; the input reads as it did. -/
def fnExactAccidentalOfSpec : ChangeSpec := { name := "fnExactAccidentalOf", fn := fun _ => fun
  | [d] => { results := [.lit (.bool true)], args := [d] }
  | _ => none }
def fnExactAccidentalOfRow : OpenClaim := { program := "ytmachkcnichefaa", sum := "8f0f418477ef83826b235773475807dcc5de27ef021541f166eea358e7d6cdd6", func := "loop.example/g00989/laws.FnExactAccidentalOf", spec := "fnExactAccidentalOf", apart := false }
def FnExactAccidentalOfSaid : Prop := fnExactAccidentalOfRow.holds Try.pinned (OpenSpec.ofChange fnExactAccidentalOfSpec)

/-- ITS FALSE NEIGHBOUR: 'it returns false'. Refute it at one input. -/
def fnExactAccidentalOfWrong : ChangeSpec := { name := "fnExactAccidentalOf", fn := fun _ => fun
  | [d] => { results := [.lit (.bool false)], args := [d] }
  | _ => none }
def FnExactAccidentalOfWrongFalsely : Prop := fnExactAccidentalOfRow.holds Try.pinned (OpenSpec.ofChange fnExactAccidentalOfWrong)

/-- 'laws.FnExactStepsUp': WHATEVER THE INPUT: true; the input reads as it did. -/
def fnExactStepsUpSpec : ChangeSpec := { name := "fnExactStepsUp", fn := fun _ => fun
  | [d1, d2] => { results := [.lit (.bool true)], args := [d1, d2] }
  | _ => none }
def fnExactStepsUpRow : OpenClaim := { program := "ytmachkcnichefaa", sum := "8f0f418477ef83826b235773475807dcc5de27ef021541f166eea358e7d6cdd6", func := "loop.example/g00989/laws.FnExactStepsUp", spec := "fnExactStepsUp", apart := false }
def FnExactStepsUpSaid : Prop := fnExactStepsUpRow.holds Try.pinned (OpenSpec.ofChange fnExactStepsUpSpec)

/-- ITS FALSE NEIGHBOUR: 'it returns false'. Refute it at one input. -/
def fnExactStepsUpWrong : ChangeSpec := { name := "fnExactStepsUp", fn := fun _ => fun
  | [d1, d2] => { results := [.lit (.bool false)], args := [d1, d2] }
  | _ => none }
def FnExactStepsUpWrongFalsely : Prop := fnExactStepsUpRow.holds Try.pinned (OpenSpec.ofChange fnExactStepsUpWrong)

/-- 'laws.FnExactAreEnharmonic': WHATEVER THE INPUT: true; the input reads as it did. -/
def fnExactAreEnharmonicSpec : ChangeSpec := { name := "fnExactAreEnharmonic", fn := fun _ => fun
  | [d1, d2] => { results := [.lit (.bool true)], args := [d1, d2] }
  | _ => none }
def fnExactAreEnharmonicRow : OpenClaim := { program := "ytmachkcnichefaa", sum := "8f0f418477ef83826b235773475807dcc5de27ef021541f166eea358e7d6cdd6", func := "loop.example/g00989/laws.FnExactAreEnharmonic", spec := "fnExactAreEnharmonic", apart := false }
def FnExactAreEnharmonicSaid : Prop := fnExactAreEnharmonicRow.holds Try.pinned (OpenSpec.ofChange fnExactAreEnharmonicSpec)

/-- ITS FALSE NEIGHBOUR: 'it returns false'. Refute it at one input. -/
def fnExactAreEnharmonicWrong : ChangeSpec := { name := "fnExactAreEnharmonic", fn := fun _ => fun
  | [d1, d2] => { results := [.lit (.bool false)], args := [d1, d2] }
  | _ => none }
def FnExactAreEnharmonicWrongFalsely : Prop := fnExactAreEnharmonicRow.holds Try.pinned (OpenSpec.ofChange fnExactAreEnharmonicWrong)

/- THE SECOND FORM. 'bulk': how many values and letters a reading holds, each counted each time it is reached (what is shared counts as often as it is met; a slice's spare places count too). A statement '..UptoSaid' is the law's where the arguments, and the package variables that the reading takes, are together of bulk at most 1048576: NARROWER than '..Said'. Prove '..Said' where nothing that the law and all that it calls make is longer than what came in: it says more and counts as full. Else prove '..UptoSaid'. A law counts once. -/
mutual
def uptoBulk {H : Type} : DataW H → Nat
  | .lit (.string bytes) => bytes.length + 1
  | .lit _ => 1
  | .nil => 1
  | .ptr d => uptoBulk d + 1
  | .slice elems spare => uptoBulkAll elems + uptoBulkAll spare + 1
  | .agg parts => uptoBulkAll parts + 1
  | .iface _ d => uptoBulk d + 1
  | .map entries => uptoBulkEntries entries + 1
  | .held _ => 1
def uptoBulkAll {H : Type} : List (DataW H) → Nat
  | [] => 0
  | d :: r => uptoBulk d + uptoBulkAll r
def uptoBulkEntries {H : Type} : List (Lit × DataW H) → Nat
  | [] => 0
  | x :: r => uptoBulkEntry x + uptoBulkEntries r
def uptoBulkEntry {H : Type} : Lit × DataW H → Nat
  | (.string bytes, d) => bytes.length + uptoBulk d + 1
  | (_, d) => uptoBulk d + 1
 end
def uptoSmall : (H : Type) → List (DataW H) → Bool := fun _ ds => decide (uptoBulkAll ds ≤ 1048576)
def OpenSpec.upto (s : _root_.Go.ChangeSpec) : _root_.Go.OpenSpec := { _root_.Go.OpenSpec.ofChange s with cond := some uptoSmall }

/-- 'laws.FnExactLetterOf', WHERE WHAT IT READS IS OF BULK AT MOST 1048576: true; the input reads as it did. -/
def fnExactLetterOfUptoRow : OpenClaim := { program := "ytmachkcnichefaa", sum := "8f0f418477ef83826b235773475807dcc5de27ef021541f166eea358e7d6cdd6", func := "loop.example/g00989/laws.FnExactLetterOf", spec := "fnExactLetterOf", apart := false, narrowed := true }
def FnExactLetterOfUptoSaid : Prop := fnExactLetterOfUptoRow.holds Try.pinned (OpenSpec.upto fnExactLetterOfSpec)

/-- 'laws.FnExactAccidentalOf', WHERE WHAT IT READS IS OF BULK AT MOST 1048576: true; the input reads as it did. -/
def fnExactAccidentalOfUptoRow : OpenClaim := { program := "ytmachkcnichefaa", sum := "8f0f418477ef83826b235773475807dcc5de27ef021541f166eea358e7d6cdd6", func := "loop.example/g00989/laws.FnExactAccidentalOf", spec := "fnExactAccidentalOf", apart := false, narrowed := true }
def FnExactAccidentalOfUptoSaid : Prop := fnExactAccidentalOfUptoRow.holds Try.pinned (OpenSpec.upto fnExactAccidentalOfSpec)

/-- 'laws.FnExactStepsUp', WHERE WHAT IT READS IS OF BULK AT MOST 1048576: true; the input reads as it did. -/
def fnExactStepsUpUptoRow : OpenClaim := { program := "ytmachkcnichefaa", sum := "8f0f418477ef83826b235773475807dcc5de27ef021541f166eea358e7d6cdd6", func := "loop.example/g00989/laws.FnExactStepsUp", spec := "fnExactStepsUp", apart := false, narrowed := true }
def FnExactStepsUpUptoSaid : Prop := fnExactStepsUpUptoRow.holds Try.pinned (OpenSpec.upto fnExactStepsUpSpec)

/-- 'laws.FnExactAreEnharmonic', WHERE WHAT IT READS IS OF BULK AT MOST 1048576: true; the input reads as it did. -/
def fnExactAreEnharmonicUptoRow : OpenClaim := { program := "ytmachkcnichefaa", sum := "8f0f418477ef83826b235773475807dcc5de27ef021541f166eea358e7d6cdd6", func := "loop.example/g00989/laws.FnExactAreEnharmonic", spec := "fnExactAreEnharmonic", apart := false, narrowed := true }
def FnExactAreEnharmonicUptoSaid : Prop := fnExactAreEnharmonicUptoRow.holds Try.pinned (OpenSpec.upto fnExactAreEnharmonicSpec)

end Rows
end Go.Proofs.Ytmachkcnichefaa
