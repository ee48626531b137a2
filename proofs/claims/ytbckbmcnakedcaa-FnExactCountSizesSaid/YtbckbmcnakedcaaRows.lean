/-
  No cell of these rows narrows 'for every input' (looked for: loops, veiled, ifaces, maps, wideKeys, modest, calm, conditions, laid).
  DERIVED. THE GIVEN ROWS OF THIS SEAT. 3 by the template 'for every input the law returns true; each argument reads behind the call as it read before'; 0 by the template 'total and deterministic' (their statements: YtbckbmcnakedcaaTotals.lean).
  GIVEN WITH THE SEED: the statements are not yours to turn. If you find one false, say at which input.
  Laid BY PROGRAM, IN A SANDBOX (cutbox-rows.mjs): the forced cells as the released guide's own fill.sh prints them over the translation f43a92e4bab41907… (all of the seat's roots in one cut). By AI agents, Wed Nov 11 2026. No macro, syntax, notation, axiom, sorry.
-/
import Derived.Test.YtbckbmcnakedcaaChecked
import GoSem.Claim
import GoSem.ClaimJoined
import GoSem.ClaimMapViews
import Derived.JoinedTies
import Derived.KernelRfl
namespace Go.Proofs.Ytbckbmcnakedcaa
/- THE CELL 'sum', in the pinned program and in every row, IS THE sha256 OF THE DUMP (.gsa) THAT YtbckbmcnakedcaaProg.lean LOADS. Nothing in Lean hashes anything: it is a label: what it is worth is what the hold of that sum in a sandbox is worth. -/
noncomputable def Try.pinned : Pinned := { name := "ytbckbmcnakedcaa", sum := "f43a92e4bab419071db879e99e4f64bed30760526049a8ad91c122daeecfea0b", checked := Try.checked }
namespace Rows
def none {H : Type} : Left H := { results := [], args := [] }

/-- 'laws.FnExactFifths': WHATEVER THE INPUT: true; the input reads as it did. -/
def fnExactFifthsSpec : ChangeSpec := { name := "fnExactFifths", fn := fun _ => fun
  | [d] => { results := [.lit (.bool true)], args := [d] }
  | _ => none }
def fnExactFifthsRow : OpenClaim := { program := "ytbckbmcnakedcaa", sum := "f43a92e4bab419071db879e99e4f64bed30760526049a8ad91c122daeecfea0b", func := "loop.example/g00989/laws.FnExactFifths", spec := "fnExactFifths", plainKeys := false, apart := false }
def FnExactFifthsSaid : Prop := fnExactFifthsRow.holds Try.pinned (OpenSpec.ofChange fnExactFifthsSpec)

/-- ITS FALSE NEIGHBOUR: 'it returns false'. Refute it at one input. -/
def fnExactFifthsWrong : ChangeSpec := { name := "fnExactFifths", fn := fun _ => fun
  | [d] => { results := [.lit (.bool false)], args := [d] }
  | _ => none }
def FnExactFifthsWrongFalsely : Prop := fnExactFifthsRow.holds Try.pinned (OpenSpec.ofChange fnExactFifthsWrong)

/-- 'laws.FnExactCountSizes': WHATEVER THE INPUT: true; the input reads as it did. -/
def fnExactCountSizesSpec : ChangeSpec := { name := "fnExactCountSizes", fn := fun _ => fun
  | [d] => { results := [.lit (.bool true)], args := [d] }
  | _ => none }
def fnExactCountSizesRow : OpenClaim := { program := "ytbckbmcnakedcaa", sum := "f43a92e4bab419071db879e99e4f64bed30760526049a8ad91c122daeecfea0b", func := "loop.example/g00989/laws.FnExactCountSizes", spec := "fnExactCountSizes", plainKeys := false, apart := false }
def FnExactCountSizesSaid : Prop := fnExactCountSizesRow.holds Try.pinned (OpenSpec.ofChange fnExactCountSizesSpec)

/-- ITS FALSE NEIGHBOUR: 'it returns false'. Refute it at one input. -/
def fnExactCountSizesWrong : ChangeSpec := { name := "fnExactCountSizes", fn := fun _ => fun
  | [d] => { results := [.lit (.bool false)], args := [d] }
  | _ => none }
def FnExactCountSizesWrongFalsely : Prop := fnExactCountSizesRow.holds Try.pinned (OpenSpec.ofChange fnExactCountSizesWrong)

/-- 'laws.FnExactInvertInterval': WHATEVER THE INPUT: true; the input reads as it did. -/
def fnExactInvertIntervalSpec : ChangeSpec := { name := "fnExactInvertInterval", fn := fun _ => fun
  | [d] => { results := [.lit (.bool true)], args := [d] }
  | _ => none }
def fnExactInvertIntervalRow : OpenClaim := { program := "ytbckbmcnakedcaa", sum := "f43a92e4bab419071db879e99e4f64bed30760526049a8ad91c122daeecfea0b", func := "loop.example/g00989/laws.FnExactInvertInterval", spec := "fnExactInvertInterval", plainKeys := false, apart := false }
def FnExactInvertIntervalSaid : Prop := fnExactInvertIntervalRow.holds Try.pinned (OpenSpec.ofChange fnExactInvertIntervalSpec)

/-- ITS FALSE NEIGHBOUR: 'it returns false'. Refute it at one input. -/
def fnExactInvertIntervalWrong : ChangeSpec := { name := "fnExactInvertInterval", fn := fun _ => fun
  | [d] => { results := [.lit (.bool false)], args := [d] }
  | _ => none }
def FnExactInvertIntervalWrongFalsely : Prop := fnExactInvertIntervalRow.holds Try.pinned (OpenSpec.ofChange fnExactInvertIntervalWrong)

/- THE SECOND FORM. 'bulk': how many values and letters a reading holds, each counted each time it is reached (what is shared counts as often as it is met; a slice's spare places count too). A statement '..UptoSaid' is the law's where the arguments, and the package variables that the reading takes, are together of bulk at most 1048576: NARROWER than '..Said'. Prove '..Said' where nothing that the law and all that it calls make is longer than what came in: it says more and counts as full. Else prove '..UptoSaid'. A law counts once. -/
mutual
def uptoBulk {H : Type} : DataW H → Nat
  | .lit (.string bytes) => bytes.length + 1
  | .lit _ => 1
  | .nil => 1
  | .ptr d => uptoBulk d + 1
  | .slice elems spare => uptoBulkAll elems + uptoBulkAll spare + 1
  | .agg parts => uptoBulkAll parts + 1
  | .iface _ d => uptoBulk d + 1
  | .map entries => uptoBulkEntries entries + 1
  | .held _ => 1
def uptoBulkAll {H : Type} : List (DataW H) → Nat
  | [] => 0
  | d :: r => uptoBulk d + uptoBulkAll r
def uptoBulkEntries {H : Type} : List (Lit × DataW H) → Nat
  | [] => 0
  | x :: r => uptoBulkEntry x + uptoBulkEntries r
def uptoBulkEntry {H : Type} : Lit × DataW H → Nat
  | (.string bytes, d) => bytes.length + uptoBulk d + 1
  | (_, d) => uptoBulk d + 1
 end
def uptoSmall : (H : Type) → List (DataW H) → Bool := fun _ ds => decide (uptoBulkAll ds ≤ 1048576)
def OpenSpec.upto (s : _root_.Go.ChangeSpec) : _root_.Go.OpenSpec := { _root_.Go.OpenSpec.ofChange s with cond := some uptoSmall }

/-- 'laws.FnExactFifths', WHERE WHAT IT READS IS OF BULK AT MOST 1048576: true; the input reads as it did. -/
def fnExactFifthsUptoRow : OpenClaim := { program := "ytbckbmcnakedcaa", sum := "f43a92e4bab419071db879e99e4f64bed30760526049a8ad91c122daeecfea0b", func := "loop.example/g00989/laws.FnExactFifths", spec := "fnExactFifths", plainKeys := false, apart := false, narrowed := true }
def FnExactFifthsUptoSaid : Prop := fnExactFifthsUptoRow.holds Try.pinned (OpenSpec.upto fnExactFifthsSpec)

/-- 'laws.FnExactCountSizes', WHERE WHAT IT READS IS OF BULK AT MOST 1048576: true; the input reads as it did. -/
def fnExactCountSizesUptoRow : OpenClaim := { program := "ytbckbmcnakedcaa", sum := "f43a92e4bab419071db879e99e4f64bed30760526049a8ad91c122daeecfea0b", func := "loop.example/g00989/laws.FnExactCountSizes", spec := "fnExactCountSizes", plainKeys := false, apart := false, narrowed := true }
def FnExactCountSizesUptoSaid : Prop := fnExactCountSizesUptoRow.holds Try.pinned (OpenSpec.upto fnExactCountSizesSpec)

/-- 'laws.FnExactInvertInterval', WHERE WHAT IT READS IS OF BULK AT MOST 1048576: true; the input reads as it did. -/
def fnExactInvertIntervalUptoRow : OpenClaim := { program := "ytbckbmcnakedcaa", sum := "f43a92e4bab419071db879e99e4f64bed30760526049a8ad91c122daeecfea0b", func := "loop.example/g00989/laws.FnExactInvertInterval", spec := "fnExactInvertInterval", plainKeys := false, apart := false, narrowed := true }
def FnExactInvertIntervalUptoSaid : Prop := fnExactInvertIntervalUptoRow.holds Try.pinned (OpenSpec.upto fnExactInvertIntervalSpec)

end Rows
end Go.Proofs.Ytbckbmcnakedcaa
